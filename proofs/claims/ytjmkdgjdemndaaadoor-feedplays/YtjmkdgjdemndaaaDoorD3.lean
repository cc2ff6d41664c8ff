/- How many a pump takes; rounds told, told again. -/
import Derived.Test.YtjmkdgjdemndaaaDoorD2
namespace Go.Proofs.YtjmkdgjdemndaaaDoor
open Go Go.RowKit
set_option maxRecDepth 20000
theorem off_ok {E : K.En} (h : E.offe = 0) (x : ByteArray) : E.off x = { E with ds := E.ds ++ [x] } ∧ (E.ds.length : Int) < K.winOf E.wa := by
  obtain ⟨ep, wa, ra, pas, k, ds, q, ps⟩ := E
  unfold K.En.offe K.offE at h
  unfold K.En.off K.offD
  simp only at h ⊢
  split at h
  · exact absurd h (by decide)
  · rename_i h1
    rw [if_neg h1]
    split at h
    · exact absurd h (by decide)
    · rename_i h2
      rw [if_neg h2]
      exact ⟨rfl, by omega⟩
/-- What a pump leaves: as many more as it took. -/
theorem pump_is : ∀ (rs : List Cr) (E : K.En), pumpE E rs = { E with ds := E.ds ++ (rs.take (pumpN E rs)).map pxC }
  | [], E => by simp [pumpE, pumpN]
  | r :: rs, E => by
    unfold pumpE pumpN
    split
    · rename_i h
      obtain ⟨e1, _⟩ := off_ok h (pxC r)
      have ih := pump_is rs (E.off (pxC r))
      rw [ih, e1]
      simp
    · simp
theorem win_in (n : Int) : 1 ≤ K.winOf n ∧ K.winOf n ≤ 16 := by unfold K.winOf; omega
theorem last_is : K.lastOf 1125899906842624 = 1125899906842624 := by decide
/-- How many a pump takes, while numbers are left. -/
theorem pump_min : ∀ (rs : List Cr) (E : K.En), (E.ds.length : Int) ≤ K.winOf E.wa → E.k + E.ds.length + rs.length ≤ 1000000 → (pumpN E rs : Int) = min (rs.length : Int) (K.winOf E.wa - (E.ds.length : Int))
  | [], E, h, _ => by
    simp only [pumpN, List.length_nil]
    omega
  | r :: rs, E, h, hb => by
    have hl : K.lastOf 1125899906842624 = 1125899906842624 := last_is
    by_cases he : E.offe = 0
    · obtain ⟨e1, e2⟩ := off_ok he (pxC r)
      have ih := pump_min rs (E.off (pxC r)) (by rw [e1]; simp only [List.length_append, List.length_singleton]; omega) (by rw [e1]; simp only [List.length_append, List.length_nil, List.length_cons] at hb ⊢; omega)
      unfold pumpN
      rw [if_pos he]
      rw [e1] at ih
      simp only [List.length_append, List.length_nil, List.length_cons] at ih ⊢
      rw [e1]
      omega
    · unfold pumpN
      rw [if_neg he]
      have : K.winOf E.wa ≤ (E.ds.length : Int) := by
        unfold K.En.offe K.offE at he
        rw [hl] at he
        split at he
        · assumption
        · split at he
          · rename_i h2
            simp only [List.length_cons] at hb
            omega
          · exact absurd rfl he
      simp only [List.length_cons]
      omega
/-- Pumped again, nothing more is told. -/
theorem pump_again : ∀ (rs : List Cr) (E : K.En), pumpE (pumpE E rs) (rs.drop (pumpN E rs)) = pumpE E rs ∧ pumpN (pumpE E rs) (rs.drop (pumpN E rs)) = 0
  | [], E => ⟨rfl, rfl⟩
  | r :: rs, E => by
    by_cases he : E.offe = 0
    · have e1 : pumpE E (r :: rs) = pumpE (E.off (pxC r)) rs := if_pos he
      have e2 : pumpN E (r :: rs) = pumpN (E.off (pxC r)) rs + 1 := if_pos he
      rw [e1, e2, List.drop_succ_cons]
      exact pump_again rs _
    · have e1 : pumpE E (r :: rs) = E := if_neg he
      have e2 : pumpN E (r :: rs) = 0 := if_neg he
      rw [e1, e2, List.drop_zero]
      exact ⟨e1, e2⟩
/-- What is on its way at first. -/
def gF (ep : Int) (ds : List ByteArray) : List K.Fra := if ds.length = 0 then [(ep, 0, 0, ⟨#[]⟩)] else K.frs ep 0 0 ds
theorem frames_gF {ep wa ra : Int} {pas : Bool} {ds : List ByteArray} (h : ep ≠ 0) : K.En.frames ⟨ep, wa, ra, pas, 0, ds, 0, []⟩ = gF ep ds := by
  unfold K.En.frames gF
  rw [if_neg h]
  rfl
theorem gF_len (ep : Int) (ds : List ByteArray) : (gF ep ds).length = if ds.length = 0 then 1 else ds.length := by
  unfold gF
  split
  · rfl
  · exact K.frs_len _ _ _ _
theorem gF_at (e e' : Int) (ds : List ByteArray) (i : Nat) (hi : i < (gF e ds).length) : ∃ s d, (gF e ds).getD i K.fr0 = (e, s, 0, d) ∧ (gF e' ds).getD i K.fr0 = (e', s, 0, d) := by
  rw [gF_len] at hi
  unfold gF
  split
  · rename_i h
    rw [if_pos h] at hi
    obtain rfl : i = 0 := by omega
    exact ⟨0, ⟨#[]⟩, rfl, rfl⟩
  · rename_i h
    rw [if_neg h] at hi
    exact ⟨_, _, K.frs_get e 0 0 ds i hi, K.frs_get e' 0 0 ds i hi⟩
theorem K.RowF.othF {B : Nat} {w w' : World} {v : Value} {fs : List K.Fra} (h : K.RowF B w v fs) (ho : OthF w w') : K.RowF B w' v fs := h.same fun j hj => by
  obtain ⟨c, hc⟩ := h.typ j hj
  exact ho j _ _ _ hc (by decide) (by decide) (by decide) (by decide) (by decide)
section
variable {w w' : World} {g : Nat} {xs : List Rn} {B : Nat}
theorem Rz.oth (h : Rz w g xs) (ho : OthF w w') : Rz w' g xs := (ho g _ _ _ h (by decide) (by decide) (by decide) (by decide) (by decide)).trans h
theorem Own.oth {r : Rn} (h : Own B w r) (ho : OthF w w') : Own B w' r := by
  obtain ⟨g, e, hr, hb, e1, e2⟩ := h
  exact ⟨g, e, (ho g _ _ _ hr (by decide) (by decide) (by decide) (by decide) (by decide)).trans hr, hb, e1, e2⟩
theorem Own.next' {w1 : World} {r : Rn} (h : Own B w r) (hb : Below w.heap.size w w1) : Own B w1 r := by
  obtain ⟨g, e, hr, h1, e1, e2⟩ := h
  exact ⟨g, e, hr.next hb, h1, e1, e2⟩
end
end Go.Proofs.YtjmkdgjdemndaaaDoor
