/- Plain: what a store holds behind updates, and which keys. -/
import Derived.Test.YteonmljchcekpaaV4
namespace Go.Proofs.Yteonmljchcekpaa
open Go Go.RowKit
/-- A key, as the list of its bytes. -/
abbrev Ky := List UInt8
def ky (s : ByteArray) : Ky := s.data.toList
theorem ky_inj {s t : ByteArray} (h : ky s = ky t) : s = t := by
  obtain ⟨⟨a⟩⟩ := s
  obtain ⟨⟨b⟩⟩ := t
  have e : a = b := h
  rw [e]
/-- Which value each key has. -/
abbrev Fn := Ky → Vl
/-- What an update makes of it. -/
def doF (f : Fn) (u : Up) : Fn := fun k => if k = ky u.1 ∧ mayE u = 0 then oneV (f k) u else f k
def f0 : Fn := fun _ => noneV
/-- Which value each key has behind updates. -/
def stF (us : List Up) : Fn := us.foldl doF f0
theorem stF_take (us : List Up) (k : Nat) (h : k < us.length) (d : Up) : stF (us.take (k + 1)) = doF (stF (us.take k)) (us.getD k d) := by
  unfold stF
  rw [List.take_add_one, List.foldl_append]
  simp [List.getD_eq_getElem?_getD, h]
theorem stF_snoc (us : List Up) (u : Up) : stF (us ++ [u]) = doF (stF us) u := by simp [stF, List.foldl_append]
/-- A value that a store may hold, or none. -/
def Gd (v : Vl) : Prop := (v.1 = 0 → v = noneV) ∧ (v.1 = 0 ∨ v.1 = 1 ∨ v.1 = 2) ∧ Sh v.2.2
theorem gd_none : Gd noneV := ⟨fun _ => rfl, .inl rfl, by show (0 : Nat) ≤ _; omega⟩
theorem gd_num (n : Int) : Gd (numV n) := ⟨fun h => by simp [numV] at h, .inr (.inl rfl), by show (0 : Nat) ≤ _; omega⟩
theorem gd_txt (s : ByteArray) (h : Sh s) : Gd (txtV s) := ⟨fun h => by simp [txtV] at h, .inr (.inr rfl), h⟩
theorem gd_bare (v : Vl) (h : Sh v.2.2) : Gd (bareV v) := by
  unfold bareV; split
  · exact gd_num _
  split
  · exact gd_txt _ h
  · exact gd_none
theorem gd_one (v : Vl) (u : Up) (h : Sh v.2.2) (k : Sh u.2.2.2) : Gd (oneV v u) := by
  have hb := gd_bare v h
  unfold oneV
  generalize bareV v = y at hb
  unfold madeV; split
  · exact gd_num _
  split
  · exact gd_txt _ k
  split
  · unfold addV; split
    · exact hb
    · exact gd_num _
  split
  · unfold appV; split
    · exact gd_txt _ k
    split
    · exact hb
    · rename_i hh
      refine gd_txt _ ?_
      show (y.2.2 ++ u.2.2.2).size ≤ 100000
      rw [ByteArray.size_append]; omega
  split
  · exact gd_none
  · exact hb
theorem gd_do {f : Fn} {u : Up} (hf : ∀ k, Gd (f k)) (hu : Sh u.2.2.2) : ∀ k, Gd (doF f u k) := fun k => by
  unfold doF; split
  · exact gd_one _ _ (hf k).2.2 hu
  · exact hf k
theorem gd_fold (us : List Up) (hu : ∀ u ∈ us, Sh u.2.2.2) : ∀ f : Fn, (∀ k, Gd (f k)) → ∀ k, Gd (us.foldl doF f k) := by
  induction us with
  | nil => exact fun f hf => hf
  | cons u us ih => exact fun f hf => ih (fun x hx => hu x (List.mem_cons_of_mem _ hx)) _ (gd_do hf (hu u List.mem_cons_self))
theorem gd_st (us : List Up) (hu : ∀ u ∈ us, Sh u.2.2.2) (k : Ky) : Gd (stF us k) := gd_fold us hu f0 (fun _ => gd_none) k
/-- The keys that have a value, rising. -/
def KeyL (f : Fn) (ss : List Ky) : Prop := ss.Pairwise (fun a b => a < b) ∧ ∀ k, k ∈ ss ↔ (f k).1 ≠ 0
theorem lt_le {a b : Ky} (h : a < b) : a ≤ b := List.le_of_lt h
theorem sorted_nodup {ss : List Ky} (h : ss.Pairwise (fun a b => a < b)) : ss.Nodup := h.imp fun {a b} hab e => by subst e; exact List.lt_irrefl _ hab
theorem sorted_eq {ss ts : List Ky} (h : ss.Pairwise (fun a b => a < b)) (k : ts.Pairwise (fun a b => a < b)) (he : ∀ x, x ∈ ss ↔ x ∈ ts) : ss = ts :=
  List.Perm.eq_of_pairwise (le := fun a b => a ≤ b) (fun _ _ _ _ h1 h2 => List.le_antisymm h1 h2) (h.imp lt_le) (k.imp lt_le) ((List.perm_ext_iff_of_nodup (sorted_nodup h) (sorted_nodup k)).2 he)
theorem KeyL.eq {f : Fn} {ss ts : List Ky} (h : KeyL f ss) (k : KeyL f ts) : ss = ts := sorted_eq h.1 k.1 fun x => (h.2 x).trans (k.2 x).symm
/-- Only the updates of a key play a part for it. -/
theorem fold_at (k : Ky) (us : List Up) : ∀ f g : Fn, f k = g k → us.foldl doF f k = (us.filter fun u => decide (ky u.1 = k)).foldl doF g k := by
  induction us with
  | nil => exact fun f g h => h
  | cons u us ih =>
    intro f g h
    rw [List.foldl_cons]
    by_cases e : ky u.1 = k
    · rw [List.filter_cons_of_pos (by simpa using e), List.foldl_cons]
      refine ih _ _ ?_
      simp only [doF, h]
    · rw [List.filter_cons_of_neg (by simpa using e)]
      refine ih _ _ ?_
      have e' : ¬ (k = ky u.1 ∧ mayE u = 0) := fun x => e x.1.symm
      simp only [doF, if_neg e', h]
theorem stF_at (k : Ky) (us : List Up) : stF us k = stF (us.filter fun u => decide (ky u.1 = k)) k := fold_at k us f0 f0 rfl
def ownL (key : ByteArray) (us : List Up) : List Up := us.filter fun u => decide (u.1 = key)
def othL (key : ByteArray) (us : List Up) : List Up := us.filter fun u => !decide (u.1 = key)
theorem own_at (key : ByteArray) (us : List Up) : (us.filter fun u => decide (ky u.1 = ky key)) = ownL key us := by
  unfold ownL
  congr 1
  funext u
  by_cases e : u.1 = key
  · simp [e]
  · have : ¬ ky u.1 = ky key := fun x => e (ky_inj x)
    simp [e, this]
theorem oth_none (key : ByteArray) (us : List Up) : stF (othL key us) (ky key) = noneV := by
  have e : (othL key us).filter (fun u => decide (ky u.1 = ky key)) = [] := by
    rw [List.filter_eq_nil_iff]
    intro u hu hx
    have h1 : ky u.1 = ky key := by simpa using hx
    have h2 : ¬ u.1 = key := by
      have := (List.mem_filter.1 hu).2
      simpa using this
    exact h2 (ky_inj h1)
  rw [stF_at, e]; rfl
theorem apart_eq (key : ByteArray) (us : List Up) : stF (othL key us ++ ownL key us) = stF us := by
  funext k
  rw [stF_at k us, stF_at k (othL key us ++ ownL key us), List.filter_append]
  congr 1
  by_cases e : k = ky key
  · subst e
    have e1 : (othL key us).filter (fun u => decide (ky u.1 = ky key)) = [] := by
      rw [List.filter_eq_nil_iff]
      intro u hu hx
      have h1 : ky u.1 = ky key := by simpa using hx
      have h2 : ¬ u.1 = key := by simpa using (List.mem_filter.1 hu).2
      exact h2 (ky_inj h1)
    have e2 : (ownL key us).filter (fun u => decide (ky u.1 = ky key)) = ownL key us := by
      rw [List.filter_eq_self]
      intro u hu
      have h2 : u.1 = key := by simpa using (List.mem_filter.1 hu).2
      simp [h2]
    rw [e1, e2, own_at]; rfl
  · have e1 : (ownL key us).filter (fun u => decide (ky u.1 = k)) = [] := by
      rw [List.filter_eq_nil_iff]
      intro u hu hx
      have h1 : ky u.1 = k := by simpa using hx
      have h2 : u.1 = key := by simpa using (List.mem_filter.1 hu).2
      rw [h2] at h1
      exact e h1.symm
    have e2 : (othL key us).filter (fun u => decide (ky u.1 = k)) = us.filter (fun u => decide (ky u.1 = k)) := by
      unfold othL
      rw [List.filter_filter]
      congr 1
      funext u
      by_cases h1 : ky u.1 = k
      · have h2 : ¬ u.1 = key := fun x => e (by rw [← h1, x])
        simp [h1, h2]
      · simp [h1]
    rw [e1, e2, List.append_nil]
theorem fold_app (us vs : List Up) : stF (us ++ vs) = vs.foldl doF (stF us) := by simp [stF, List.foldl_append]
theorem doF_refused {f : Fn} {u : Up} (h : ¬ mayE u = 0) : doF f u = f := by
  funext k; simp [doF, h]
theorem one_twice (v : Vl) (u : Up) (h : u.2.1 = 1 ∨ u.2.1 = 2 ∨ u.2.1 = 5) : oneV (oneV v u) u = oneV v u := by
  rcases h with h | h | h <;> simp [oneV, madeV, h]
theorem doF_twice {f : Fn} {u : Up} (h : u.2.1 = 1 ∨ u.2.1 = 2 ∨ u.2.1 = 5) : doF (doF f u) u = doF f u := by
  funext k
  by_cases e : k = ky u.1 ∧ mayE u = 0
  · simp only [doF, if_pos e]; exact one_twice _ _ h
  · simp only [doF, if_neg e]
end Go.Proofs.Yteonmljchcekpaa
