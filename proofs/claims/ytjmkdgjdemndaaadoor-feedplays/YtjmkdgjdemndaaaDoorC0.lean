/- A log, plain: the rounds that came to be common, and what one more is answered. -/
import Derived.Test.YtjmkdgjdemndaaaDoorI4
namespace Go.Proofs.YtjmkdgjdemndaaaDoor
open Go Go.RowKit
/-- A common round: its origin, its number, its updates. -/
abbrev Cr := Int × Int × List Up
def kR (r : Rn) : Cr := (r.o, r.n, r.us)
def kr0 : Cr := kR rn0
/-- The number of an origin's last round. -/
def lastL (o : Int) (L : List Cr) : Int := L.foldl (fun a r => if r.1 = o then r.2.1 else a) 0
theorem lastL_snoc (o : Int) (L : List Cr) (r : Cr) : lastL o (L ++ [r]) = if r.1 = o then r.2.1 else lastL o L := by simp [lastL, List.foldl_append]
/-- What a round that comes is answered. -/
def comE (c : Int) (L : List Cr) (r : Cr) : Int :=
  if mayR r.1 r.2.1 r.2.2 = 0 then (if c < r.1 then 11 else if r.2.1 ≤ lastL r.1 L then 12 else if lastL r.1 L + 1 < r.2.1 then 10 else 0) else mayR r.1 r.2.1 r.2.2
def comL (c : Int) (L : List Cr) (r : Cr) : List Cr := if comE c L r = 0 then L ++ [r] else L
theorem comL_yes {c : Int} {L : List Cr} {r : Cr} (h : comE c L r = 0) : comL c L r = L ++ [r] := if_pos h
theorem comL_no {c : Int} {L : List Cr} {r : Cr} (h : ¬ comE c L r = 0) : comL c L r = L := if_neg h
theorem comL_len (c : Int) (L : List Cr) (r : Cr) : (comL c L r).length ≤ L.length + 1 := by
  unfold comL
  split
  · simp
  · omega
theorem comE_may {c : Int} {L : List Cr} {r : Cr} (h : ¬ mayR r.1 r.2.1 r.2.2 = 0) : comE c L r = mayR r.1 r.2.1 r.2.2 := if_neg h
theorem comE_zero {c : Int} {L : List Cr} {r : Cr} (h : comE c L r = 0) : mayR r.1 r.2.1 r.2.2 = 0 ∧ r.1 ≤ c ∧ r.2.1 = lastL r.1 L + 1 := by
  unfold comE at h
  by_cases h0 : mayR r.1 r.2.1 r.2.2 = 0
  · rw [if_pos h0] at h
    split at h
    · omega
    · split at h
      · omega
      · split at h
        · omega
        · exact ⟨h0, by omega, by omega⟩
  · rw [if_neg h0] at h
    exact absurd h h0
def runL (c : Int) (L : List Cr) (rs : List Cr) : List Cr := rs.foldl (comL c) L
theorem runL_snoc (c : Int) (L rs : List Cr) (r : Cr) : runL c L (rs ++ [r]) = comL c (runL c L rs) r := by simp [runL, List.foldl_append]
/-- Logs as they come to be. -/
inductive Good (c : Int) : List Cr → Prop
  | nil : Good c []
  | snoc {L : List Cr} {r : Cr} (h : Good c L) (he : comE c L r = 0) : Good c (L ++ [r])
theorem Good.com {c : Int} {L : List Cr} (h : Good c L) (r : Cr) : Good c (comL c L r) := by
  unfold comL
  split
  · exact h.snoc ‹_›
  · exact h
theorem Good.inv {c : Int} {X : List Cr} (h : Good c X) : ∀ L r, X = L ++ [r] → Good c L ∧ comE c L r = 0 := by
  intro L r e
  cases h with
  | nil => simp at e
  | snoc h he =>
    obtain ⟨rfl, e2⟩ := List.append_inj' e rfl
    cases e2
    exact ⟨h, he⟩
theorem Good.bound {c : Int} {L : List Cr} (h : Good c L) : ∀ o, 0 ≤ lastL o L ∧ lastL o L ≤ 1099511627776 := by
  induction h with
  | nil => intro o; exact ⟨Int.le_refl _, show (0 : Int) ≤ 1099511627776 by decide⟩
  | snoc h he ih =>
    intro o
    rw [lastL_snoc]
    split
    · obtain ⟨h1, _, _⟩ := comE_zero he
      obtain ⟨h2, _⟩ := mayR_zero h1
      unfold headOk at h2
      omega
    · exact ih o
theorem Good.none {c : Int} {L : List Cr} (h : Good c L) : ∀ o, o < 1 ∨ c < o → lastL o L = 0 := by
  induction h with
  | nil => intro o _; rfl
  | snoc h he ih =>
    intro o ho
    rw [lastL_snoc]
    split
    · obtain ⟨h1, h3, _⟩ := comE_zero he
      obtain ⟨h2, _⟩ := mayR_zero h1
      unfold headOk at h2
      omega
    · exact ih o ho
theorem Good.each {c : Int} {L : List Cr} (h : Good c L) : ∀ r ∈ L, mayR r.1 r.2.1 r.2.2 = 0 ∧ r.1 ≤ c ∧ r.2.1 ≤ lastL r.1 L := by
  induction h with
  | nil => intro r hr; cases hr
  | @snoc L r' h he ih =>
    intro r hr
    obtain ⟨h1, h2, h3⟩ := comE_zero he
    rw [lastL_snoc]
    rcases List.mem_append.1 hr with hr | hr
    · obtain ⟨i1, i2, i3⟩ := ih r hr
      refine ⟨i1, i2, ?_⟩
      split
      · rename_i e
        rw [e] at h3
        omega
      · exact i3
    · rw [List.mem_singleton.1 hr]
      exact ⟨h1, h2, by rw [if_pos rfl]; exact Int.le_refl _⟩
/-- A round that is there already is refused so. -/
theorem Good.twice {c : Int} {L : List Cr} (h : Good c L) {r : Cr} (hr : r ∈ L) : comE c L r = 12 := by
  obtain ⟨h1, h2, h3⟩ := h.each r hr
  unfold comE
  rw [if_pos h1, if_neg (by omega), if_pos h3]
theorem Good.take {c : Int} {L : List Cr} (h : Good c L) : ∀ k, Good c (L.take k) := by
  induction h with
  | nil => intro k; rw [List.take_nil]; exact .nil
  | @snoc L r h he ih =>
    intro k
    by_cases hk : k ≤ L.length
    · rw [List.take_append_of_le_length hk]
      exact ih k
    · rw [List.take_of_length_le (by simp; omega)]
      exact h.snoc he
theorem take_one {L : List Cr} {k : Nat} (h : k < L.length) : L.take (k + 1) = L.take k ++ [L.getD k kr0] := by
  rw [List.take_add_one]; simp [List.getD_eq_getElem?_getD, h]
theorem Good.at' {c : Int} {L : List Cr} (h : Good c L) {k : Nat} (hk : k < L.length) : (L.getD k kr0).2.1 = lastL (L.getD k kr0).1 (L.take k) + 1 ∧ 1 ≤ (L.getD k kr0).1 ∧ (L.getD k kr0).1 ≤ c := by
  obtain ⟨h1, h2⟩ := (h.take (k + 1)).inv _ _ (take_one hk)
  obtain ⟨h3, h4, h5⟩ := comE_zero h2
  obtain ⟨h6, _⟩ := mayR_zero h3
  unfold headOk at h6
  exact ⟨h5, h6.1, h4⟩
/-- One origin's rounds. -/
def filt (p : Int) (L : List Cr) : List Cr := L.filter fun r => decide (r.1 = p)
theorem filt_snoc (p : Int) (L : List Cr) (r : Cr) : filt p (L ++ [r]) = if r.1 = p then filt p L ++ [r] else filt p L := by
  unfold filt
  rw [List.filter_append]
  by_cases h : r.1 = p
  · rw [if_pos h]; simp [h]
  · rw [if_neg h]; simp [h]
theorem filt_cons (p : Int) (L : List Cr) (r : Cr) : filt p (r :: L) = if r.1 = p then r :: filt p L else filt p L := by
  unfold filt
  rw [List.filter_cons]
  by_cases h : r.1 = p
  · rw [if_pos h]; simp [h]
  · rw [if_neg h]; simp [h]
theorem lastL_filt (p : Int) (L : List Cr) : lastL p (filt p L) = lastL p L := by
  unfold lastL filt
  rw [List.foldl_filter]
  congr 1
  funext x y
  by_cases h : y.1 = p
  · simp [h]
  · simp [h]
theorem comE_filt (c : Int) (L : List Cr) (r : Cr) : comE c (filt r.1 L) r = comE c L r := by
  unfold comE
  rw [lastL_filt]
theorem filt_com (c p : Int) (L : List Cr) (r : Cr) : filt p (comL c L r) = if r.1 = p then comL c (filt p L) r else filt p L := by
  by_cases h : r.1 = p
  · rw [if_pos h]
    subst h
    unfold comL
    rw [comE_filt]
    by_cases he : comE c L r = 0
    · rw [if_pos he, if_pos he, filt_snoc, if_pos rfl]
    · rw [if_neg he, if_neg he]
  · rw [if_neg h]
    unfold comL
    by_cases he : comE c L r = 0
    · rw [if_pos he, filt_snoc, if_neg h]
    · rw [if_neg he]
theorem filt_run (c p : Int) : ∀ (rs L : List Cr), filt p (runL c L rs) = runL c (filt p L) (filt p rs)
  | [], L => rfl
  | r :: rs, L => by
    have ih := filt_run c p rs (comL c L r)
    have e1 : runL c L (r :: rs) = runL c (comL c L r) rs := rfl
    rw [e1, ih, filt_com, filt_cons]
    by_cases h : r.1 = p
    · rw [if_pos h, if_pos h]; rfl
    · rw [if_neg h, if_neg h]
theorem filt_none (p : Int) (L : List Cr) (h : ∀ r ∈ L, ¬ r.1 = p) : filt p L = [] := by
  unfold filt
  rw [List.filter_eq_nil_iff]
  intro r hr
  simpa using h r hr
theorem filt_all (p : Int) (L : List Cr) (h : ∀ r ∈ L, r.1 = p) : filt p L = L := by
  unfold filt
  rw [List.filter_eq_self]
  intro r hr
  simpa using h r hr
theorem mem_filt {p : Int} {L : List Cr} {r : Cr} : r ∈ filt p L ↔ r ∈ L ∧ r.1 = p := by simp [filt]
/-- All but one origin's. -/
def rest (p : Int) (L : List Cr) : List Cr := L.filter fun r => !decide (r.1 = p)
theorem rest_snoc (p : Int) (L : List Cr) (r : Cr) : rest p (L ++ [r]) = if r.1 = p then rest p L else rest p L ++ [r] := by
  unfold rest
  rw [List.filter_append]
  by_cases h : r.1 = p
  · rw [if_pos h]; simp [h]
  · rw [if_neg h]; simp [h]
theorem filt_rest (p q : Int) (h : ¬ q = p) (L : List Cr) : filt q (rest p L) = filt q L := by
  unfold filt rest
  rw [List.filter_filter]
  congr 1
  funext r
  by_cases e : r.1 = q
  · simp [e, h]
  · simp [e]
theorem filt_filt_ne (p q : Int) (h : ¬ q = p) (L : List Cr) : filt q (filt p L) = [] := filt_none q _ fun r hr e => h (by rw [← e]; exact (mem_filt.1 hr).2)
theorem filt_filt (p : Int) (L : List Cr) : filt p (filt p L) = filt p L := filt_all p _ fun _ hr => (mem_filt.1 hr).2
/-- However two origins' rounds are mixed, the common order has of each one the same. -/
theorem mix_filt (c p : Int) (rs : List Cr) (q : Int) : filt q (runL c (runL c [] (filt p rs)) (rest p rs)) = filt q (runL c [] rs) := by
  rw [filt_run, filt_run, filt_run]
  by_cases h : q = p
  · subst h
    have e : filt q (rest q rs) = [] := filt_none q _ fun r hr => by
      unfold rest at hr
      simpa using (List.mem_filter.1 hr).2
    rw [e, filt_filt]
    rfl
  · rw [filt_filt_ne p q h, filt_rest p q h]
    rfl
theorem filt_rest_len (p : Int) (L : List Cr) : (filt p L).length + (rest p L).length = L.length := by
  induction L with
  | nil => rfl
  | cons r L ih =>
    unfold filt rest at *
    rw [List.filter_cons, List.filter_cons]
    by_cases h : r.1 = p
    · simp [h]; omega
    · simp [h]; omega
theorem len_of_filt : ∀ (n : Nat) (A B : List Cr), A.length ≤ n → (∀ q, filt q A = filt q B) → A.length = B.length
  | n, [], B, _, h => by
    cases B with
    | nil => rfl
    | cons b B =>
      have := h b.1
      rw [filt_cons, if_pos rfl] at this
      cases this
  | 0, a :: A, B, hn, _ => absurd hn (by simp)
  | n + 1, a :: A, B, hn, h => by
    have h1 := filt_rest_len a.1 (a :: A)
    have h2 := filt_rest_len a.1 B
    have h3 : (filt a.1 (a :: A)).length = (filt a.1 A).length + 1 := by rw [filt_cons, if_pos rfl]; rfl
    have h4 : (filt a.1 (a :: A)).length = (filt a.1 B).length := by rw [h a.1]
    have hl : (a :: A).length = A.length + 1 := rfl
    have h5 := len_of_filt n (rest a.1 (a :: A)) (rest a.1 B) (by omega) fun q => by
      by_cases e : q = a.1
      · subst e
        rw [filt_none _ (rest a.1 (a :: A)), filt_none _ (rest a.1 B)]
        · intro r hr
          unfold rest at hr
          simpa using (List.mem_filter.1 hr).2
        · intro r hr
          unfold rest at hr
          simpa using (List.mem_filter.1 hr).2
      · rw [filt_rest _ _ e, filt_rest _ _ e]
        exact h q
    omega
theorem mix_len (c p : Int) (rs : List Cr) : (runL c (runL c [] (filt p rs)) (rest p rs)).length = (runL c [] rs).length :=
  len_of_filt _ _ _ (Nat.le_refl _) (mix_filt c p rs)
theorem mix_last (c p : Int) (rs : List Cr) : lastL p (runL c (runL c [] (filt p rs)) (rest p rs)) = lastL p (runL c [] rs) := by
  rw [← lastL_filt, mix_filt, lastL_filt]
theorem map_getD (rs : List Rn) (i : Nat) : (rs.map kR).getD i kr0 = kR (rs.getD i rn0) := by
  simp only [List.getD_eq_getElem?_getD, List.getElem?_map, kr0]
  cases rs[i]? <;> rfl
end Go.Proofs.YtjmkdgjdemndaaaDoor
