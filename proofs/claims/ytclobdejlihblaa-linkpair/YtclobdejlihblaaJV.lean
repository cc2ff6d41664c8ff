/- Plain: two ends over a road. -/
import Derived.Test.YtclobdejlihblaaJS
namespace Go.Proofs.Ytclobdejlihblaa
open Go Go.RowKit
set_option maxRecDepth 20000
/-- The end that offers: of the texts so many were offered, so many acknowledged. -/
def endA (x0 x1 : Int) (ts : List ByteArray) (k nx : Nat) : En := ⟨1, x0, x1, false, k, (ts.take nx).drop k, 0, []⟩
/-- The end that hears: of the texts so many were taken, so many popped. -/
def endB (x0 x1 : Int) (ts : List ByteArray) (ep : Int) (q m : Nat) : En := ⟨ep, x0, x1, true, 0, [], q, (ts.take m).drop q⟩
def thereOk (ts : List ByteArray) (f : Fra) : Prop := f.1 = 1 ∧ f.2.2.1 = 0 ∧ f.2.2.2.size ≤ 1000 ∧ (f.2.1 = 0 ∨ ∃ j, j < ts.length ∧ f.2.1 = ((j + 1 : Nat) : Int) ∧ f.2.2.2 = ts.getD j emp)
def backOk (f : Fra) : Prop := f.1 = 1 ∧ f.2.1 = 0 ∧ f.2.2.2.size ≤ 1000
theorem off_zero (E : En) (x : ByteArray) (h : E.offe = 0) : E.off x = { E with ds := E.ds ++ [x] } := by
  unfold En.offe offE at h
  unfold En.off offD
  split at h
  · cases h
  · rename_i h1
    rw [if_neg h1]
    split at h
    · cases h
    · rename_i h2
      rw [if_neg h2]
theorem off_nz (E : En) (x : ByteArray) (h : E.offe ≠ 0) : E.off x = E := by
  unfold En.offe offE at h
  unfold En.off offD
  split at h
  · rename_i h1
    rw [if_pos h1]
  · rename_i h1
    rw [if_neg h1]
    split at h
    · rename_i h2
      rw [if_pos h2]
    · exact absurd rfl h
section
variable {x0 x1 : Int} {ts : List ByteArray} {k nx q m : Nat} {ep : Int}
theorem ds_len (hn : nx ≤ ts.length) : ((ts.take nx).drop k).length = nx - k := by
  rw [List.length_drop, List.length_take]; omega
theorem ds_snoc (hk : k ≤ nx) (hn : nx < ts.length) : (ts.take nx).drop k ++ [ts.getD nx emp] = (ts.take (nx + 1)).drop k := by
  rw [take_snoc hn, List.drop_append_of_le_length (by rw [List.length_take]; omega)]
theorem ds_get {i : Nat} (hi : k + i < nx) : ((ts.take nx).drop k).getD i emp = ts.getD (k + i) emp := by
  simp only [List.getD_eq_getElem?_getD, List.getElem?_drop, List.getElem?_take]
  rw [if_pos (by omega)]
theorem packM_le (k len : Nat) (n : Int) : ackM k len n ≤ len := by
  unfold ackM
  split
  · exact Nat.zero_le _
  · omega
theorem pa_off (hk : k ≤ nx) (hn : nx < ts.length) (h : (endA x0 x1 ts k nx).offe = 0) : (endA x0 x1 ts k nx).off (ts.getD nx emp) = endA x0 x1 ts k (nx + 1) := by
  rw [off_zero _ _ h]
  unfold endA
  simp only
  rw [ds_snoc hk hn]
/-- A refusal: as many wait as the window lets. -/
theorem pa_full (hk : k ≤ nx) (hn : nx ≤ ts.length) (h30 : ts.length ≤ 30) (h : (endA x0 x1 ts k nx).offe ≠ 0) : k < nx := by
  unfold En.offe offE endA at h
  simp only [ds_len hn] at h
  have e1 : (1 : Int) ≤ winOf x0 := by unfold winOf; omega
  have e2 : lastOf 1125899906842624 = 1125899906842624 := rfl
  rw [e2] at h
  split at h
  · omega
  · split at h
    · omega
    · exact absurd rfl h
theorem pa_hear {f : Fra} (hf : backOk f) (hn : nx ≤ ts.length) (hk : k ≤ nx) : (endA x0 x1 ts k nx).hear f = endA x0 x1 ts (k + ackM k (nx - k) f.2.2.1) nx ∧ (endA x0 x1 ts k nx).anew f = false ∧ k + ackM k (nx - k) f.2.2.1 ≤ nx := by
  obtain ⟨e, s, a, d⟩ := f
  obtain ⟨h1, h2, _⟩ := hf
  simp only at h1 h2
  subst h1 h2
  have hl := packM_le k (nx - k) a
  refine ⟨?_, rfl, by simp only; omega⟩
  unfold En.hear endA
  rw [if_neg (by simp), if_neg (by simp)]
  rw [take_zero]
  simp only [ds_len hn, List.drop_drop]
theorem roomR (x1 : Int) : ∃ R : Nat, Rcv.roomOf x1 = (R : Int) ∧ 1 ≤ R ∧ R ≤ 16 := ⟨(Rcv.roomOf x1).toNat, by unfold Rcv.roomOf; omega, by unfold Rcv.roomOf; omega, by unfold Rcv.roomOf; omega⟩
/-- How it stands at the end that hears. -/
def PB (ts : List ByteArray) (ep : Int) (q m : Nat) : Prop := q ≤ m ∧ m ≤ ts.length ∧ (ep = 1 ∨ ep = 0 ∧ m = 0)
/-- What a frame of the epoch 1 makes of it. -/
theorem pb_take {s : Int} {d : ByteArray} (hp : PB ts ep q m) : (endB x0 x1 ts ep q m).hear (1, s, 0, d) = ⟨1, x0, x1, true, 0, [], q, Rcv.hearD (Rcv.roomOf x1) q ((ts.take m).drop q) s d⟩ := by
  obtain ⟨h1, h2, h3⟩ := hp
  have e2 : ackM 0 0 0 = 0 := rfl
  rcases h3 with rfl | ⟨rfl, rfl⟩
  · unfold En.hear endB
    rw [if_neg (by simp), if_neg (by simp)]
    unfold En.take
    simp only [List.length_nil, List.drop_nil, e2]
  · obtain rfl : q = 0 := by omega
    unfold En.hear endB
    rw [if_neg (by simp), if_pos (by simp)]
    unfold En.fresh En.take
    have e1 : clampE 1 = 1 := rfl
    simp only [List.length_nil, List.drop_nil, List.take_zero, e1, e2]
theorem pb_anew {s : Int} {d : ByteArray} : ∃ an, (endB x0 x1 ts ep q m).anew (1, s, 0, d) = an := ⟨_, rfl⟩
/-- The next piece, and room for it: it is taken. -/
theorem pb_yes (hq : q ≤ m) (hm : m < ts.length) (hr : ((m - q : Nat) : Int) < Rcv.roomOf x1) : Rcv.hearD (Rcv.roomOf x1) q ((ts.take m).drop q) ((m + 1 : Nat) : Int) (ts.getD m emp) = (ts.take (m + 1)).drop q := by
  unfold Rcv.hearD
  rw [if_pos, ds_snoc hq hm]
  refine ⟨?_, ?_⟩
  · rw [ds_len (by omega)]; omega
  · rw [ds_len (by omega)]; exact hr
theorem pb_no {s : Int} {d : ByteArray} (hq : q ≤ m) (hm : m ≤ ts.length) (h : s ≠ ((m + 1 : Nat) : Int) ∨ Rcv.roomOf x1 ≤ ((m - q : Nat) : Int)) : Rcv.hearD (Rcv.roomOf x1) q ((ts.take m).drop q) s d = (ts.take m).drop q := by
  unfold Rcv.hearD
  rw [if_neg]
  rintro ⟨h1, h2⟩
  rw [ds_len hm] at h1 h2
  rcases h with h | h
  · exact h (by omega)
  · omega
theorem pb_hear {f : Fra} (hf : thereOk ts f) (hp : PB ts ep q m) : ∃ m', PB ts 1 q m' ∧ (endB x0 x1 ts ep q m).hear f = endB x0 x1 ts 1 q m' := by
  obtain ⟨e, s, a, d⟩ := f
  obtain ⟨h1, h2, _, h3⟩ := hf
  simp only at h1 h2 h3
  subst h1 h2
  rw [pb_take hp]
  obtain ⟨p1, p2, _⟩ := hp
  by_cases hs : s = ((m + 1 : Nat) : Int) ∧ ((m - q : Nat) : Int) < Rcv.roomOf x1
  · obtain ⟨rfl, hr⟩ := hs
    rcases h3 with h3 | ⟨j, hj, e1, rfl⟩
    · omega
    · obtain rfl : j = m := by omega
      refine ⟨j + 1, ⟨by omega, by omega, .inl rfl⟩, ?_⟩
      rw [pb_yes p1 hj hr]
      rfl
  · refine ⟨m, ⟨p1, p2, .inl rfl⟩, ?_⟩
    rw [pb_no p1 p2 (by omega)]
    rfl
theorem pa_frames (hs : ∀ d ∈ ts, d.size ≤ 50) (hk : k ≤ nx) (hn : nx ≤ ts.length) : ∀ f ∈ (endA x0 x1 ts k nx).frames, thereOk ts f := by
  intro f hf
  by_cases hd : ((ts.take nx).drop k).length = 0
  · have e : (ts.take nx).drop k = [] := List.eq_nil_of_length_eq_zero hd
    unfold endA at hf
    rw [e, fr_none (by decide)] at hf
    simp only [List.mem_singleton] at hf
    subst hf
    exact ⟨rfl, rfl, by decide, .inl rfl⟩
  · unfold endA at hf
    rw [fr_some (by decide) hd] at hf
    obtain ⟨i, hi, rfl⟩ := List.getElem_of_mem hf
    have hl := frs_len 1 ((0 + ([] : List ByteArray).length : Nat) : Int) k ((ts.take nx).drop k)
    have hil : i < nx - k := by rw [hl, ds_len hn] at hi; exact hi
    have hg := frs_get 1 ((0 + ([] : List ByteArray).length : Nat) : Int) k ((ts.take nx).drop k) i (by rw [ds_len hn]; exact hil)
    rw [ds_get (by omega)] at hg
    have he : (frs 1 ((0 + ([] : List ByteArray).length : Nat) : Int) k ((ts.take nx).drop k))[i] = (1, ((k + i + 1 : Nat) : Int), ((0 + ([] : List ByteArray).length : Nat) : Int), ts.getD (k + i) emp) := by
      rw [← hg, List.getD_eq_getElem?_getD, List.getElem?_eq_getElem hi]
      rfl
    rw [he]
    refine ⟨rfl, rfl, ?_, .inr ⟨k + i, by omega, rfl, rfl⟩⟩
    have := hs _ (getD_mem (i := k + i) (ds := ts) (by omega))
    simp only
    omega
theorem pb_frames : ∀ f ∈ (endB x0 x1 ts ep q m).frames, backOk f ∨ ep ≠ 1 := by
  intro f hf
  by_cases h : ep = 1
  · subst h
    unfold endB at hf
    rw [fr_none (by decide)] at hf
    simp only [List.mem_singleton] at hf
    subst hf
    exact .inl ⟨rfl, rfl, by show (0 : Nat) ≤ 1000; decide⟩
  · exact .inr h
theorem pb_frames0 : (endB x0 x1 ts 0 q m).frames = [] := by
  unfold endB En.frames
  rw [if_pos rfl]
theorem pb_frames1 (hq : q ≤ m) (hm : m ≤ ts.length) : (endB x0 x1 ts 1 q m).frames = [(1, 0, (m : Int), ⟨#[]⟩)] := by
  unfold endB
  rw [fr_none (by decide), ds_len hm, show q + (m - q) = m by omega]
theorem pb_pop (hq : q < m) (hm : m ≤ ts.length) : (endB x0 x1 ts ep q m).pop = endB x0 x1 ts ep (q + 1) m ∧ (endB x0 x1 ts ep q m).ps.headD emp = ts.getD q emp ∧ (!(endB x0 x1 ts ep q m).ps.isEmpty) = true := by
  have e : (ts.take m).drop q = ts.getD q emp :: (ts.take m).drop (q + 1) := by
    rw [drop_cons (by rw [List.length_take]; omega)]
    congr 1
    simp only [List.getD_eq_getElem?_getD, List.getElem?_take]
    rw [if_pos hq]
  unfold En.pop endB
  simp only [e]
  refine ⟨?_, rfl, rfl⟩
  simp
theorem pb_none (hm : m ≤ ts.length) : (endB x0 x1 ts ep m m).pop = endB x0 x1 ts ep m m ∧ (endB x0 x1 ts ep m m).ps.headD emp = emp ∧ (!(endB x0 x1 ts ep m m).ps.isEmpty) = false := by
  have e : (ts.take m).drop m = [] := List.drop_eq_nil_of_le (by rw [List.length_take]; omega)
  unfold En.pop endB
  simp only [e]
  exact ⟨rfl, rfl, rfl⟩
/-- The end that hears, behind so many frames of one round. -/
def bAt (x0 x1 : Int) (ts : List ByteArray) (R : Nat) (ep : Int) (m D j : Nat) : En := endB x0 x1 ts (if j = 0 then ep else 1) m (m + min (min j D) R)
theorem pe_len (hn : nx ≤ ts.length) : (endA x0 x1 ts k nx).frames.length = max (nx - k) 1 := by
  have := frames_max (E := endA x0 x1 ts k nx) (show (1 : Int) ≠ 0 by decide)
  rw [this]
  show max ((ts.take nx).drop k).length 1 = _
  rw [ds_len hn]
theorem pe_get (hn : nx ≤ ts.length) {j : Nat} (hj : j < max (nx - k) 1) : ∃ s d, (endA x0 x1 ts k nx).frames.getD j fr0 = (1, s, 0, d) ∧ ((nx - k = 0 ∧ s = 0 ∧ d = ⟨#[]⟩) ∨ (j < nx - k ∧ s = ((k + j + 1 : Nat) : Int) ∧ d = ts.getD (k + j) emp)) := by
  by_cases hd : ((ts.take nx).drop k).length = 0
  · have e : (ts.take nx).drop k = [] := List.eq_nil_of_length_eq_zero hd
    rw [ds_len hn] at hd
    obtain rfl : j = 0 := by omega
    refine ⟨0, ⟨#[]⟩, ?_, .inl ⟨hd, rfl, rfl⟩⟩
    unfold endA
    rw [e, fr_none (by decide)]
    rfl
  · have hdl := hd
    rw [ds_len hn] at hdl
    refine ⟨_, _, ?_, .inr ⟨by omega, rfl, rfl⟩⟩
    unfold endA
    rw [fr_some (by decide) hd, frs_get _ _ _ _ j (by rw [ds_len hn]; omega), ds_get (by omega)]
    rfl
/-- A frame of the round, heard the first time. -/
theorem pe_hear1 {R D j : Nat} {s : Int} {d : ByteArray} (hR : Rcv.roomOf x1 = (R : Int)) (h1 : 1 ≤ R) (hmD : m + D ≤ ts.length) (hep : ep = 1 ∨ ep = 0 ∧ m = 0) (hf : (D = 0 ∧ s = 0 ∧ d = ⟨#[]⟩) ∨ (j < D ∧ s = ((m + j + 1 : Nat) : Int) ∧ d = ts.getD (m + j) emp)) : (bAt x0 x1 ts R ep m D j).hear (1, s, 0, d) = bAt x0 x1 ts R ep m D (j + 1) := by
  unfold bAt
  rw [if_neg (show ¬ j + 1 = 0 by omega)]
  have hp : PB ts (if j = 0 then ep else 1) m (m + min (min j D) R) := by
    refine ⟨by omega, by omega, ?_⟩
    split
    · rename_i h0
      subst h0
      rcases hep with h | ⟨h, h'⟩
      · exact .inl h
      · exact .inr ⟨h, by omega⟩
    · exact .inl rfl
  rw [pb_take hp]
  rcases hf with ⟨rfl, rfl, rfl⟩ | ⟨hj, rfl, rfl⟩
  · rw [hearD_zero]
    have e : min (min (j + 1) 0) R = min (min j 0) R := by omega
    rw [e]
    rfl
  · by_cases hr : j < R
    · have e1 : min (min j D) R = j := by omega
      have e2 : min (min (j + 1) D) R = j + 1 := by omega
      rw [e1, e2, pb_yes (by omega) (by omega) (by rw [hR]; omega)]
      rfl
    · have e1 : min (min j D) R = R := by omega
      have e2 : min (min (j + 1) D) R = R := by omega
      rw [e1, e2, pb_no (by omega) (by omega) (.inr (by rw [hR]; omega))]
      rfl
/-- And heard again. -/
theorem pe_hear2 {R D j : Nat} {s : Int} {d : ByteArray} (hR : Rcv.roomOf x1 = (R : Int)) (hmD : m + D ≤ ts.length) (hf : (D = 0 ∧ s = 0 ∧ d = ⟨#[]⟩) ∨ (j < D ∧ s = ((m + j + 1 : Nat) : Int) ∧ d = ts.getD (m + j) emp)) : (bAt x0 x1 ts R ep m D (j + 1)).hear (1, s, 0, d) = bAt x0 x1 ts R ep m D (j + 1) := by
  unfold bAt
  rw [if_neg (show ¬ j + 1 = 0 by omega)]
  have hp : PB ts 1 m (m + min (min (j + 1) D) R) := ⟨by omega, by omega, .inl rfl⟩
  rw [pb_take hp]
  rcases hf with ⟨rfl, rfl, rfl⟩ | ⟨hj, rfl, rfl⟩
  · rw [hearD_zero]
    rfl
  · by_cases hr : j < R
    · have e2 : min (min (j + 1) D) R = j + 1 := by omega
      rw [e2, pb_no (by omega) (by omega) (.inl (by omega))]
      rfl
    · have e2 : min (min (j + 1) D) R = R := by omega
      rw [e2, pb_no (by omega) (by omega) (.inr (by rw [hR]; omega))]
      rfl
theorem pe_ack {m1 : Nat} (hk : k ≤ m1) (h1 : m1 ≤ nx) : k + ackM k (nx - k) (m1 : Int) = m1 := by
  unfold ackM
  by_cases h : m1 = k
  · subst h
    rw [if_pos (by omega)]
    rfl
  · rw [if_neg (by omega)]
    omega
end
end Go.Proofs.Ytclobdejlihblaa
