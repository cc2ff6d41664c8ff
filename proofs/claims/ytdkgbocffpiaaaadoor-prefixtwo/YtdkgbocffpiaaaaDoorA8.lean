/- Plain mathematics: numbers put one behind the other. -/
import Derived.Test.YtdkgbocffpiaaaaDoorA6
namespace Go.Proofs.YtdkgbocffpiaaaaDoor
open Go
/-- Of the first k numbers those that can be put. -/
def keep (zs : List Int) (k : Nat) : List Int := (zs.take k).filter fun x => decide (x < 4611686018427387904)
theorem keep_zero (zs : List Int) : keep zs 0 = [] := rfl
theorem keep_yes (zs : List Int) (k : Nat) (hk : k < zs.length) (h : zs.getD k 0 < 4611686018427387904) : keep zs (k + 1) = keep zs k ++ [zs.getD k 0] := by
  unfold keep
  rw [List.take_succ_eq_append_getElem hk, List.filter_append]
  rw [List.getD_eq_getElem?_getD, List.getElem?_eq_getElem hk, Option.getD_some] at h ⊢
  simp [h]
theorem keep_no (zs : List Int) (k : Nat) (hk : k < zs.length) (h : ¬ zs.getD k 0 < 4611686018427387904) : keep zs (k + 1) = keep zs k := by
  unfold keep
  rw [List.take_succ_eq_append_getElem hk, List.filter_append]
  rw [List.getD_eq_getElem?_getD, List.getElem?_eq_getElem hk, Option.getD_some] at h
  simp [h]
theorem keep_length (zs : List Int) (k : Nat) : (keep zs k).length ≤ k := by
  unfold keep
  have h1 := List.length_filter_le (fun x : Int => decide (x < 4611686018427387904)) (zs.take k)
  have h2 : (zs.take k).length ≤ k := List.length_take_le _ _
  omega
theorem keep_mem (zs : List Int) (hz : ∀ x ∈ zs, 0 ≤ x) (k : Nat) : ∀ x ∈ keep zs k, 0 ≤ x ∧ x < 4611686018427387904 := by
  intro x hx
  unfold keep at hx
  rw [List.mem_filter] at hx
  exact ⟨hz x (List.mem_of_mem_take hx.1), by simpa using hx.2⟩
/-- The bytes of numbers, one behind the other. -/
def allS (l : List Int) : List Int := l.flatMap putS
theorem allS_append (a b : List Int) : allS (a ++ b) = allS a ++ allS b := by simp [allS]
theorem allS_one (x : Int) : allS [x] = putS x := by simp [allS]
theorem allS_length (l : List Int) (h : ∀ x ∈ l, 0 ≤ x ∧ x < 4611686018427387904) : (allS l).length ≤ 8 * l.length := by
  induction l with
  | nil => simp [allS]
  | cons x l ih =>
    have h1 := putS_length x (h x (by simp)).1 (h x (by simp)).2
    have h2 := ih (fun y hy => h y (by simp [hy]))
    have e : allS (x :: l) = putS x ++ allS l := by simp [allS]
    rw [e, List.length_append, List.length_cons]
    omega
theorem getS_nth (l : List Int) (h : ∀ x ∈ l, 0 ≤ x ∧ x < 4611686018427387904) (j : Nat) (hj : j < l.length) :
    getS (strOfNums (allS l)) ((allS (l.take j)).length : Int) = (l.getD j 0, ((allS (l.take (j + 1))).length : Int), 0) ∧ (allS (l.take j)).length < (allS (l.take (j + 1))).length := by
  have hx := h l[j] (List.getElem_mem hj)
  have e : allS l = allS (l.take j) ++ putS l[j] ++ allS (l.drop (j + 1)) := by
    rw [← allS_one l[j], ← allS_append, ← allS_append]
    congr 1
    rw [List.append_assoc, List.singleton_append, List.getElem_cons_drop, List.take_append_drop]
  have e2 : allS (l.take (j + 1)) = allS (l.take j) ++ putS l[j] := by
    rw [List.take_succ_eq_append_getElem hj, allS_append, allS_one]
  have e3 : l.getD j 0 = l[j] := by rw [List.getD_eq_getElem?_getD, List.getElem?_eq_getElem hj, Option.getD_some]
  have hl := putS_length l[j] hx.1 hx.2
  have hm := getS_mid l[j] hx.1 hx.2 (strOfNums (allS (l.take j))) (strOfNums (allS (l.drop (j + 1))))
  rw [strOfNums_append, strOfNums_append, strOfNums_size, ← e] at hm
  rw [hm, e2, e3, List.length_append]
  exact ⟨by simp, by omega⟩
theorem getS_end (s : ByteArray) : getS s (s.size : Int) = (0, 0, 2) := by
  unfold getS
  rw [if_neg (by omega), Int.toNat_natCast, byt_end _ _ (Nat.le_refl _), if_pos (by simp [wid])]
end Go.Proofs.YtdkgbocffpiaaaaDoor
