/- The document's Apply, of a value whose kind is one of the three. -/
import Derived.Test.YtbbgibekplfacaaDoorT1
namespace Go.Proofs.YtbbgibekplfacaaDoor.Y
open Go Go.RowKit
theorem ref_01 (n : Int) (s : ByteArray) (key : ByteArray) (m : Int) (t : ByteArray) (w : World) : Calls Tryd.prog 65 #[.agg #[.int .i64 0, .int .i64 n, .string s], .agg #[.string key, .int .i64 1, .int .i64 m, .string t]] w fun e w' => e = .returned (.agg #[.int .i64 1, .int .i64 m, .string ⟨#[]⟩]) ∧ Below w.heap.size w w' := by
  go_enter Tryd.func65, Tryd.ntmps65
  go_wp2
  refine bodyPost_ret (v := .agg #[.int .i64 1, .int .i64 m, .string ⟨#[]⟩]) (by simp [results, Tryd.results65, go_sem]) rfl ⟨rfl, ?_⟩
  exact Joins.below_alloc3 _ _ _ _
theorem ref_02 (n : Int) (s : ByteArray) (key : ByteArray) (m : Int) (t : ByteArray) (w : World) : Calls Tryd.prog 65 #[.agg #[.int .i64 0, .int .i64 n, .string s], .agg #[.string key, .int .i64 2, .int .i64 m, .string t]] w fun e w' => e = .returned (.agg #[.int .i64 2, .int .i64 0, .string t]) ∧ Below w.heap.size w w' := by
  go_enter Tryd.func65, Tryd.ntmps65
  go_wp2
  refine bodyPost_ret (v := .agg #[.int .i64 2, .int .i64 0, .string t]) (by simp [results, Tryd.results65, go_sem]) rfl ⟨rfl, ?_⟩
  exact Joins.below_alloc3 _ _ _ _
theorem ref_03 (n : Int) (s : ByteArray) (key : ByteArray) (m : Int) (t : ByteArray) (w : World) : Calls Tryd.prog 65 #[.agg #[.int .i64 0, .int .i64 n, .string s], .agg #[.string key, .int .i64 3, .int .i64 m, .string t]] w fun e w' => e = .returned (.agg #[.int .i64 1, .int .i64 m, .string ⟨#[]⟩]) ∧ Below w.heap.size w w' := by
  go_enter Tryd.func65, Tryd.ntmps65
  go_wp2
  refine bodyPost_ret (v := .agg #[.int .i64 1, .int .i64 m, .string ⟨#[]⟩]) (by simp [results, Tryd.results65, go_sem]) rfl ⟨rfl, ?_⟩
  exact Joins.below_alloc3 _ _ _ _
theorem ref_04 (n : Int) (s : ByteArray) (key : ByteArray) (m : Int) (t : ByteArray) (w : World) : Calls Tryd.prog 65 #[.agg #[.int .i64 0, .int .i64 n, .string s], .agg #[.string key, .int .i64 4, .int .i64 m, .string t]] w fun e w' => e = .returned (.agg #[.int .i64 2, .int .i64 0, .string t]) ∧ Below w.heap.size w w' := by
  go_enter Tryd.func65, Tryd.ntmps65
  go_wp2
  refine bodyPost_ret (v := .agg #[.int .i64 2, .int .i64 0, .string t]) (by simp [results, Tryd.results65, go_sem]) rfl ⟨rfl, ?_⟩
  exact Joins.below_alloc3 _ _ _ _
theorem ref_05 (n : Int) (s : ByteArray) (key : ByteArray) (m : Int) (t : ByteArray) (w : World) : Calls Tryd.prog 65 #[.agg #[.int .i64 0, .int .i64 n, .string s], .agg #[.string key, .int .i64 5, .int .i64 m, .string t]] w fun e w' => e = .returned (.agg #[.int .i64 0, .int .i64 0, .string ⟨#[]⟩]) ∧ Below w.heap.size w w' := by
  go_enter Tryd.func65, Tryd.ntmps65
  go_wp2
  refine bodyPost_ret (v := .agg #[.int .i64 0, .int .i64 0, .string ⟨#[]⟩]) (by simp [results, Tryd.results65, go_sem]) rfl ⟨rfl, ?_⟩
  exact Joins.below_alloc3 _ _ _ _
theorem ref_0x (n : Int) (s : ByteArray) (key : ByteArray) (m : Int) (t : ByteArray) (x : Int) (h1 : ¬ x = 1) (h2 : ¬ x = 2) (h3 : ¬ x = 3) (h4 : ¬ x = 4) (h5 : ¬ x = 5) (w : World) : Calls Tryd.prog 65 #[.agg #[.int .i64 0, .int .i64 n, .string s], .agg #[.string key, .int .i64 x, .int .i64 m, .string t]] w fun e w' => e = .returned (.agg #[.int .i64 0, .int .i64 0, .string ⟨#[]⟩]) ∧ Below w.heap.size w w' := by
  go_enter Tryd.func65, Tryd.ntmps65
  go_wp2
  refine bodyPost_ret (v := .agg #[.int .i64 0, .int .i64 0, .string ⟨#[]⟩]) (by simp [results, Tryd.results65, go_sem]) rfl ⟨rfl, ?_⟩
  exact Joins.below_alloc3 _ _ _ _
theorem ref_11 (n : Int) (s : ByteArray) (key : ByteArray) (m : Int) (t : ByteArray) (w : World) : Calls Tryd.prog 65 #[.agg #[.int .i64 1, .int .i64 n, .string s], .agg #[.string key, .int .i64 1, .int .i64 m, .string t]] w fun e w' => e = .returned (.agg #[.int .i64 1, .int .i64 m, .string ⟨#[]⟩]) ∧ Below w.heap.size w w' := by
  go_enter Tryd.func65, Tryd.ntmps65
  go_wp2
  refine bodyPost_ret (v := .agg #[.int .i64 1, .int .i64 m, .string ⟨#[]⟩]) (by simp [results, Tryd.results65, go_sem]) rfl ⟨rfl, ?_⟩
  exact Joins.below_alloc3 _ _ _ _
theorem ref_12 (n : Int) (s : ByteArray) (key : ByteArray) (m : Int) (t : ByteArray) (w : World) : Calls Tryd.prog 65 #[.agg #[.int .i64 1, .int .i64 n, .string s], .agg #[.string key, .int .i64 2, .int .i64 m, .string t]] w fun e w' => e = .returned (.agg #[.int .i64 2, .int .i64 0, .string t]) ∧ Below w.heap.size w w' := by
  go_enter Tryd.func65, Tryd.ntmps65
  go_wp2
  refine bodyPost_ret (v := .agg #[.int .i64 2, .int .i64 0, .string t]) (by simp [results, Tryd.results65, go_sem]) rfl ⟨rfl, ?_⟩
  exact Joins.below_alloc3 _ _ _ _
theorem ref_13 (n : Int) (s : ByteArray) (key : ByteArray) (m : Int) (t : ByteArray) (w : World) : Calls Tryd.prog 65 #[.agg #[.int .i64 1, .int .i64 n, .string s], .agg #[.string key, .int .i64 3, .int .i64 m, .string t]] w fun e w' => e = .returned (.agg #[.int .i64 1, .int .i64 (wrap64 (n + m)), .string ⟨#[]⟩]) ∧ Below w.heap.size w w' := by
  go_enter Tryd.func65, Tryd.ntmps65
  go_wp2
  refine bodyPost_ret (v := .agg #[.int .i64 1, .int .i64 (wrap64 (n + m)), .string ⟨#[]⟩]) (by simp [results, Tryd.results65, go_sem]) rfl ⟨rfl, ?_⟩
  exact Joins.below_alloc3 _ _ _ _
theorem ref_14 (n : Int) (s : ByteArray) (key : ByteArray) (m : Int) (t : ByteArray) (w : World) : Calls Tryd.prog 65 #[.agg #[.int .i64 1, .int .i64 n, .string s], .agg #[.string key, .int .i64 4, .int .i64 m, .string t]] w fun e w' => e = .returned (.agg #[.int .i64 1, .int .i64 n, .string ⟨#[]⟩]) ∧ Below w.heap.size w w' := by
  go_enter Tryd.func65, Tryd.ntmps65
  go_wp2
  refine bodyPost_ret (v := .agg #[.int .i64 1, .int .i64 n, .string ⟨#[]⟩]) (by simp [results, Tryd.results65, go_sem]) rfl ⟨rfl, ?_⟩
  exact Joins.below_alloc3 _ _ _ _
theorem ref_15 (n : Int) (s : ByteArray) (key : ByteArray) (m : Int) (t : ByteArray) (w : World) : Calls Tryd.prog 65 #[.agg #[.int .i64 1, .int .i64 n, .string s], .agg #[.string key, .int .i64 5, .int .i64 m, .string t]] w fun e w' => e = .returned (.agg #[.int .i64 0, .int .i64 0, .string ⟨#[]⟩]) ∧ Below w.heap.size w w' := by
  go_enter Tryd.func65, Tryd.ntmps65
  go_wp2
  refine bodyPost_ret (v := .agg #[.int .i64 0, .int .i64 0, .string ⟨#[]⟩]) (by simp [results, Tryd.results65, go_sem]) rfl ⟨rfl, ?_⟩
  exact Joins.below_alloc3 _ _ _ _
theorem ref_1x (n : Int) (s : ByteArray) (key : ByteArray) (m : Int) (t : ByteArray) (x : Int) (h1 : ¬ x = 1) (h2 : ¬ x = 2) (h3 : ¬ x = 3) (h4 : ¬ x = 4) (h5 : ¬ x = 5) (w : World) : Calls Tryd.prog 65 #[.agg #[.int .i64 1, .int .i64 n, .string s], .agg #[.string key, .int .i64 x, .int .i64 m, .string t]] w fun e w' => e = .returned (.agg #[.int .i64 1, .int .i64 n, .string ⟨#[]⟩]) ∧ Below w.heap.size w w' := by
  go_enter Tryd.func65, Tryd.ntmps65
  go_wp2
  refine bodyPost_ret (v := .agg #[.int .i64 1, .int .i64 n, .string ⟨#[]⟩]) (by simp [results, Tryd.results65, go_sem]) rfl ⟨rfl, ?_⟩
  exact Joins.below_alloc3 _ _ _ _
theorem ref_21 (n : Int) (s : ByteArray) (key : ByteArray) (m : Int) (t : ByteArray) (w : World) : Calls Tryd.prog 65 #[.agg #[.int .i64 2, .int .i64 n, .string s], .agg #[.string key, .int .i64 1, .int .i64 m, .string t]] w fun e w' => e = .returned (.agg #[.int .i64 1, .int .i64 m, .string ⟨#[]⟩]) ∧ Below w.heap.size w w' := by
  go_enter Tryd.func65, Tryd.ntmps65
  go_wp2
  refine bodyPost_ret (v := .agg #[.int .i64 1, .int .i64 m, .string ⟨#[]⟩]) (by simp [results, Tryd.results65, go_sem]) rfl ⟨rfl, ?_⟩
  exact Joins.below_alloc3 _ _ _ _
theorem ref_22 (n : Int) (s : ByteArray) (key : ByteArray) (m : Int) (t : ByteArray) (w : World) : Calls Tryd.prog 65 #[.agg #[.int .i64 2, .int .i64 n, .string s], .agg #[.string key, .int .i64 2, .int .i64 m, .string t]] w fun e w' => e = .returned (.agg #[.int .i64 2, .int .i64 0, .string t]) ∧ Below w.heap.size w w' := by
  go_enter Tryd.func65, Tryd.ntmps65
  go_wp2
  refine bodyPost_ret (v := .agg #[.int .i64 2, .int .i64 0, .string t]) (by simp [results, Tryd.results65, go_sem]) rfl ⟨rfl, ?_⟩
  exact Joins.below_alloc3 _ _ _ _
theorem ref_23 (n : Int) (s : ByteArray) (key : ByteArray) (m : Int) (t : ByteArray) (w : World) : Calls Tryd.prog 65 #[.agg #[.int .i64 2, .int .i64 n, .string s], .agg #[.string key, .int .i64 3, .int .i64 m, .string t]] w fun e w' => e = .returned (.agg #[.int .i64 2, .int .i64 0, .string s]) ∧ Below w.heap.size w w' := by
  go_enter Tryd.func65, Tryd.ntmps65
  go_wp2
  refine bodyPost_ret (v := .agg #[.int .i64 2, .int .i64 0, .string s]) (by simp [results, Tryd.results65, go_sem]) rfl ⟨rfl, ?_⟩
  exact Joins.below_alloc3 _ _ _ _
theorem ref_24long (n : Int) (s : ByteArray) (key : ByteArray) (m : Int) (t : ByteArray) (hs : s.size ≤ 100000) (hf : 1024 < s.size) (w : World) : Calls Tryd.prog 65 #[.agg #[.int .i64 2, .int .i64 n, .string s], .agg #[.string key, .int .i64 4, .int .i64 m, .string t]] w fun e w' => e = .returned (.agg #[.int .i64 2, .int .i64 0, .string s]) ∧ Below w.heap.size w w' := by
  have q1 : decide ((s.size : Int) ≤ 1024) = false := decide_eq_false (by omega)
  go_enter Tryd.func65, Tryd.ntmps65
  go_wp2
  refine bodyPost_ret (v := .agg #[.int .i64 2, .int .i64 0, .string s]) (by simp [results, Tryd.results65, go_sem]) rfl ⟨rfl, ?_⟩
  exact Joins.below_alloc3 _ _ _ _
theorem ref_24full (n : Int) (s : ByteArray) (key : ByteArray) (m : Int) (t : ByteArray) (hs : s.size ≤ 1024) (hf : 1024 < s.size + t.size) (w : World) : Calls Tryd.prog 65 #[.agg #[.int .i64 2, .int .i64 n, .string s], .agg #[.string key, .int .i64 4, .int .i64 m, .string t]] w fun e w' => e = .returned (.agg #[.int .i64 2, .int .i64 0, .string s]) ∧ Below w.heap.size w w' := by
  have q1 : decide ((s.size : Int) ≤ 1024) = true := decide_eq_true (by omega)
  have q2 : decide ((t.size : Int) ≤ 1024 - (s.size : Int)) = false := decide_eq_false (by omega)
  go_enter Tryd.func65, Tryd.ntmps65
  go_wp2
  refine bodyPost_ret (v := .agg #[.int .i64 2, .int .i64 0, .string s]) (by simp [results, Tryd.results65, go_sem]) rfl ⟨rfl, ?_⟩
  exact Joins.below_alloc3 _ _ _ _
theorem ref_24room (n : Int) (s : ByteArray) (key : ByteArray) (m : Int) (t : ByteArray) (hs : s.size ≤ 1024) (hf : s.size + t.size ≤ 1024) (w : World) : Calls Tryd.prog 65 #[.agg #[.int .i64 2, .int .i64 n, .string s], .agg #[.string key, .int .i64 4, .int .i64 m, .string t]] w fun e w' => e = .returned (.agg #[.int .i64 2, .int .i64 0, .string (s ++ t)]) ∧ Below w.heap.size w w' := by
  have q1 : decide ((s.size : Int) ≤ 1024) = true := decide_eq_true (by omega)
  have q2 : decide ((t.size : Int) ≤ 1024 - (s.size : Int)) = true := decide_eq_true (by omega)
  go_enter Tryd.func65, Tryd.ntmps65
  go_wp2
  refine bodyPost_ret (v := .agg #[.int .i64 2, .int .i64 0, .string (s ++ t)]) (by simp [results, Tryd.results65, go_sem]) rfl ⟨rfl, ?_⟩
  exact Joins.below_alloc3 _ _ _ _
theorem ref_25 (n : Int) (s : ByteArray) (key : ByteArray) (m : Int) (t : ByteArray) (w : World) : Calls Tryd.prog 65 #[.agg #[.int .i64 2, .int .i64 n, .string s], .agg #[.string key, .int .i64 5, .int .i64 m, .string t]] w fun e w' => e = .returned (.agg #[.int .i64 0, .int .i64 0, .string ⟨#[]⟩]) ∧ Below w.heap.size w w' := by
  go_enter Tryd.func65, Tryd.ntmps65
  go_wp2
  refine bodyPost_ret (v := .agg #[.int .i64 0, .int .i64 0, .string ⟨#[]⟩]) (by simp [results, Tryd.results65, go_sem]) rfl ⟨rfl, ?_⟩
  exact Joins.below_alloc3 _ _ _ _
theorem ref_2x (n : Int) (s : ByteArray) (key : ByteArray) (m : Int) (t : ByteArray) (x : Int) (h1 : ¬ x = 1) (h2 : ¬ x = 2) (h3 : ¬ x = 3) (h4 : ¬ x = 4) (h5 : ¬ x = 5) (w : World) : Calls Tryd.prog 65 #[.agg #[.int .i64 2, .int .i64 n, .string s], .agg #[.string key, .int .i64 x, .int .i64 m, .string t]] w fun e w' => e = .returned (.agg #[.int .i64 2, .int .i64 0, .string s]) ∧ Below w.heap.size w w' := by
  go_enter Tryd.func65, Tryd.ntmps65
  go_wp2
  refine bodyPost_ret (v := .agg #[.int .i64 2, .int .i64 0, .string s]) (by simp [results, Tryd.results65, go_sem]) rfl ⟨rfl, ?_⟩
  exact Joins.below_alloc3 _ _ _ _
theorem ref_any (v : Vl) (u : Up) (hk : v.1 = 0 ∨ v.1 = 1 ∨ v.1 = 2) (hs : Sh v.2.2) (hw0 : wrap64 u.2.2.1 = u.2.2.1) (w : World) : Calls Tryd.prog 65 #[vv v, uu u] w fun e w' => e = .returned (vv (oneV v u)) ∧ Below w.heap.size w w' := by
  obtain ⟨k, n, s⟩ := v
  obtain ⟨key, x, m, t⟩ := u
  simp only at hk hs hw0
  by_cases h1 : x = 1
  · subst h1; rcases hk with rfl | rfl | rfl
    · exact ref_01 n s key m t w
    · exact ref_11 n s key m t w
    · exact ref_21 n s key m t w
  by_cases h2 : x = 2
  · subst h2; rcases hk with rfl | rfl | rfl
    · exact ref_02 n s key m t w
    · exact ref_12 n s key m t w
    · exact ref_22 n s key m t w
  by_cases h3 : x = 3
  · subst h3; rcases hk with rfl | rfl | rfl
    · have e : oneV (0, n, s) (key, 3, m, t) = numV (wrap64 (0 + m)) := rfl
      rw [e, Int.zero_add, hw0]; exact ref_03 n s key m t w
    · exact ref_13 n s key m t w
    · exact ref_23 n s key m t w
  by_cases h4 : x = 4
  · subst h4; rcases hk with rfl | rfl | rfl
    · exact ref_04 n s key m t w
    · exact ref_14 n s key m t w
    · by_cases hf : 1024 < s.size + t.size
      · have e : oneV (2, n, s) (key, 4, m, t) = txtV s := by
          show appV (txtV s) t = txtV s
          simp [appV, txtV, hf]
        rw [e]
        by_cases hl : 1024 < s.size
        · exact ref_24long n s key m t hs hl w
        · exact ref_24full n s key m t (by omega) hf w
      · have e : oneV (2, n, s) (key, 4, m, t) = txtV (s ++ t) := by
          show appV (txtV s) t = txtV (s ++ t)
          simp [appV, txtV, hf]
        rw [e]
        exact ref_24room n s key m t (by omega) (by omega) w
  by_cases h5 : x = 5
  · subst h5; rcases hk with rfl | rfl | rfl
    · exact ref_05 n s key m t w
    · exact ref_15 n s key m t w
    · exact ref_25 n s key m t w
  have e : oneV (k, n, s) (key, x, m, t) = bareV (k, n, s) := by simp [oneV, madeV, h1, h2, h3, h4, h5]
  rw [e]
  rcases hk with rfl | rfl | rfl
  · exact ref_0x n s key m t x h1 h2 h3 h4 h5 w
  · exact ref_1x n s key m t x h1 h2 h3 h4 h5 w
  · exact ref_2x n s key m t x h1 h2 h3 h4 h5 w
end Go.Proofs.YtbbgibekplfacaaDoor.Y
