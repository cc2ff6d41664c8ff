/- number, text, bare, added, appended, made. -/
import Derived.Test.YteonmljchcekpaaV0
namespace Go.Proofs.Yteonmljchcekpaa
open Go Go.RowKit
theorem number_any (n : Int) (w : World) : Calls Try.prog 67 #[.int .i64 n] w fun e w' => e = .returned (.agg #[.int .i64 1, .int .i64 n, .string ⟨#[]⟩]) ∧ w' = w.alloc (.cells #[.int .i64 1, .int .i64 n, .string ⟨#[]⟩] 27) := by
  go_enter Try.func67, Try.ntmps67
  go_wp2
  refine bodyPost_ret (v := .agg #[.int .i64 1, .int .i64 n, .string ⟨#[]⟩]) (by simp [results, Try.results67, go_sem]) rfl ⟨rfl, rfl⟩
theorem text_any (s : ByteArray) (w : World) : Calls Try.prog 68 #[.string s] w fun e w' => e = .returned (.agg #[.int .i64 2, .int .i64 0, .string s]) ∧ w' = w.alloc (.cells #[.int .i64 2, .int .i64 0, .string s] 27) := by
  go_enter Try.func68, Try.ntmps68
  go_wp2
  refine bodyPost_ret (v := .agg #[.int .i64 2, .int .i64 0, .string s]) (by simp [results, Try.results68, go_sem]) rfl ⟨rfl, rfl⟩
theorem below_a4 (w : World) (o1 o2 o3 o4 : Obj) : Below w.heap.size w ((((w.alloc o1).alloc o2).alloc o3).alloc o4) := (Joins.below_alloc3 w o1 o2 o3).alloc (by simp; omega) o4
theorem bare_1 (n : Int) (s : ByteArray) (w : World) : Calls Try.prog 60 #[.agg #[.int .i64 1, .int .i64 n, .string s]] w fun e w' => e = .returned (.agg #[.int .i64 1, .int .i64 n, .string ⟨#[]⟩]) ∧ Below w.heap.size w w' := by
  go_enter Try.func60, Try.ntmps60
  go_wp2_with fail
  refine (number_any n _).mono ?_
  rintro e w1 ⟨rfl, rfl⟩
  go_wp2
  refine bodyPost_ret (v := .agg #[.int .i64 1, .int .i64 n, .string ⟨#[]⟩]) (by simp [results, Try.results60, go_sem]) rfl ⟨rfl, ?_⟩
  exact Joins.below_alloc3 _ _ _ _
theorem bare_2 (n : Int) (s : ByteArray) (w : World) : Calls Try.prog 60 #[.agg #[.int .i64 2, .int .i64 n, .string s]] w fun e w' => e = .returned (.agg #[.int .i64 2, .int .i64 0, .string s]) ∧ Below w.heap.size w w' := by
  go_enter Try.func60, Try.ntmps60
  go_wp2_with fail
  refine (text_any s _).mono ?_
  rintro e w1 ⟨rfl, rfl⟩
  go_wp2
  refine bodyPost_ret (v := .agg #[.int .i64 2, .int .i64 0, .string s]) (by simp [results, Try.results60, go_sem]) rfl ⟨rfl, ?_⟩
  exact Joins.below_alloc3 _ _ _ _
theorem bare_0 (k n : Int) (s : ByteArray) (w : World) (h1 : ¬ k = 1) (h2 : ¬ k = 2) : Calls Try.prog 60 #[.agg #[.int .i64 k, .int .i64 n, .string s]] w fun e w' => e = .returned (.agg #[.int .i64 0, .int .i64 0, .string ⟨#[]⟩]) ∧ Below w.heap.size w w' := by
  go_enter Try.func60, Try.ntmps60
  go_wp2
  refine bodyPost_ret (v := .agg #[.int .i64 0, .int .i64 0, .string ⟨#[]⟩]) (by simp [results, Try.results60, go_sem]) rfl ⟨rfl, ?_⟩
  exact Joins.below_alloc2 _ _ _
theorem added_2 (n m : Int) (s : ByteArray) (w : World) : Calls Try.prog 69 #[.agg #[.int .i64 2, .int .i64 n, .string s], .int .i64 m] w fun e w' => e = .returned (.agg #[.int .i64 2, .int .i64 n, .string s]) ∧ Below w.heap.size w w' := by
  go_enter Try.func69, Try.ntmps69
  go_wp2
  refine bodyPost_ret (v := .agg #[.int .i64 2, .int .i64 n, .string s]) (by simp [results, Try.results69, go_sem]) rfl ⟨rfl, ?_⟩
  exact Joins.below_alloc2 _ _ _
theorem added_1 (k n m : Int) (s : ByteArray) (w : World) (h : ¬ k = 2) : Calls Try.prog 69 #[.agg #[.int .i64 k, .int .i64 n, .string s], .int .i64 m] w fun e w' => e = .returned (.agg #[.int .i64 1, .int .i64 (wrap64 (n + m)), .string ⟨#[]⟩]) ∧ Below w.heap.size w w' := by
  go_enter Try.func69, Try.ntmps69
  go_wp2_with fail
  refine (number_any (wrap64 (n + m)) _).mono ?_
  rintro e w1 ⟨rfl, rfl⟩
  go_wp2
  refine bodyPost_ret (v := .agg #[.int .i64 1, .int .i64 (wrap64 (n + m)), .string ⟨#[]⟩]) (by simp [results, Try.results69, go_sem]) rfl ⟨rfl, ?_⟩
  exact Joins.below_alloc3 _ _ _ _
theorem app_0 (n : Int) (s t : ByteArray) (w : World) : Calls Try.prog 70 #[.agg #[.int .i64 0, .int .i64 n, .string s], .string t] w fun e w' => e = .returned (.agg #[.int .i64 2, .int .i64 0, .string t]) ∧ Below w.heap.size w w' := by
  go_enter Try.func70, Try.ntmps70
  go_wp2_with fail
  refine (text_any t _).mono ?_
  rintro e w1 ⟨rfl, rfl⟩
  go_wp2
  refine bodyPost_ret (v := .agg #[.int .i64 2, .int .i64 0, .string t]) (by simp [results, Try.results70, go_sem]) rfl ⟨rfl, ?_⟩
  exact Joins.below_alloc3 _ _ _ _
theorem app_1 (n : Int) (s t : ByteArray) (w : World) : Calls Try.prog 70 #[.agg #[.int .i64 1, .int .i64 n, .string s], .string t] w fun e w' => e = .returned (.agg #[.int .i64 1, .int .i64 n, .string s]) ∧ Below w.heap.size w w' := by
  go_enter Try.func70, Try.ntmps70
  go_wp2
  refine bodyPost_ret (v := .agg #[.int .i64 1, .int .i64 n, .string s]) (by simp [results, Try.results70, go_sem]) rfl ⟨rfl, ?_⟩
  exact Joins.below_alloc2 _ _ _
theorem app_full (k n : Int) (s t : ByteArray) (w : World) (h0 : ¬ k = 0) (h1 : ¬ k = 1) (hs : s.size ≤ 100000) (ht : t.size ≤ 100000) (hf : 1024 < s.size + t.size) : Calls Try.prog 70 #[.agg #[.int .i64 k, .int .i64 n, .string s], .string t] w fun e w' => e = .returned (.agg #[.int .i64 k, .int .i64 n, .string s]) ∧ Below w.heap.size w w' := by
  go_enter Try.func70, Try.ntmps70
  go_wp2
  refine bodyPost_ret (v := .agg #[.int .i64 k, .int .i64 n, .string s]) (by simp [results, Try.results70, go_sem]) rfl ⟨rfl, ?_⟩
  exact Joins.below_alloc2 _ _ _
theorem app_room (k n : Int) (s t : ByteArray) (w : World) (h0 : ¬ k = 0) (h1 : ¬ k = 1) (hs : s.size ≤ 100000) (ht : t.size ≤ 100000) (hf : s.size + t.size ≤ 1024) : Calls Try.prog 70 #[.agg #[.int .i64 k, .int .i64 n, .string s], .string t] w fun e w' => e = .returned (.agg #[.int .i64 2, .int .i64 0, .string (s ++ t)]) ∧ Below w.heap.size w w' := by
  have hd : decide ((1024 : Int) < (s.size : Int) + (t.size : Int)) = false := decide_eq_false (by omega)
  have hk : (k == 1) = false := by simpa using h1
  go_enter Try.func70, Try.ntmps70
  go_wp2_with fail
  refine (text_any (s ++ t) _).mono ?_
  rintro e w1 ⟨rfl, rfl⟩
  go_wp2
  refine bodyPost_ret (v := .agg #[.int .i64 2, .int .i64 0, .string (s ++ t)]) (by simp [results, Try.results70, go_sem]) rfl ⟨rfl, ?_⟩
  exact Joins.below_alloc3 _ _ _ _
theorem vv_eq (k n : Int) (s : ByteArray) : vv (k, n, s) = .agg #[.int .i64 k, .int .i64 n, .string s] := rfl
theorem bare_any (v : Vl) (w : World) : Calls Try.prog 60 #[vv v] w fun e w' => e = .returned (vv (bareV v)) ∧ Below w.heap.size w w' := by
  obtain ⟨k, n, s⟩ := v
  by_cases h1 : k = 1
  · subst h1; exact bare_1 n s w
  by_cases h2 : k = 2
  · subst h2; exact bare_2 n s w
  have e : bareV (k, n, s) = noneV := by simp [bareV, h1, h2]
  rw [e]; exact bare_0 k n s w h1 h2
theorem added_any (v : Vl) (m : Int) (w : World) : Calls Try.prog 69 #[vv v, .int .i64 m] w fun e w' => e = .returned (vv (addV v m)) ∧ Below w.heap.size w w' := by
  obtain ⟨k, n, s⟩ := v
  by_cases h1 : k = 2
  · subst h1; exact added_2 n m s w
  have e : addV (k, n, s) m = numV (wrap64 (n + m)) := by simp [addV, h1]
  rw [e]; exact added_1 k n m s w h1
theorem app_any (v : Vl) (t : ByteArray) (hs : Sh v.2.2) (ht : Sh t) (w : World) : Calls Try.prog 70 #[vv v, .string t] w fun e w' => e = .returned (vv (appV v t)) ∧ Below w.heap.size w w' := by
  obtain ⟨k, n, s⟩ := v
  by_cases h0 : k = 0
  · subst h0; exact app_0 n s t w
  by_cases h1 : k = 1
  · subst h1; exact app_1 n s t w
  by_cases hf : 1024 < s.size + t.size
  · have e : appV (k, n, s) t = (k, n, s) := by simp [appV, h0, hf]
    rw [e]; exact app_full k n s t w h0 h1 hs ht hf
  · have e : appV (k, n, s) t = txtV (s ++ t) := by simp [appV, h0, h1, hf]
    rw [e]; exact app_room k n s t w h0 h1 hs ht (by omega)
end Go.Proofs.Yteonmljchcekpaa
