/- The document's May. -/
import Derived.Test.YtbbgibekplfacaaDoorB0
namespace Go.Proofs.YtbbgibekplfacaaDoor
open Go Go.RowKit
theorem rmay_kl (key : ByteArray) (x n : Int) (s : ByteArray) (w : World) (k1 : key.size = 0) : Calls Tryd.prog 55 #[.agg #[.string key, .int .i64 x, .int .i64 n, .string s]] w fun e w' => e = .returned (.int .i64 1) ∧ Below w.heap.size w w' := by
  have q1 : decide ((key.size : Int) < 1) = true := decide_eq_true (by omega)
  have q2 : ((key.size : Int) == 0) = true := beq_iff_eq.2 (by omega)
  go_enter Tryd.func55, Tryd.ntmps55
  go_wp2
  go_ret
  exact ⟨rfl, (by first | exact Joins.below_alloc1 _ _ | exact Joins.below_alloc2 _ _ _)⟩
theorem rmay_kh (key : ByteArray) (x n : Int) (s : ByteArray) (w : World) (k1 : 16 < key.size) : Calls Tryd.prog 55 #[.agg #[.string key, .int .i64 x, .int .i64 n, .string s]] w fun e w' => e = .returned (.int .i64 1) ∧ Below w.heap.size w w' := by
  have q1 : decide ((key.size : Int) < 1) = false := decide_eq_false (by omega)
  have q2 : ((key.size : Int) == 0) = false := beq_false_of_ne (by omega)
  have q3 : decide ((16 : Int) < (key.size : Int)) = true := decide_eq_true (by omega)
  go_enter Tryd.func55, Tryd.ntmps55
  go_wp2
  go_ret
  exact ⟨rfl, (by first | exact Joins.below_alloc1 _ _ | exact Joins.below_alloc2 _ _ _)⟩
theorem rmay_1f (key : ByteArray) (n : Int) (s : ByteArray) (w : World) (k1 : 1 ≤ key.size) (k2 : key.size ≤ 16) (hs : ¬ s = ⟨#[]⟩) : Calls Tryd.prog 55 #[.agg #[.string key, .int .i64 1, .int .i64 n, .string s]] w fun e w' => e = .returned (.int .i64 13) ∧ Below w.heap.size w w' := by
  have hb := str_ne s hs
  have q1 : decide ((key.size : Int) < 1) = false := decide_eq_false (by omega)
  have q2 : ((key.size : Int) == 0) = false := beq_false_of_ne (by omega)
  have q3 : decide ((16 : Int) < (key.size : Int)) = false := decide_eq_false (by omega)
  go_enter Tryd.func55, Tryd.ntmps55
  go_wp2
  go_ret
  exact ⟨rfl, (by first | exact Joins.below_alloc1 _ _ | exact Joins.below_alloc2 _ _ _)⟩
theorem rmay_1l (key : ByteArray) (n : Int) (w : World) (k1 : 1 ≤ key.size) (k2 : key.size ≤ 16) (hn : n < (-2305843009213693952)) : Calls Tryd.prog 55 #[.agg #[.string key, .int .i64 1, .int .i64 n, .string ⟨#[]⟩]] w fun e w' => e = .returned (.int .i64 1) ∧ Below w.heap.size w w' := by
  have q1 : decide ((key.size : Int) < 1) = false := decide_eq_false (by omega)
  have q2 : ((key.size : Int) == 0) = false := beq_false_of_ne (by omega)
  have q3 : decide ((16 : Int) < (key.size : Int)) = false := decide_eq_false (by omega)
  go_enter Tryd.func55, Tryd.ntmps55
  go_wp2
  go_ret
  exact ⟨rfl, (by first | exact Joins.below_alloc1 _ _ | exact Joins.below_alloc2 _ _ _)⟩
theorem rmay_1h (key : ByteArray) (n : Int) (w : World) (k1 : 1 ≤ key.size) (k2 : key.size ≤ 16) (hn : 2305843009213693951 < n) : Calls Tryd.prog 55 #[.agg #[.string key, .int .i64 1, .int .i64 n, .string ⟨#[]⟩]] w fun e w' => e = .returned (.int .i64 1) ∧ Below w.heap.size w w' := by
  have q1 : decide ((key.size : Int) < 1) = false := decide_eq_false (by omega)
  have q2 : ((key.size : Int) == 0) = false := beq_false_of_ne (by omega)
  have q3 : decide ((16 : Int) < (key.size : Int)) = false := decide_eq_false (by omega)
  go_enter Tryd.func55, Tryd.ntmps55
  go_wp2
  go_ret
  exact ⟨rfl, (by first | exact Joins.below_alloc1 _ _ | exact Joins.below_alloc2 _ _ _)⟩
theorem rmay_1o (key : ByteArray) (n : Int) (w : World) (k1 : 1 ≤ key.size) (k2 : key.size ≤ 16) (hn : (-2305843009213693952) ≤ n) (hm : n ≤ 2305843009213693951) : Calls Tryd.prog 55 #[.agg #[.string key, .int .i64 1, .int .i64 n, .string ⟨#[]⟩]] w fun e w' => e = .returned (.int .i64 0) ∧ Below w.heap.size w w' := by
  have q1 : decide ((key.size : Int) < 1) = false := decide_eq_false (by omega)
  have q2 : ((key.size : Int) == 0) = false := beq_false_of_ne (by omega)
  have q3 : decide ((16 : Int) < (key.size : Int)) = false := decide_eq_false (by omega)
  go_enter Tryd.func55, Tryd.ntmps55
  go_wp2
  go_ret
  exact ⟨rfl, (by first | exact Joins.below_alloc1 _ _ | exact Joins.below_alloc2 _ _ _)⟩
theorem rmay_3f (key : ByteArray) (n : Int) (s : ByteArray) (w : World) (k1 : 1 ≤ key.size) (k2 : key.size ≤ 16) (hs : ¬ s = ⟨#[]⟩) : Calls Tryd.prog 55 #[.agg #[.string key, .int .i64 3, .int .i64 n, .string s]] w fun e w' => e = .returned (.int .i64 13) ∧ Below w.heap.size w w' := by
  have hb := str_ne s hs
  have q1 : decide ((key.size : Int) < 1) = false := decide_eq_false (by omega)
  have q2 : ((key.size : Int) == 0) = false := beq_false_of_ne (by omega)
  have q3 : decide ((16 : Int) < (key.size : Int)) = false := decide_eq_false (by omega)
  go_enter Tryd.func55, Tryd.ntmps55
  go_wp2
  go_ret
  exact ⟨rfl, (by first | exact Joins.below_alloc1 _ _ | exact Joins.below_alloc2 _ _ _)⟩
theorem rmay_3l (key : ByteArray) (n : Int) (w : World) (k1 : 1 ≤ key.size) (k2 : key.size ≤ 16) (hn : n < (-2305843009213693952)) : Calls Tryd.prog 55 #[.agg #[.string key, .int .i64 3, .int .i64 n, .string ⟨#[]⟩]] w fun e w' => e = .returned (.int .i64 1) ∧ Below w.heap.size w w' := by
  have q1 : decide ((key.size : Int) < 1) = false := decide_eq_false (by omega)
  have q2 : ((key.size : Int) == 0) = false := beq_false_of_ne (by omega)
  have q3 : decide ((16 : Int) < (key.size : Int)) = false := decide_eq_false (by omega)
  go_enter Tryd.func55, Tryd.ntmps55
  go_wp2
  go_ret
  exact ⟨rfl, (by first | exact Joins.below_alloc1 _ _ | exact Joins.below_alloc2 _ _ _)⟩
theorem rmay_3h (key : ByteArray) (n : Int) (w : World) (k1 : 1 ≤ key.size) (k2 : key.size ≤ 16) (hn : 2305843009213693951 < n) : Calls Tryd.prog 55 #[.agg #[.string key, .int .i64 3, .int .i64 n, .string ⟨#[]⟩]] w fun e w' => e = .returned (.int .i64 1) ∧ Below w.heap.size w w' := by
  have q1 : decide ((key.size : Int) < 1) = false := decide_eq_false (by omega)
  have q2 : ((key.size : Int) == 0) = false := beq_false_of_ne (by omega)
  have q3 : decide ((16 : Int) < (key.size : Int)) = false := decide_eq_false (by omega)
  go_enter Tryd.func55, Tryd.ntmps55
  go_wp2
  go_ret
  exact ⟨rfl, (by first | exact Joins.below_alloc1 _ _ | exact Joins.below_alloc2 _ _ _)⟩
theorem rmay_3o (key : ByteArray) (n : Int) (w : World) (k1 : 1 ≤ key.size) (k2 : key.size ≤ 16) (hn : (-2305843009213693952) ≤ n) (hm : n ≤ 2305843009213693951) : Calls Tryd.prog 55 #[.agg #[.string key, .int .i64 3, .int .i64 n, .string ⟨#[]⟩]] w fun e w' => e = .returned (.int .i64 0) ∧ Below w.heap.size w w' := by
  have q1 : decide ((key.size : Int) < 1) = false := decide_eq_false (by omega)
  have q2 : ((key.size : Int) == 0) = false := beq_false_of_ne (by omega)
  have q3 : decide ((16 : Int) < (key.size : Int)) = false := decide_eq_false (by omega)
  go_enter Tryd.func55, Tryd.ntmps55
  go_wp2
  go_ret
  exact ⟨rfl, (by first | exact Joins.below_alloc1 _ _ | exact Joins.below_alloc2 _ _ _)⟩
theorem rmay_2f (key : ByteArray) (n : Int) (s : ByteArray) (w : World) (k1 : 1 ≤ key.size) (k2 : key.size ≤ 16) (hn : ¬ n = 0) : Calls Tryd.prog 55 #[.agg #[.string key, .int .i64 2, .int .i64 n, .string s]] w fun e w' => e = .returned (.int .i64 13) ∧ Below w.heap.size w w' := by
  have q1 : decide ((key.size : Int) < 1) = false := decide_eq_false (by omega)
  have q2 : ((key.size : Int) == 0) = false := beq_false_of_ne (by omega)
  have q3 : decide ((16 : Int) < (key.size : Int)) = false := decide_eq_false (by omega)
  go_enter Tryd.func55, Tryd.ntmps55
  go_wp2
  go_ret
  exact ⟨rfl, (by first | exact Joins.below_alloc1 _ _ | exact Joins.below_alloc2 _ _ _)⟩
theorem rmay_2h (key : ByteArray) (s : ByteArray) (w : World) (k1 : 1 ≤ key.size) (k2 : key.size ≤ 16) (hs : 32 < s.size) : Calls Tryd.prog 55 #[.agg #[.string key, .int .i64 2, .int .i64 0, .string s]] w fun e w' => e = .returned (.int .i64 1) ∧ Below w.heap.size w w' := by
  have q1 : decide ((key.size : Int) < 1) = false := decide_eq_false (by omega)
  have q2 : ((key.size : Int) == 0) = false := beq_false_of_ne (by omega)
  have q3 : decide ((16 : Int) < (key.size : Int)) = false := decide_eq_false (by omega)
  go_enter Tryd.func55, Tryd.ntmps55
  go_wp2
  go_ret
  exact ⟨rfl, (by first | exact Joins.below_alloc1 _ _ | exact Joins.below_alloc2 _ _ _)⟩
theorem rmay_2o (key : ByteArray) (s : ByteArray) (w : World) (k1 : 1 ≤ key.size) (k2 : key.size ≤ 16) (hs : s.size ≤ 32) : Calls Tryd.prog 55 #[.agg #[.string key, .int .i64 2, .int .i64 0, .string s]] w fun e w' => e = .returned (.int .i64 0) ∧ Below w.heap.size w w' := by
  have q1 : decide ((key.size : Int) < 1) = false := decide_eq_false (by omega)
  have q2 : ((key.size : Int) == 0) = false := beq_false_of_ne (by omega)
  have q3 : decide ((16 : Int) < (key.size : Int)) = false := decide_eq_false (by omega)
  go_enter Tryd.func55, Tryd.ntmps55
  go_wp2
  go_ret
  exact ⟨rfl, (by first | exact Joins.below_alloc1 _ _ | exact Joins.below_alloc2 _ _ _)⟩
theorem rmay_4f (key : ByteArray) (n : Int) (s : ByteArray) (w : World) (k1 : 1 ≤ key.size) (k2 : key.size ≤ 16) (hn : ¬ n = 0) : Calls Tryd.prog 55 #[.agg #[.string key, .int .i64 4, .int .i64 n, .string s]] w fun e w' => e = .returned (.int .i64 13) ∧ Below w.heap.size w w' := by
  have q1 : decide ((key.size : Int) < 1) = false := decide_eq_false (by omega)
  have q2 : ((key.size : Int) == 0) = false := beq_false_of_ne (by omega)
  have q3 : decide ((16 : Int) < (key.size : Int)) = false := decide_eq_false (by omega)
  go_enter Tryd.func55, Tryd.ntmps55
  go_wp2
  go_ret
  exact ⟨rfl, (by first | exact Joins.below_alloc1 _ _ | exact Joins.below_alloc2 _ _ _)⟩
theorem rmay_4h (key : ByteArray) (s : ByteArray) (w : World) (k1 : 1 ≤ key.size) (k2 : key.size ≤ 16) (hs : 32 < s.size) : Calls Tryd.prog 55 #[.agg #[.string key, .int .i64 4, .int .i64 0, .string s]] w fun e w' => e = .returned (.int .i64 1) ∧ Below w.heap.size w w' := by
  have q1 : decide ((key.size : Int) < 1) = false := decide_eq_false (by omega)
  have q2 : ((key.size : Int) == 0) = false := beq_false_of_ne (by omega)
  have q3 : decide ((16 : Int) < (key.size : Int)) = false := decide_eq_false (by omega)
  go_enter Tryd.func55, Tryd.ntmps55
  go_wp2
  go_ret
  exact ⟨rfl, (by first | exact Joins.below_alloc1 _ _ | exact Joins.below_alloc2 _ _ _)⟩
theorem rmay_4o (key : ByteArray) (s : ByteArray) (w : World) (k1 : 1 ≤ key.size) (k2 : key.size ≤ 16) (hs : s.size ≤ 32) : Calls Tryd.prog 55 #[.agg #[.string key, .int .i64 4, .int .i64 0, .string s]] w fun e w' => e = .returned (.int .i64 0) ∧ Below w.heap.size w w' := by
  have q1 : decide ((key.size : Int) < 1) = false := decide_eq_false (by omega)
  have q2 : ((key.size : Int) == 0) = false := beq_false_of_ne (by omega)
  have q3 : decide ((16 : Int) < (key.size : Int)) = false := decide_eq_false (by omega)
  go_enter Tryd.func55, Tryd.ntmps55
  go_wp2
  go_ret
  exact ⟨rfl, (by first | exact Joins.below_alloc1 _ _ | exact Joins.below_alloc2 _ _ _)⟩
theorem rmay_5f (key : ByteArray) (n : Int) (s : ByteArray) (w : World) (k1 : 1 ≤ key.size) (k2 : key.size ≤ 16) (hn : ¬ n = 0) : Calls Tryd.prog 55 #[.agg #[.string key, .int .i64 5, .int .i64 n, .string s]] w fun e w' => e = .returned (.int .i64 13) ∧ Below w.heap.size w w' := by
  have q1 : decide ((key.size : Int) < 1) = false := decide_eq_false (by omega)
  have q2 : ((key.size : Int) == 0) = false := beq_false_of_ne (by omega)
  have q3 : decide ((16 : Int) < (key.size : Int)) = false := decide_eq_false (by omega)
  go_enter Tryd.func55, Tryd.ntmps55
  go_wp2
  go_ret
  exact ⟨rfl, (by first | exact Joins.below_alloc1 _ _ | exact Joins.below_alloc2 _ _ _)⟩
theorem rmay_5g (key : ByteArray) (s : ByteArray) (w : World) (k1 : 1 ≤ key.size) (k2 : key.size ≤ 16) (hs : ¬ s = ⟨#[]⟩) : Calls Tryd.prog 55 #[.agg #[.string key, .int .i64 5, .int .i64 0, .string s]] w fun e w' => e = .returned (.int .i64 13) ∧ Below w.heap.size w w' := by
  have hb := str_ne s hs
  have q1 : decide ((key.size : Int) < 1) = false := decide_eq_false (by omega)
  have q2 : ((key.size : Int) == 0) = false := beq_false_of_ne (by omega)
  have q3 : decide ((16 : Int) < (key.size : Int)) = false := decide_eq_false (by omega)
  go_enter Tryd.func55, Tryd.ntmps55
  go_wp2
  go_ret
  exact ⟨rfl, (by first | exact Joins.below_alloc1 _ _ | exact Joins.below_alloc2 _ _ _)⟩
theorem rmay_5o (key : ByteArray)  (w : World) (k1 : 1 ≤ key.size) (k2 : key.size ≤ 16) : Calls Tryd.prog 55 #[.agg #[.string key, .int .i64 5, .int .i64 0, .string ⟨#[]⟩]] w fun e w' => e = .returned (.int .i64 0) ∧ Below w.heap.size w w' := by
  have q1 : decide ((key.size : Int) < 1) = false := decide_eq_false (by omega)
  have q2 : ((key.size : Int) == 0) = false := beq_false_of_ne (by omega)
  have q3 : decide ((16 : Int) < (key.size : Int)) = false := decide_eq_false (by omega)
  go_enter Tryd.func55, Tryd.ntmps55
  go_wp2
  go_ret
  exact ⟨rfl, (by first | exact Joins.below_alloc1 _ _ | exact Joins.below_alloc2 _ _ _)⟩
theorem rmay_xl (key : ByteArray) (x n : Int) (s : ByteArray) (w : World) (k1 : 1 ≤ key.size) (k2 : key.size ≤ 16) (hx : x < 1) : Calls Tryd.prog 55 #[.agg #[.string key, .int .i64 x, .int .i64 n, .string s]] w fun e w' => e = .returned (.int .i64 5) ∧ Below w.heap.size w w' := by
  have q1 : decide ((key.size : Int) < 1) = false := decide_eq_false (by omega)
  have q2 : ((key.size : Int) == 0) = false := beq_false_of_ne (by omega)
  have q3 : decide ((16 : Int) < (key.size : Int)) = false := decide_eq_false (by omega)
  have x1 : ¬ x = 1 := by omega
  have x2 : ¬ x = 2 := by omega
  have x3 : ¬ x = 3 := by omega
  have x4 : ¬ x = 4 := by omega
  have x5 : ¬ x = 5 := by omega
  go_enter Tryd.func55, Tryd.ntmps55
  go_wp2
  go_ret
  exact ⟨rfl, (by first | exact Joins.below_alloc1 _ _ | exact Joins.below_alloc2 _ _ _)⟩
theorem rmay_xh (key : ByteArray) (x n : Int) (s : ByteArray) (w : World) (k1 : 1 ≤ key.size) (k2 : key.size ≤ 16) (hx : 5 < x) : Calls Tryd.prog 55 #[.agg #[.string key, .int .i64 x, .int .i64 n, .string s]] w fun e w' => e = .returned (.int .i64 5) ∧ Below w.heap.size w w' := by
  have q1 : decide ((key.size : Int) < 1) = false := decide_eq_false (by omega)
  have q2 : ((key.size : Int) == 0) = false := beq_false_of_ne (by omega)
  have q3 : decide ((16 : Int) < (key.size : Int)) = false := decide_eq_false (by omega)
  have x1 : ¬ x = 1 := by omega
  have x2 : ¬ x = 2 := by omega
  have x3 : ¬ x = 3 := by omega
  have x4 : ¬ x = 4 := by omega
  have x5 : ¬ x = 5 := by omega
  go_enter Tryd.func55, Tryd.ntmps55
  go_wp2
  go_ret
  exact ⟨rfl, (by first | exact Joins.below_alloc1 _ _ | exact Joins.below_alloc2 _ _ _)⟩
theorem rmay_any (u : Up) (w : World) : Calls Tryd.prog 55 #[uu u] w fun e w' => e = .returned (.int .i64 (mayE u)) ∧ Below w.heap.size w w' := by
  obtain ⟨key, x, n, s⟩ := u
  unfold uu
  by_cases a1 : key.size = 0
  · rw [mayE_key _ _ _ _ (.inl a1)]; exact rmay_kl key x n s w a1
  by_cases a2 : 16 < key.size
  · rw [mayE_key _ _ _ _ (.inr a2)]; exact rmay_kh key x n s w a2
  have k1 : 1 ≤ key.size := by omega
  have k2 : key.size ≤ 16 := by omega
  rw [mayE_in _ _ _ _ k1 k2]
  clear a1 a2
  by_cases x1 : x = 1
  · subst x1
    by_cases hs : s = ⟨#[]⟩
    · subst hs
      by_cases hl : n < (-2305843009213693952)
      · rw [show mayK 1 n ⟨#[]⟩ = 1 by simp [mayK, hl]]; exact rmay_1l key n w k1 k2 hl
      by_cases hh : 2305843009213693951 < n
      · rw [show mayK 1 n ⟨#[]⟩ = 1 by simp [mayK, hh]]; exact rmay_1h key n w k1 k2 hh
      · rw [show mayK 1 n ⟨#[]⟩ = 0 by simp [mayK, hl, hh]]; exact rmay_1o key n w k1 k2 (by omega) (by omega)
    · rw [show mayK 1 n s = 13 by simp [mayK, hs]]; exact rmay_1f key n s w k1 k2 hs
  by_cases x3 : x = 3
  · subst x3
    by_cases hs : s = ⟨#[]⟩
    · subst hs
      by_cases hl : n < (-2305843009213693952)
      · rw [show mayK 3 n ⟨#[]⟩ = 1 by simp [mayK, hl]]; exact rmay_3l key n w k1 k2 hl
      by_cases hh : 2305843009213693951 < n
      · rw [show mayK 3 n ⟨#[]⟩ = 1 by simp [mayK, hh]]; exact rmay_3h key n w k1 k2 hh
      · rw [show mayK 3 n ⟨#[]⟩ = 0 by simp [mayK, hl, hh]]; exact rmay_3o key n w k1 k2 (by omega) (by omega)
    · rw [show mayK 3 n s = 13 by simp [mayK, hs]]; exact rmay_3f key n s w k1 k2 hs
  by_cases x2 : x = 2
  · subst x2
    by_cases hn : n = 0
    · subst hn
      by_cases hs : 32 < s.size
      · rw [show mayK 2 0 s = 1 by simp [mayK, hs]]; exact rmay_2h key s w k1 k2 hs
      · rw [show mayK 2 0 s = 0 by simp [mayK, hs]]; exact rmay_2o key s w k1 k2 (by omega)
    · rw [show mayK 2 n s = 13 by simp [mayK, hn]]; exact rmay_2f key n s w k1 k2 hn
  by_cases x4 : x = 4
  · subst x4
    by_cases hn : n = 0
    · subst hn
      by_cases hs : 32 < s.size
      · rw [show mayK 4 0 s = 1 by simp [mayK, hs]]; exact rmay_4h key s w k1 k2 hs
      · rw [show mayK 4 0 s = 0 by simp [mayK, hs]]; exact rmay_4o key s w k1 k2 (by omega)
    · rw [show mayK 4 n s = 13 by simp [mayK, hn]]; exact rmay_4f key n s w k1 k2 hn
  by_cases x5 : x = 5
  · subst x5
    by_cases hn : n = 0
    · subst hn
      by_cases hs : s = ⟨#[]⟩
      · subst hs
        rw [show mayK 5 0 ⟨#[]⟩ = 0 by simp [mayK]]; exact rmay_5o key w k1 k2
      · rw [show mayK 5 0 s = 13 by simp [mayK, hs]]; exact rmay_5g key s w k1 k2 hs
    · rw [show mayK 5 n s = 13 by simp [mayK, hn]]; exact rmay_5f key n s w k1 k2 hn
  rw [show mayK x n s = 5 by simp [mayK, x1, x2, x3, x4, x5]]
  by_cases hx : x < 1
  · exact rmay_xl key x n s w k1 k2 hx
  · exact rmay_xh key x n s w k1 k2 (by omega)
end Go.Proofs.YtbbgibekplfacaaDoor
