/- The contracts of the document's answers: Size, Zig, Zag, Get. -/
import Derived.Test.YtbbgibekplfacaaDoorW4
import Derived.Test.YtbbgibekplfacaaDoorP2
namespace Go.Proofs.YtbbgibekplfacaaDoor.X
open Go Go.RowKit
theorem rsize0 (n : Int) (_h1 : 0 ≤ n) (_h2 : n < 64) (w : World) : Calls Tryd.prog 99 #[.int .u64 n] w fun e w' => e = .returned (.int .i64 1) ∧ w = w' := by
  go_enter Tryd.func99, Tryd.ntmps99
  go_wp2
  go_ret
  exact ⟨rfl, rfl⟩
theorem rsize1 (n : Int) (_h1 : 64 ≤ n) (_h2 : n < 16384) (w : World) : Calls Tryd.prog 99 #[.int .u64 n] w fun e w' => e = .returned (.int .i64 2) ∧ w = w' := by
  go_enter Tryd.func99, Tryd.ntmps99
  go_wp2
  go_ret
  exact ⟨rfl, rfl⟩
theorem rsize2 (n : Int) (_h1 : 16384 ≤ n) (_h2 : n < 1073741824) (w : World) : Calls Tryd.prog 99 #[.int .u64 n] w fun e w' => e = .returned (.int .i64 4) ∧ w = w' := by
  go_enter Tryd.func99, Tryd.ntmps99
  go_wp2
  go_ret
  exact ⟨rfl, rfl⟩
theorem rsize3 (n : Int) (_h1 : 1073741824 ≤ n) (_h2 : n < 4611686018427387904) (w : World) : Calls Tryd.prog 99 #[.int .u64 n] w fun e w' => e = .returned (.int .i64 8) ∧ w = w' := by
  go_enter Tryd.func99, Tryd.ntmps99
  go_wp2
  go_ret
  exact ⟨rfl, rfl⟩
theorem rsizeN (n : Int) (_h1 : 4611686018427387904 ≤ n) (w : World) : Calls Tryd.prog 99 #[.int .u64 n] w fun e w' => e = .returned (.int .i64 0) ∧ w = w' := by
  go_enter Tryd.func99, Tryd.ntmps99
  go_wp2
  go_ret
  exact ⟨rfl, rfl⟩
theorem rsize_any (n : Int) (h0 : 0 ≤ n) (w : World) : Calls Tryd.prog 99 #[.int .u64 n] w fun e w' => e = .returned (.int .i64 (sizeZ n)) ∧ w = w' := by
  unfold sizeZ
  by_cases h1 : n < 64
  · rw [if_pos h1]; exact rsize0 n h0 h1 w
  rw [if_neg h1]
  by_cases h2 : n < 16384
  · rw [if_pos h2]; exact rsize1 n (by omega) h2 w
  rw [if_neg h2]
  by_cases h3 : n < 1073741824
  · rw [if_pos h3]; exact rsize2 n (by omega) h3 w
  rw [if_neg h3]
  by_cases h4 : n < 4611686018427387904
  · rw [if_pos h4]; exact rsize3 n (by omega) h4 w
  rw [if_neg h4]; exact rsizeN n (by omega) w
theorem ret_ub {a b : Int} (h : a = b) : Ending.returned (.tuple #[.int .u64 a, .bool true]) = Ending.returned (.tuple #[.int .u64 b, .bool true]) := by rw [h]
theorem ret_i {k : IntKind} {a b : Int} (h : a = b) : Ending.returned (.int k a) = Ending.returned (.int k b) := by rw [h]
theorem rzig_yes (n : Int) (h0 : -2305843009213693952 ≤ n) (h1 : n < 2305843009213693952) (w : World) : Calls Tryd.prog 100 #[.int .i64 n] w fun e w' => e = .returned (.tuple #[.int .u64 (zigS n), .bool true]) ∧ w = w' := by
  by_cases hn : n < 0
  · have hz : zigS n = -2 * n - 1 := if_pos hn
    have HZ := Lib.hid hz
    clear hz
    go_enter Tryd.func100, Tryd.ntmps100
    go_wp2
    go_ret2
    exact ⟨ret_ub (by rw [HZ.out]; omega), rfl⟩
  · have hz : zigS n = 2 * n := if_neg hn
    have HZ := Lib.hid hz
    clear hz
    go_enter Tryd.func100, Tryd.ntmps100
    go_wp2
    go_ret2
    exact ⟨ret_ub (by rw [HZ.out]), rfl⟩
theorem rzig_no (n : Int) (h0 : n < -2305843009213693952 ∨ 2305843009213693952 ≤ n) (w : World) : Calls Tryd.prog 100 #[.int .i64 n] w fun e w' => e = .returned (.tuple #[.int .u64 0, .bool false]) ∧ w = w' := by
  rcases h0 with h | h
  · go_enter Tryd.func100, Tryd.ntmps100
    go_wp2
    go_ret2
    exact ⟨rfl, rfl⟩
  · go_enter Tryd.func100, Tryd.ntmps100
    go_wp2
    go_ret2
    exact ⟨rfl, rfl⟩
end Go.Proofs.YtbbgibekplfacaaDoor.X
