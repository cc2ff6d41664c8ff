/- The contracts of Size (whole), Zig and Zag. -/
import Derived.Test.YtcknklodnfabpaaDoorA3
import Derived.Test.YtcknklodnfabpaaDoorW1
namespace Go.Proofs.YtcknklodnfabpaaDoor
open Go Go.RowKit
theorem size_any (n : Int) (h0 : 0 ≤ n) (w : World) (h : Wd w) : Calls Tryd.prog 75 #[.int .u64 n] w fun e w' => e = .returned (.int .i64 (sizeZ n)) ∧ w = w' := by
  unfold sizeZ
  by_cases h1 : n < 64
  · rw [if_pos h1]; exact size0 n h0 h1 w h
  rw [if_neg h1]
  by_cases h2 : n < 16384
  · rw [if_pos h2]; exact size1 n (by omega) h2 w h
  rw [if_neg h2]
  by_cases h3 : n < 1073741824
  · rw [if_pos h3]; exact size2 n (by omega) h3 w h
  rw [if_neg h3]
  by_cases h4 : n < 4611686018427387904
  · rw [if_pos h4]; exact size3 n (by omega) h4 w h
  rw [if_neg h4]; exact sizeN n (by omega) w h
theorem size_pos (n : Int) (h0 : 0 ≤ n) (h1 : n < 4611686018427387904) (w : World) (h : Wd w) : Calls Tryd.prog 75 #[.int .u64 n] w fun e w' => ∃ k : Int, 1 ≤ k ∧ e = .returned (.int .i64 k) ∧ w = w' := by
  refine (size_any n h0 w h).mono ?_
  rintro e w1 ⟨rfl, rfl⟩
  exact ⟨sizeZ n, by unfold sizeZ; (repeat' split) <;> omega, rfl, rfl⟩

theorem zig_in (n z : Int) (w : World) (h : Wd w) (hz : bits .xor .u64 (IntKind.u64.wrap (IntKind.u64.wrap n * 2)) (IntKind.u64.wrap (n / 9223372036854775808)) = z) (_hn : n < 0) (_hn1 : -9223372036854775808 ≤ n) (h0 : 0 ≤ z) (h1 : z < 4611686018427387904) : Calls Tryd.prog 61 #[.int .i64 n] w fun e w' => e = .returned (.tuple #[.int .u64 z, .bool true]) ∧ w = w' := by
  have HZ := Lib.hid hz
  clear hz
  go_enter Tryd.func61, Tryd.ntmps61
  go_wp2_with fail
  rw [HZ.out]
  refine (size_pos z h0 h1 _ h).mono ?_
  rintro e w1 ⟨k, hk, rfl, rfl⟩
  have hk0 : (k == 0) = false := by rw [beq_eq_false_iff_ne]; omega
  go_wp2
  go_ret2
  exact ⟨rfl, rfl⟩
theorem zig_out (n z : Int) (w : World) (h : Wd w) (hz : bits .xor .u64 (IntKind.u64.wrap (IntKind.u64.wrap n * 2)) (IntKind.u64.wrap (n / 9223372036854775808)) = z) (_hn : n < 0) (_hn1 : -9223372036854775808 ≤ n) (h1 : 4611686018427387904 ≤ z) : Calls Tryd.prog 61 #[.int .i64 n] w fun e w' => e = .returned (.tuple #[.int .u64 0, .bool false]) ∧ w = w' := by
  have HZ := Lib.hid hz
  clear hz
  go_enter Tryd.func61, Tryd.ntmps61
  go_wp2_with fail
  rw [HZ.out]
  refine (sizeN z h1 _ h).mono ?_
  rintro e w1 ⟨rfl, rfl⟩
  go_wp2
  go_ret2
  exact ⟨rfl, rfl⟩
theorem zig_in' (n z : Int) (w : World) (h : Wd w) (hz : bits .xor .u64 (n * 2) (n / 9223372036854775808) = z) (hn : 0 ≤ n) (hn1 : n ≤ 9223372036854775807) (h0 : 0 ≤ z) (h1 : z < 4611686018427387904) : Calls Tryd.prog 61 #[.int .i64 n] w fun e w' => e = .returned (.tuple #[.int .u64 z, .bool true]) ∧ w = w' := by
  have HZ := Lib.hid hz
  clear hz
  go_enter Tryd.func61, Tryd.ntmps61
  go_wp2_with fail
  rw [HZ.out]
  refine (size_pos z h0 h1 _ h).mono ?_
  rintro e w1 ⟨k, hk, rfl, rfl⟩
  have hk0 : (k == 0) = false := by rw [beq_eq_false_iff_ne]; omega
  go_wp2
  go_ret2
  exact ⟨rfl, rfl⟩
theorem zig_out' (n z : Int) (w : World) (h : Wd w) (hz : bits .xor .u64 (n * 2) (n / 9223372036854775808) = z) (hn : 0 ≤ n) (hn1 : n ≤ 9223372036854775807) (h1 : 4611686018427387904 ≤ z) : Calls Tryd.prog 61 #[.int .i64 n] w fun e w' => e = .returned (.tuple #[.int .u64 0, .bool false]) ∧ w = w' := by
  have HZ := Lib.hid hz
  clear hz
  go_enter Tryd.func61, Tryd.ntmps61
  go_wp2_with fail
  rw [HZ.out]
  refine (sizeN z h1 _ h).mono ?_
  rintro e w1 ⟨rfl, rfl⟩
  go_wp2
  go_ret2
  exact ⟨rfl, rfl⟩
theorem zig_bits_neg (n : Int) (hn : n < 0) (hn1 : -9223372036854775808 ≤ n) : bits .xor .u64 (IntKind.u64.wrap (IntKind.u64.wrap n * 2)) (IntKind.u64.wrap (n / 9223372036854775808)) = zigS n := by
  have e1 : IntKind.u64.wrap (IntKind.u64.wrap n * 2) = 18446744073709551616 + 2 * n := by simp only [IntKind.wrap_u64]; omega
  have e2 : IntKind.u64.wrap (n / 9223372036854775808) = 18446744073709551615 := by
    rw [show n / 9223372036854775808 = -1 by omega]; rfl
  rw [e1, e2, xor_ones _ (by omega) (by omega), zigS, if_pos hn]
  omega
theorem zig_bits_pos (n : Int) (hn : 0 ≤ n) (hn1 : n ≤ 9223372036854775807) : bits .xor .u64 (n * 2) (n / 9223372036854775808) = zigS n := by
  rw [show n / 9223372036854775808 = 0 by omega, xor_zero _ (by omega) (by omega), zigS, if_neg (by omega)]
  omega
/-- Zig, of a number that isn't too great. -/
theorem zig_yes (n : Int) (h0 : -2305843009213693952 ≤ n) (h1 : n < 2305843009213693952) (w : World) (h : Wd w) : Calls Tryd.prog 61 #[.int .i64 n] w fun e w' => e = .returned (.tuple #[.int .u64 (zigS n), .bool true]) ∧ w = w' := by
  by_cases hn : n < 0
  · have hz : zigS n = -2 * n - 1 := if_pos hn
    exact zig_in n _ w h (zig_bits_neg n hn (by omega)) hn (by omega) (by omega) (by omega)
  · have hz : zigS n = 2 * n := if_neg hn
    exact zig_in' n _ w h (zig_bits_pos n (by omega) (by omega)) (by omega) (by omega) (by omega) (by omega)
/-- Zig, of one that is. -/
theorem zig_no (n : Int) (h0 : -9223372036854775808 ≤ n) (h1 : n ≤ 9223372036854775807) (h2 : n < -2305843009213693952 ∨ 2305843009213693952 ≤ n) (w : World) (h : Wd w) : Calls Tryd.prog 61 #[.int .i64 n] w fun e w' => e = .returned (.tuple #[.int .u64 0, .bool false]) ∧ w = w' := by
  by_cases hn : n < 0
  · have hz : zigS n = -2 * n - 1 := if_pos hn
    exact zig_out n _ w h (zig_bits_neg n hn (by omega)) hn (by omega) (by omega)
  · have hz : zigS n = 2 * n := if_neg hn
    exact zig_out' n _ w h (zig_bits_pos n (by omega) (by omega)) (by omega) (by omega) (by omega)
theorem zag_no (n : Int) (h1 : 4611686018427387904 ≤ n) (w : World) (h : Wd w) : Calls Tryd.prog 77 #[.int .u64 n] w fun e w' => e = .returned (.int .i64 0) ∧ w = w' := by
  go_enter Tryd.func77, Tryd.ntmps77
  go_wp2_with fail
  refine (sizeN n h1 _ h).mono ?_
  rintro e w1 ⟨rfl, rfl⟩
  go_wp2
  go_ret
  exact ⟨rfl, rfl⟩
theorem zag_yes (n : Int) (h0 : 0 ≤ n) (h1 : n < 4611686018427387904) (w : World) (h : Wd w) : Calls Tryd.prog 77 #[.int .u64 n] w fun e w' => e = .returned (.int .i64 (zagS n)) ∧ w = w' := by
  go_enter Tryd.func77, Tryd.ntmps77
  go_wp2_with fail
  refine (size_pos n h0 h1 _ h).mono ?_
  rintro e w1 ⟨k, hk, rfl, rfl⟩
  have hk0 : (k == 0) = false := by rw [beq_eq_false_iff_ne]; omega
  have ha := Lib.u64_and1 n h0 (by omega)
  rcases (show n % 2 = 0 ∨ n % 2 = 1 by omega) with hp | hp
  · have hx := i64_xor_zero (n / 2) (by omega) (by omega)
    have HZ : Hid (zagS n = n / 2) := (if_neg (by omega) : zagS n = n / 2)
    rw [hp] at ha
    clear hp
    go_wp2
    go_ret
    exact ⟨by rw [HZ.out]; rfl, rfl⟩
  · have hx := i64_xor_ones (n / 2) (by omega) (by omega)
    have HZ : Hid (zagS n = -(n / 2) - 1) := (if_pos (by omega) : zagS n = -(n / 2) - 1)
    rw [hp] at ha
    clear hp
    go_wp2
    go_ret
    exact ⟨by rw [HZ.out]; rfl, rfl⟩
end Go.Proofs.YtcknklodnfabpaaDoor
