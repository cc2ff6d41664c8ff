import Derived.Test.YtbbgibekplfacaaDoorP1
import Derived.Lib.Zigzag
/- Plain mathematics of signed numbers without their sign. Nothing of the program. -/
namespace Go.Proofs.YtbbgibekplfacaaDoor.X
open Go
/-- How many bytes a number has; 0: it is too great. -/
def sizeZ (n : Int) : Int := if n < 64 then 1 else if n < 16384 then 2 else if n < 1073741824 then 4 else if n < 4611686018427387904 then 8 else 0
def zigS (n : Int) : Int := if n < 0 then -2 * n - 1 else 2 * n
def zagS (n : Int) : Int := if n % 2 = 1 then -(n / 2) - 1 else n / 2
theorem xor_comm' (k : IntKind) (x y : Int) : bits .xor k x y = bits .xor k y x := by
  simp only [bits, BitVec.xor_comm]
theorem xor_ones (x : Int) (h0 : 0 ≤ x) (h1 : x < 18446744073709551616) : bits .xor .u64 x 18446744073709551615 = 18446744073709551615 - x := by
  rw [xor_comm', u64_xor _ _ (by omega) (by omega) h0 h1]
  have := Lib.xor_ones64 x.toNat (by omega)
  rw [show (18446744073709551615 : Int).toNat = 2 ^ 64 - 1 by rfl, this]
  omega
theorem xor_zero (x : Int) (h0 : 0 ≤ x) (h1 : x < 18446744073709551616) : bits .xor .u64 x 0 = x := by
  rw [u64_xor _ _ h0 h1 (by omega) (by omega)]
  simp; omega
theorem i64_xor_zero (x : Int) (h0 : 0 ≤ x) (h1 : x < 9223372036854775808) : bits .xor .i64 x 0 = x := by
  show IntKind.i64.wrap ((BitVec.ofInt 64 x ^^^ BitVec.ofInt 64 0).toNat : Int) = _
  have h2 : (BitVec.ofInt 64 x).toNat = x.toNat := by
    rw [show x = ((x.toNat : Nat) : Int) by omega, BitVec.ofInt_natCast, BitVec.toNat_ofNat, Int.toNat_natCast]; exact Nat.mod_eq_of_lt (by omega)
  have h3 : (BitVec.ofInt 64 0).toNat = 0 := by decide
  rw [BitVec.toNat_xor, h2, h3, Nat.xor_zero, IntKind.wrap_i64]
  omega
theorem i64_xor_ones (x : Int) (h0 : 0 ≤ x) (h1 : x < 9223372036854775808) : bits .xor .i64 x (-1) = -x - 1 := by
  have := Lib.i64_not x.toNat (by omega)
  rw [xor_comm']
  rw [show ((x.toNat : Nat) : Int) = x by omega] at this
  exact this
end Go.Proofs.YtbbgibekplfacaaDoor.X
/- The contracts of Size (whole), Zig and Zag. -/
namespace Go.Proofs.YtbbgibekplfacaaDoor.X
open Go Go.RowKit
theorem size_any (n : Int) (h0 : 0 ≤ n) (w : World) (h : Wd w) : Calls Tryd.prog 107 #[.int .u64 n] w fun e w' => e = .returned (.int .i64 (sizeZ n)) ∧ w = w' := by
  unfold sizeZ
  by_cases h1 : n < 64
  · rw [if_pos h1]; exact size0 n h0 h1 w h
  rw [if_neg h1]
  by_cases h2 : n < 16384
  · rw [if_pos h2]; exact size1 n (by omega) h2 w h
  rw [if_neg h2]
  by_cases h3 : n < 1073741824
  · rw [if_pos h3]; exact size2 n (by omega) h3 w h
  rw [if_neg h3]
  by_cases h4 : n < 4611686018427387904
  · rw [if_pos h4]; exact size3 n (by omega) h4 w h
  rw [if_neg h4]; exact sizeN n (by omega) w h
theorem size_pos (n : Int) (h0 : 0 ≤ n) (h1 : n < 4611686018427387904) (w : World) (h : Wd w) : Calls Tryd.prog 107 #[.int .u64 n] w fun e w' => ∃ k : Int, 1 ≤ k ∧ e = .returned (.int .i64 k) ∧ w = w' := by
  refine (size_any n h0 w h).mono ?_
  rintro e w1 ⟨rfl, rfl⟩
  exact ⟨sizeZ n, by unfold sizeZ; (repeat' split) <;> omega, rfl, rfl⟩

theorem zig_in (n z : Int) (w : World) (h : Wd w) (hz : bits .xor .u64 (IntKind.u64.wrap (IntKind.u64.wrap n * 2)) (IntKind.u64.wrap (n / 9223372036854775808)) = z) (_hn : n < 0) (_hn1 : -9223372036854775808 ≤ n) (h0 : 0 ≤ z) (h1 : z < 4611686018427387904) : Calls Tryd.prog 98 #[.int .i64 n] w fun e w' => e = .returned (.tuple #[.int .u64 z, .bool true]) ∧ w = w' := by
  have HZ := Lib.hid hz
  clear hz
  go_enter Tryd.func98, Tryd.ntmps98
  go_wp2_with fail
  rw [HZ.out]
  refine (size_pos z h0 h1 _ h).mono ?_
  rintro e w1 ⟨k, hk, rfl, rfl⟩
  have hk0 : (k == 0) = false := by rw [beq_eq_false_iff_ne]; omega
  go_wp2
  go_ret2
  exact ⟨rfl, rfl⟩
theorem zig_out (n z : Int) (w : World) (h : Wd w) (hz : bits .xor .u64 (IntKind.u64.wrap (IntKind.u64.wrap n * 2)) (IntKind.u64.wrap (n / 9223372036854775808)) = z) (_hn : n < 0) (_hn1 : -9223372036854775808 ≤ n) (h1 : 4611686018427387904 ≤ z) : Calls Tryd.prog 98 #[.int .i64 n] w fun e w' => e = .returned (.tuple #[.int .u64 0, .bool false]) ∧ w = w' := by
  have HZ := Lib.hid hz
  clear hz
  go_enter Tryd.func98, Tryd.ntmps98
  go_wp2_with fail
  rw [HZ.out]
  refine (sizeN z h1 _ h).mono ?_
  rintro e w1 ⟨rfl, rfl⟩
  go_wp2
  go_ret2
  exact ⟨rfl, rfl⟩
theorem zig_in' (n z : Int) (w : World) (h : Wd w) (hz : bits .xor .u64 (n * 2) (n / 9223372036854775808) = z) (hn : 0 ≤ n) (hn1 : n ≤ 9223372036854775807) (h0 : 0 ≤ z) (h1 : z < 4611686018427387904) : Calls Tryd.prog 98 #[.int .i64 n] w fun e w' => e = .returned (.tuple #[.int .u64 z, .bool true]) ∧ w = w' := by
  have HZ := Lib.hid hz
  clear hz
  go_enter Tryd.func98, Tryd.ntmps98
  go_wp2_with fail
  rw [HZ.out]
  refine (size_pos z h0 h1 _ h).mono ?_
  rintro e w1 ⟨k, hk, rfl, rfl⟩
  have hk0 : (k == 0) = false := by rw [beq_eq_false_iff_ne]; omega
  go_wp2
  go_ret2
  exact ⟨rfl, rfl⟩
theorem zig_out' (n z : Int) (w : World) (h : Wd w) (hz : bits .xor .u64 (n * 2) (n / 9223372036854775808) = z) (hn : 0 ≤ n) (hn1 : n ≤ 9223372036854775807) (h1 : 4611686018427387904 ≤ z) : Calls Tryd.prog 98 #[.int .i64 n] w fun e w' => e = .returned (.tuple #[.int .u64 0, .bool false]) ∧ w = w' := by
  have HZ := Lib.hid hz
  clear hz
  go_enter Tryd.func98, Tryd.ntmps98
  go_wp2_with fail
  rw [HZ.out]
  refine (sizeN z h1 _ h).mono ?_
  rintro e w1 ⟨rfl, rfl⟩
  go_wp2
  go_ret2
  exact ⟨rfl, rfl⟩
theorem zig_bits_neg (n : Int) (hn : n < 0) (hn1 : -9223372036854775808 ≤ n) : bits .xor .u64 (IntKind.u64.wrap (IntKind.u64.wrap n * 2)) (IntKind.u64.wrap (n / 9223372036854775808)) = zigS n := by
  have e1 : IntKind.u64.wrap (IntKind.u64.wrap n * 2) = 18446744073709551616 + 2 * n := by simp only [IntKind.wrap_u64]; omega
  have e2 : IntKind.u64.wrap (n / 9223372036854775808) = 18446744073709551615 := by
    rw [show n / 9223372036854775808 = -1 by omega]; rfl
  rw [e1, e2, xor_ones _ (by omega) (by omega), zigS, if_pos hn]
  omega
theorem zig_bits_pos (n : Int) (hn : 0 ≤ n) (hn1 : n ≤ 9223372036854775807) : bits .xor .u64 (n * 2) (n / 9223372036854775808) = zigS n := by
  rw [show n / 9223372036854775808 = 0 by omega, xor_zero _ (by omega) (by omega), zigS, if_neg (by omega)]
  omega
/-- Zig, of a number that isn't too great. -/
theorem zig_yes (n : Int) (h0 : -2305843009213693952 ≤ n) (h1 : n < 2305843009213693952) (w : World) (h : Wd w) : Calls Tryd.prog 98 #[.int .i64 n] w fun e w' => e = .returned (.tuple #[.int .u64 (zigS n), .bool true]) ∧ w = w' := by
  by_cases hn : n < 0
  · have hz : zigS n = -2 * n - 1 := if_pos hn
    exact zig_in n _ w h (zig_bits_neg n hn (by omega)) hn (by omega) (by omega) (by omega)
  · have hz : zigS n = 2 * n := if_neg hn
    exact zig_in' n _ w h (zig_bits_pos n (by omega) (by omega)) (by omega) (by omega) (by omega) (by omega)
/-- Zig, of one that is. -/
theorem zig_no (n : Int) (h0 : -9223372036854775808 ≤ n) (h1 : n ≤ 9223372036854775807) (h2 : n < -2305843009213693952 ∨ 2305843009213693952 ≤ n) (w : World) (h : Wd w) : Calls Tryd.prog 98 #[.int .i64 n] w fun e w' => e = .returned (.tuple #[.int .u64 0, .bool false]) ∧ w = w' := by
  by_cases hn : n < 0
  · have hz : zigS n = -2 * n - 1 := if_pos hn
    exact zig_out n _ w h (zig_bits_neg n hn (by omega)) hn (by omega) (by omega)
  · have hz : zigS n = 2 * n := if_neg hn
    exact zig_out' n _ w h (zig_bits_pos n (by omega) (by omega)) (by omega) (by omega) (by omega)
end Go.Proofs.YtbbgibekplfacaaDoor.X
/- Plain mathematics: the bytes of a number with its mark. Nothing of the program. -/
namespace Go.Proofs.YtbbgibekplfacaaDoor.X
open Go
theorem strOfNums_append (a b : List Int) : strOfNums a ++ strOfNums b = strOfNums (a ++ b) := by
  unfold strOfNums
  rw [ByteArray.mk_append_mk, List.map_append]
theorem fin0 (n : Int) : strOfNums [sh 0 n % 256] ++ strOfNums (be 0 n) = strOfNums (be 1 n) := by
  rw [strOfNums_append]; rfl
theorem fin1 (n : Int) (h0 : 0 ≤ n) (h1 : n < 16384) : strOfNums [sh 1 n % 256 + 64] ++ strOfNums (be 1 n) = strOfNums (be 2 (16384 + n)) := by
  have h : [sh 1 n % 256 + 64] ++ be 1 n = be 2 (16384 + n) := by
    simp only [be, sh, List.cons_append, List.nil_append, List.cons.injEq, and_true]
    omega
  rw [strOfNums_append, h]
theorem fin2 (n : Int) (h0 : 0 ≤ n) (h1 : n < 1073741824) : strOfNums [sh 3 n % 256 + 128] ++ strOfNums (be 3 n) = strOfNums (be 4 (2147483648 + n)) := by
  have h : [sh 3 n % 256 + 128] ++ be 3 n = be 4 (2147483648 + n) := by
    simp only [be, sh, List.cons_append, List.nil_append, List.cons.injEq, and_true]
    omega
  rw [strOfNums_append, h]
theorem sh_shift (k : Nat) (c n : Int) : sh k (c * 256 ^ k + n) = c + sh k n := by
  induction k generalizing c with
  | zero => simp [sh]
  | succ k ih =>
    rw [Int.pow_succ, show c * (256 ^ k * 256) = (c * 256) * 256 ^ k by rw [Int.mul_comm (256 ^ k) 256, ← Int.mul_assoc], sh, ih, sh]
    omega
theorem fin3 (n : Int) (h0 : 0 ≤ n) (h1 : n < 4611686018427387904) : strOfNums [sh 7 n % 256 + 192] ++ strOfNums (be 7 n) = strOfNums (be 8 (13835058055282163712 + n)) := by
  have e7 := sh_shift 7 192 n
  have e6 := sh_shift 6 (192 * 256) n
  have e5 := sh_shift 5 (192 * 256 * 256) n
  have e4 := sh_shift 4 (192 * 256 * 256 * 256) n
  have e3 := sh_shift 3 (192 * 256 * 256 * 256 * 256) n
  have e2 := sh_shift 2 (192 * 256 * 256 * 256 * 256 * 256) n
  have e1 := sh_shift 1 (192 * 256 * 256 * 256 * 256 * 256 * 256) n
  have e0 := sh_shift 0 (192 * 256 * 256 * 256 * 256 * 256 * 256 * 256) n
  simp only [Int.reducePow, Int.reduceMul] at e7 e6 e5 e4 e3 e2 e1 e0
  have h7 : sh 7 n < 64 ∧ 0 ≤ sh 7 n := by simp only [sh]; omega
  have h : [sh 7 n % 256 + 192] ++ be 7 n = be 8 (13835058055282163712 + n) := by
    simp only [be, List.cons_append, List.nil_append, List.cons.injEq, and_true, e7, e6, e5, e4, e3, e2, e1, e0]
    omega
  rw [strOfNums_append, h]
end Go.Proofs.YtbbgibekplfacaaDoor.X
