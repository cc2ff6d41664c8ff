/- Plain mathematics of signed numbers without their sign. Nothing of the program. -/
import Derived.Test.YtcknklodnfabpaaDoorA
import Derived.Lib.Zigzag
namespace Go.Proofs.YtcknklodnfabpaaDoor
open Go
/-- How many bytes a number has; 0: it is too great. -/
def sizeZ (n : Int) : Int := if n < 64 then 1 else if n < 16384 then 2 else if n < 1073741824 then 4 else if n < 4611686018427387904 then 8 else 0
def zigS (n : Int) : Int := if n < 0 then -2 * n - 1 else 2 * n
def zagS (n : Int) : Int := if n % 2 = 1 then -(n / 2) - 1 else n / 2
theorem xor_comm' (k : IntKind) (x y : Int) : bits .xor k x y = bits .xor k y x := by
  simp only [bits, BitVec.xor_comm]
theorem xor_ones (x : Int) (h0 : 0 ≤ x) (h1 : x < 18446744073709551616) : bits .xor .u64 x 18446744073709551615 = 18446744073709551615 - x := by
  rw [xor_comm', u64_xor _ _ (by omega) (by omega) h0 h1]
  have := Lib.xor_ones64 x.toNat (by omega)
  rw [show (18446744073709551615 : Int).toNat = 2 ^ 64 - 1 by rfl, this]
  omega
theorem xor_zero (x : Int) (h0 : 0 ≤ x) (h1 : x < 18446744073709551616) : bits .xor .u64 x 0 = x := by
  rw [u64_xor _ _ h0 h1 (by omega) (by omega)]
  simp; omega
theorem i64_xor_zero (x : Int) (h0 : 0 ≤ x) (h1 : x < 9223372036854775808) : bits .xor .i64 x 0 = x := by
  show IntKind.i64.wrap ((BitVec.ofInt 64 x ^^^ BitVec.ofInt 64 0).toNat : Int) = _
  have h2 : (BitVec.ofInt 64 x).toNat = x.toNat := by
    rw [show x = ((x.toNat : Nat) : Int) by omega, BitVec.ofInt_natCast, BitVec.toNat_ofNat, Int.toNat_natCast]; exact Nat.mod_eq_of_lt (by omega)
  have h3 : (BitVec.ofInt 64 0).toNat = 0 := by decide
  rw [BitVec.toNat_xor, h2, h3, Nat.xor_zero, IntKind.wrap_i64]
  omega
theorem i64_xor_ones (x : Int) (h0 : 0 ≤ x) (h1 : x < 9223372036854775808) : bits .xor .i64 x (-1) = -x - 1 := by
  have := Lib.i64_not x.toNat (by omega)
  rw [xor_comm']
  rw [show ((x.toNat : Nat) : Int) = x by omega] at this
  exact this
end Go.Proofs.YtcknklodnfabpaaDoor
