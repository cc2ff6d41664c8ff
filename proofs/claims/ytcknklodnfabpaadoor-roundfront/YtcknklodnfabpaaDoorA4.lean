/- Plain mathematics: the bytes of a number with its mark. Nothing of the program. -/
import Derived.Test.YtcknklodnfabpaaDoorA
namespace Go.Proofs.YtcknklodnfabpaaDoor
open Go
theorem strOfNums_append (a b : List Int) : strOfNums a ++ strOfNums b = strOfNums (a ++ b) := by
  unfold strOfNums
  rw [ByteArray.mk_append_mk, List.map_append]
theorem fin0 (n : Int) : strOfNums [sh 0 n % 256] ++ strOfNums (be 0 n) = strOfNums (be 1 n) := by
  rw [strOfNums_append]; rfl
theorem fin1 (n : Int) (h0 : 0 ≤ n) (h1 : n < 16384) : strOfNums [sh 1 n % 256 + 64] ++ strOfNums (be 1 n) = strOfNums (be 2 (16384 + n)) := by
  have h : [sh 1 n % 256 + 64] ++ be 1 n = be 2 (16384 + n) := by
    simp only [be, sh, List.cons_append, List.nil_append, List.cons.injEq, and_true]
    omega
  rw [strOfNums_append, h]
theorem fin2 (n : Int) (h0 : 0 ≤ n) (h1 : n < 1073741824) : strOfNums [sh 3 n % 256 + 128] ++ strOfNums (be 3 n) = strOfNums (be 4 (2147483648 + n)) := by
  have h : [sh 3 n % 256 + 128] ++ be 3 n = be 4 (2147483648 + n) := by
    simp only [be, sh, List.cons_append, List.nil_append, List.cons.injEq, and_true]
    omega
  rw [strOfNums_append, h]
theorem sh_shift (k : Nat) (c n : Int) : sh k (c * 256 ^ k + n) = c + sh k n := by
  induction k generalizing c with
  | zero => simp [sh]
  | succ k ih =>
    rw [Int.pow_succ, show c * (256 ^ k * 256) = (c * 256) * 256 ^ k by rw [Int.mul_comm (256 ^ k) 256, ← Int.mul_assoc], sh, ih, sh]
    omega
theorem fin3 (n : Int) (h0 : 0 ≤ n) (h1 : n < 4611686018427387904) : strOfNums [sh 7 n % 256 + 192] ++ strOfNums (be 7 n) = strOfNums (be 8 (13835058055282163712 + n)) := by
  have e7 := sh_shift 7 192 n
  have e6 := sh_shift 6 (192 * 256) n
  have e5 := sh_shift 5 (192 * 256 * 256) n
  have e4 := sh_shift 4 (192 * 256 * 256 * 256) n
  have e3 := sh_shift 3 (192 * 256 * 256 * 256 * 256) n
  have e2 := sh_shift 2 (192 * 256 * 256 * 256 * 256 * 256) n
  have e1 := sh_shift 1 (192 * 256 * 256 * 256 * 256 * 256 * 256) n
  have e0 := sh_shift 0 (192 * 256 * 256 * 256 * 256 * 256 * 256 * 256) n
  simp only [Int.reducePow, Int.reduceMul] at e7 e6 e5 e4 e3 e2 e1 e0
  have h7 : sh 7 n < 64 ∧ 0 ≤ sh 7 n := by simp only [sh]; omega
  have h : [sh 7 n % 256 + 192] ++ be 7 n = be 8 (13835058055282163712 + n) := by
    simp only [be, List.cons_append, List.nil_append, List.cons.injEq, and_true, e7, e6, e5, e4, e3, e2, e1, e0]
    omega
  rw [strOfNums_append, h]
end Go.Proofs.YtcknklodnfabpaaDoor
