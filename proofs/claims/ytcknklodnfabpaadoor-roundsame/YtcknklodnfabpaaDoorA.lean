/- Plain mathematics of prefix numbers: bytes, sizes. Nothing of the program. -/
import Derived.WalkKit
import Derived.Laws.BytesArg
namespace Go.Proofs.YtcknklodnfabpaaDoor
open Go

/-- v with its lowest k bytes struck. -/
def sh : Nat → Int → Int
  | 0, v => v
  | k + 1, v => sh k v / 256
/-- The k lowest bytes of v, the highest first. -/
def be : Nat → Int → List Int
  | 0, _ => []
  | k + 1, v => (sh k v % 256) :: be k v
theorem be_length (k : Nat) (v : Int) : (be k v).length = k := by
  induction k with
  | zero => rfl
  | succ k ih => simp [be, ih]
theorem sh_bd (k : Nat) (v : Int) (h : 0 ≤ v) : 0 ≤ sh k v ∧ sh k v ≤ v := by
  induction k with
  | zero => exact ⟨h, Int.le_refl _⟩
  | succ k ih => simp only [sh]; omega

/-- The cells of a row of s bytes of which the k last ones are written. -/
def row (j k : Nat) (v : Int) : List Value := List.replicate j (.int .u8 0) ++ (be k v).map (Value.int .u8)
theorem row_length (j k : Nat) (v : Int) : (row j k v).length = j + k := by simp [row, be_length]
theorem row_set (i k : Nat) (v : Int) : (row (i + 1) k v).set i (.int .u8 (sh k v % 256)) = row i (k + 1) v := by
  unfold row
  rw [List.replicate_succ', List.append_assoc, List.set_append]
  simp [be]

theorem or_join (i : Nat) (x y : Int) (hx0 : 0 ≤ x) (hx : x % 2 ^ i = 0) (hy0 : 0 ≤ y) (hy : y < 2 ^ i) (hx1 : x < 18446744073709551616) (hy1 : y < 18446744073709551616) : bits .or .u64 x y = x + y := by
  rw [u64_or x y hx0 hx1 hy0 hy1, nat_join i]
  · omega
  · have : ((x.toNat % 2 ^ i : Nat) : Int) = 0 := by
      rw [Int.natCast_emod, Int.toNat_of_nonneg hx0]; simpa using hx
    omega
  · have : ((y.toNat : Nat) : Int) < ((2 ^ i : Nat) : Int) := by
      rw [Int.toNat_of_nonneg hy0]; simpa using hy
    omega
end Go.Proofs.YtcknklodnfabpaaDoor
