/- The contract of Get. -/
import Derived.Test.YtbbgibekplfacaaDoorP1
namespace Go.Proofs.YtbbgibekplfacaaDoor.X
open Go Go.RowKit
theorem un_cut (s : ByteArray) (a k : Nat) (h : k ≤ s.size - a) : un ((s.extract a s.size).extract 0 k) 0 k = un s a k := by
  rw [un_extract _ 0 k (by simp; omega) k (by omega), un_extract s a s.size (Nat.le_refl _) k h]
theorem un1 (s : ByteArray) (a : Nat) : 0 ≤ un s a 1 ∧ un s a 1 < 64 := by
  have := byt_bd s a
  simp only [un]; omega
theorem un2 (s : ByteArray) (a : Nat) : 0 ≤ un s a 2 ∧ un s a 2 < 16384 := by
  have := un1 s a
  have := byt_bd s (a + 1)
  rw [un_succ s a 1 (by decide)]; omega
theorem un4 (s : ByteArray) (a : Nat) : 0 ≤ un s a 4 ∧ un s a 4 < 1073741824 := by
  have := un2 s a
  have := byt_bd s (a + 2)
  have := byt_bd s (a + 3)
  rw [un_succ s a 3 (by decide), un_succ s a 2 (by decide)]; omega
theorem ret3 {a a' b b' c c' : Int} (h1 : a = a') (h2 : b = b') (h3 : c = c') : Ending.returned (.tuple #[.int .u64 a, .int .i64 b, .int .i64 c]) = Ending.returned (.tuple #[.int .u64 a', .int .i64 b', .int .i64 c']) := by rw [h1, h2, h3]
end Go.Proofs.YtbbgibekplfacaaDoor.X
