/- Plain mathematics of reading prefix numbers. Nothing of the program. -/
import Derived.Test.YtcknklodnfabpaaDoorA
namespace Go.Proofs.YtcknklodnfabpaaDoor
open Go

/-- The byte at a place, 0 behind the end. -/
def byt (s : ByteArray) (k : Nat) : Int := if h : k < s.size then (s[k].toNat : Int) else 0
theorem byt_bd (s : ByteArray) (k : Nat) : 0 ≤ byt s k ∧ byt s k ≤ 255 := by
  unfold byt
  split
  · have := (s[k]).toNat_lt; omega
  · omega
theorem byt_at (s : ByteArray) (k : Nat) (h : k < s.size) : (s[k].toNat : Int) = byt s k := by rw [byt, dif_pos h]
/-- The number that k bytes from the place a on hold, the first one without its two highest bits. -/
def un (s : ByteArray) (a : Nat) : Nat → Int
  | 0 => 0
  | 1 => byt s a % 64
  | k + 2 => un s a (k + 1) * 256 + byt s (a + (k + 1))
theorem un_succ (s : ByteArray) (a k : Nat) (h : 1 ≤ k) : un s a (k + 1) = un s a k * 256 + byt s (a + k) := by
  rcases k with _ | k
  · omega
  · rfl
theorem un_bd7 (s : ByteArray) (a k : Nat) (h : k < 8) : 0 ≤ un s a k ∧ un s a k < 18014398509481984 := by
  have b0 := byt_bd s a
  have b1 := byt_bd s (a + 1)
  have b2 := byt_bd s (a + 2)
  have b3 := byt_bd s (a + 3)
  have b4 := byt_bd s (a + 4)
  have b5 := byt_bd s (a + 5)
  have b6 := byt_bd s (a + 6)
  match k, h with
  | 0, _ => simp [un]
  | 1, _ => simp only [un]; omega
  | 2, _ => simp only [un, Nat.reduceAdd]; omega
  | 3, _ => simp only [un, Nat.reduceAdd]; omega
  | 4, _ => simp only [un, Nat.reduceAdd]; omega
  | 5, _ => simp only [un, Nat.reduceAdd]; omega
  | 6, _ => simp only [un, Nat.reduceAdd]; omega
  | 7, _ => simp only [un, Nat.reduceAdd]; omega
theorem un_bd (s : ByteArray) (a k : Nat) (h : k ≤ 8) : 0 ≤ un s a k ∧ un s a k < 4611686018427387904 := by
  rcases Nat.lt_or_ge k 8 with h' | h'
  · have := un_bd7 s a k h'; omega
  · obtain rfl : k = 8 := by omega
    have := un_bd7 s a 7 (by omega)
    have b := byt_bd s (a + 7)
    rw [un_succ s a 7 (by omega)]; omega
theorem byt_extract (s : ByteArray) (a b k : Nat) (hb : b ≤ s.size) (h : k < b - a) : byt (s.extract a b) k = byt s (a + k) := by
  unfold byt
  have h1 : k < (s.extract a b).size := by simp; omega
  have h2 : a + k < s.size := by omega
  rw [dif_pos h1, dif_pos h2, ByteArray.getElem_extract]
theorem un_extract (s : ByteArray) (a b : Nat) (hb : b ≤ s.size) : ∀ k, k ≤ b - a → un (s.extract a b) 0 k = un s a k
  | 0, _ => rfl
  | 1, h => by simp only [un]; rw [byt_extract s a b 0 hb (by omega)]; rfl
  | k + 2, h => by
    simp only [un]
    rw [un_extract s a b hb (k + 1) (by omega), Nat.zero_add, byt_extract s a b (k + 1) hb (by omega)]
theorem or_byte (x y : Int) (hx : 0 ≤ x) (hx1 : x < 18014398509481984) (hy : 0 ≤ y) (hy1 : y ≤ 255) : bits .or .u64 (x * 256) (IntKind.u64.wrap y) = x * 256 + y := by
  rw [show IntKind.u64.wrap y = y by rw [IntKind.wrap_u64]; omega]
  exact or_join 8 _ _ (by omega) (by omega) (by omega) (by omega) (by omega) (by omega)
theorem and63 (y : Int) (hy : 0 ≤ y) (hy1 : y ≤ 255) : IntKind.u64.wrap (bits .and .u8 y 63) = y % 64 := by
  rw [u8_and63 y hy (by omega), IntKind.wrap_u64]; omega
/-- How many bytes a number has whose first byte is c. -/
def wid (c : Int) : Nat := if c < 64 then 1 else if c < 128 then 2 else if c < 192 then 4 else 8
/-- The least number that has so many bytes. -/
def lo (k : Nat) : Int := if k = 1 then 0 else if k = 2 then 64 else if k = 4 then 16384 else 1073741824
/-- What stands at a place: the number, the place behind, an error. -/
def getS (s : ByteArray) (a : Int) : Int × Int × Int :=
  if a < 0 ∨ (s.size : Int) < a then (0, 0, 1)
  else if s.size < a.toNat + wid (byt s a.toNat) then (0, 0, 2)
  else if un s a.toNat (wid (byt s a.toNat)) < lo (wid (byt s a.toNat)) then (0, 0, 3)
  else (un s a.toNat (wid (byt s a.toNat)), a + wid (byt s a.toNat), 0)
theorem byt_end (s : ByteArray) (k : Nat) (h : s.size ≤ k) : byt s k = 0 := by rw [byt, dif_neg (by omega)]
theorem isEmpty_extract (s : ByteArray) (a : Nat) (h : a < s.size) : (s.extract a s.size).toList.isEmpty = false := by
  rw [ByteArray.toList_eq]
  have h3 : (s.extract a s.size).size = s.size - a := by simp
  cases hx : (s.extract a s.size).data.toList with
  | cons x l => rfl
  | nil =>
    have h2 : (s.extract a s.size).data.toList.length = 0 := by rw [hx]; rfl
    rw [Array.length_toList] at h2
    have h4 : (s.extract a s.size).data.size = (s.extract a s.size).size := rfl
    omega
theorem isEmpty_end (s : ByteArray) : (s.extract s.size s.size).toList.isEmpty = true := by
  rw [ByteArray.toList_eq]
  have h3 : (s.extract s.size s.size).data.size = 0 := by
    have : (s.extract s.size s.size).size = 0 := by simp
    exact this
  have h4 : (s.extract s.size s.size).data.toList = [] := List.eq_nil_of_length_eq_zero (by rw [Array.length_toList]; exact h3)
  rw [h4]; rfl
end Go.Proofs.YtcknklodnfabpaaDoor
