/- Plain mathematics: the greater number has the greater text. -/
import Derived.Test.YtdkgbocffpiaaaaDoorA6
import Derived.Laws.Cover1
namespace Go.Proofs.YtdkgbocffpiaaaaDoor
open Go
theorem sh_mono (k : Nat) (u v : Int) (h : u ≤ v) : sh k u ≤ sh k v := by
  induction k with
  | zero => exact h
  | succ k ih => simp only [sh]; omega
theorem lt_byte (a b : Int) (ha : 0 ≤ a) (hab : a < b) (hb : b < 256) : UInt8.ofNat a.toNat < UInt8.ofNat b.toNat := by
  rw [UInt8.lt_iff_toNat_lt, UInt8.toNat_ofNat_of_lt' (by simp [UInt8.size]; omega), UInt8.toNat_ofNat_of_lt' (by simp [UInt8.size]; omega)]
  omega
theorem bless (k : Nat) (u v : Int) (huv : u < v) (hs : sh k u = sh k v) : Op.bytesLess ((be k u).map fun n => UInt8.ofNat n.toNat) ((be k v).map fun n => UInt8.ofNat n.toNat) = true := by
  induction k with
  | zero => simp only [sh] at hs; omega
  | succ k ih =>
    simp only [be, List.map_cons, Op.bytesLess, Bool.or_eq_true, Bool.and_eq_true, decide_eq_true_eq, beq_iff_eq]
    have hm := sh_mono k u v (by omega)
    simp only [sh] at hs
    rcases Int.lt_or_eq_of_le hm with h | h
    · exact .inl (lt_byte _ _ (by omega) (by omega) (by omega))
    · exact .inr ⟨by rw [h], ih h⟩
theorem sh_zero2 (v : Int) (h0 : 0 ≤ v) (h : v < 65536) : sh 2 v = 0 := by simp only [sh]; omega
theorem sh_zero1 (v : Int) (h0 : 0 ≤ v) (h : v < 256) : sh 1 v = 0 := by simp only [sh]; omega
theorem sh_zero4 (v : Int) (h0 : 0 ≤ v) (h : v < 4294967296) : sh 4 v = 0 := by simp only [sh]; omega
theorem sh_zero8 (v : Int) (h0 : 0 ≤ v) (h : v < 18446744073709551616) : sh 8 v = 0 := by simp only [sh]; omega
theorem toList_nums (l : List Int) : (strOfNums l).toList = l.map fun n => UInt8.ofNat n.toNat := by
  rw [ByteArray.toList_eq, strOfNums_data]
theorem less_ne {x y : List UInt8} (h : Op.bytesLess x y = true) : (x == y) = false := by
  rw [beq_eq_false_iff_ne]
  rintro rfl
  have : ∀ l : List UInt8, Op.bytesLess l l = false := by
    intro l
    induction l with
    | nil => rfl
    | cons a l ih =>
      simp only [Op.bytesLess, ih, Bool.and_false, Bool.or_false, decide_eq_false_iff_not]
      exact UInt8.lt_irrefl a
  rw [this] at h
  cases h
theorem size_put (n : Int) (h0 : 0 ≤ n) (h4 : n < 4611686018427387904) : ((strOfNums (putS n)).size : Int) = if n < 64 then 1 else if n < 16384 then 2 else if n < 1073741824 then 4 else if n < 4611686018427387904 then 8 else 0 := by
  rw [strOfNums_size]
  rcases putS_cases n h0 h4 with ⟨h1, e⟩ | ⟨h1, h2, e⟩ | ⟨h1, h2, e⟩ | ⟨h1, e⟩
  all_goals
    rw [e, be_length]
    (repeat' split) <;> first | rfl | omega
theorem puts_lt (n m : Int) (h0 : 0 ≤ n) (hnm : n < m) (h4 : m < 4611686018427387904) :
    ((strOfNums (putS n)).toList == (strOfNums (putS m)).toList) = false ∧ ((strOfNums (putS n)).size < (strOfNums (putS m)).size ∨ ((strOfNums (putS m)).size ≤ (strOfNums (putS n)).size ∧ Op.bytesLess (strOfNums (putS n)).toList (strOfNums (putS m)).toList = true)) := by
  have key : (strOfNums (putS n)).size < (strOfNums (putS m)).size ∨ ((strOfNums (putS m)).size ≤ (strOfNums (putS n)).size ∧ Op.bytesLess (strOfNums (putS n)).toList (strOfNums (putS m)).toList = true) := by
    rw [strOfNums_size, strOfNums_size, toList_nums, toList_nums]
    rcases putS_cases n h0 (by omega) with ⟨h1, e⟩ | ⟨h1, h2, e⟩ | ⟨h1, h2, e⟩ | ⟨h1, e⟩ <;>
    rcases putS_cases m (by omega) h4 with ⟨k1, f⟩ | ⟨k1, k2, f⟩ | ⟨k1, k2, f⟩ | ⟨k1, f⟩ <;>
    rw [e, f, be_length, be_length] <;>
    first
      | (exfalso; omega)
      | (left; omega)
      | (right; refine ⟨Nat.le_refl _, ?_⟩)
    · exact bless 1 _ _ hnm (by rw [sh_zero1 _ (by omega) (by omega), sh_zero1 _ (by omega) (by omega)])
    · exact bless 2 _ _ (by omega) (by rw [sh_zero2 _ (by omega) (by omega), sh_zero2 _ (by omega) (by omega)])
    · exact bless 4 _ _ (by omega) (by rw [sh_zero4 _ (by omega) (by omega), sh_zero4 _ (by omega) (by omega)])
    · exact bless 8 _ _ (by omega) (by rw [sh_zero8 _ (by omega) (by omega), sh_zero8 _ (by omega) (by omega)])
  refine ⟨?_, key⟩
  rcases key with h | ⟨_, h⟩
  · rw [beq_eq_false_iff_ne]
    intro e
    have := congrArg List.length e
    rw [toList_nums, toList_nums, List.length_map, List.length_map] at this
    rw [strOfNums_size, strOfNums_size] at h
    omega
  · exact less_ne h
end Go.Proofs.YtdkgbocffpiaaaaDoor
