import Derived.Test.YtbbgibekplfacaaDoorP3
import Derived.Test.YtbbgibekplfacaaDoorP2
/- Plain mathematics: what is put is got, what is got is put. -/
namespace Go.Proofs.YtbbgibekplfacaaDoor.X
open Go
theorem byt_left (a b : ByteArray) (i : Nat) (h : i < a.size) : byt (a ++ b) i = byt a i := by
  have h1 : i < (a ++ b).size := by rw [ByteArray.size_append]; omega
  rw [byt, dif_pos h1, byt, dif_pos h, ByteArray.getElem_append_left h]
theorem byt_right (a b : ByteArray) (i : Nat) (h : i < b.size) : byt (a ++ b) (a.size + i) = byt b i := by
  have h1 : a.size + i < (a ++ b).size := by rw [ByteArray.size_append]; omega
  rw [byt, dif_pos h1, byt, dif_pos h, ByteArray.getElem_append_right (Nat.le_add_right _ _)]
  simp
theorem byt_nums (l : List Int) (i : Nat) (h : i < l.length) (hb : ∀ x ∈ l, 0 ≤ x ∧ x < 256) : byt (strOfNums l) i = l.getD i 0 := by
  have h1 : i < (strOfNums l).size := by rw [strOfNums_size]; exact h
  rw [byt, dif_pos h1, List.getD_eq_getElem?_getD, List.getElem?_eq_getElem h, Option.getD_some]
  have h2 : (strOfNums l)[i] = UInt8.ofNat (l[i]).toNat := by
    show (strOfNums l).data[i] = _
    simp [strOfNums]
  have h3 := hb l[i] (List.getElem_mem h)
  rw [h2, UInt8.toNat_ofNat_of_lt' (by simp [UInt8.size]; omega)]
  omega
theorem be_mem (k : Nat) (v : Int) : ∀ x ∈ be k v, 0 ≤ x ∧ x < 256 := by
  induction k with
  | zero => simp [be]
  | succ k ih =>
    intro x hx
    simp only [be, List.mem_cons] at hx
    rcases hx with rfl | hx
    · omega
    · exact ih x hx
theorem eq_of_byt (a b : ByteArray) (hs : a.size = b.size) (h : ∀ i, i < a.size → byt a i = byt b i) : a = b := by
  refine ByteArray.ext_getElem hs fun i hi hi' => ?_
  have := h i hi
  rw [byt, dif_pos hi, byt, dif_pos hi'] at this
  exact UInt8.toNat_inj.1 (by omega)
theorem putS_mem (n : Int) : ∀ x ∈ putS n, 0 ≤ x ∧ x < 256 := by
  unfold putS
  (repeat' split) <;> exact be_mem _ _
theorem putS_cases (n : Int) (h0 : 0 ≤ n) (h4 : n < 4611686018427387904) :
    (n < 64 ∧ putS n = be 1 n) ∨ (64 ≤ n ∧ n < 16384 ∧ putS n = be 2 (16384 + n)) ∨ (16384 ≤ n ∧ n < 1073741824 ∧ putS n = be 4 (2147483648 + n)) ∨ (1073741824 ≤ n ∧ putS n = be 8 (13835058055282163712 + n)) := by
  unfold putS
  by_cases h1 : n < 64
  · exact .inl ⟨h1, if_pos h1⟩
  rw [if_neg h1]
  by_cases h2 : n < 16384
  · exact .inr (.inl ⟨by omega, h2, if_pos h2⟩)
  rw [if_neg h2]
  by_cases h3 : n < 1073741824
  · exact .inr (.inr (.inl ⟨by omega, h3, if_pos h3⟩))
  rw [if_neg h3]
  exact .inr (.inr (.inr ⟨by omega, rfl⟩))
theorem getS_be1 (n : Int) (h0 : 0 ≤ n) (h1 : n < 64) (s : ByteArray) (a : Nat) (hs : a + 1 ≤ s.size) (hb : ∀ i, i < 1 → byt s (a + i) = (be 1 n).getD i 0) : getS s (a : Int) = (n, (a : Int) + 1, 0) := by
  have b0 : byt s (a + 0) = sh 0 n % 256 := hb 0 (by omega)
  rw [Nat.add_zero] at b0
  have s0 : sh 0 n = n := rfl
  have hw : wid (byt s a) = 1 := by
    unfold wid
    rw [b0]
    (repeat' split) <;> omega
  have u1 : un s a 1 = sh 0 n := by simp only [un]; rw [b0]; omega
  unfold getS
  rw [if_neg (by omega), Int.toNat_natCast, hw, if_neg (by omega), u1, if_neg (by simp [lo, s0]; omega), s0]
  rfl
theorem be_un1 (s : ByteArray) (hs : 1 ≤ s.size) (hw : wid (byt s 0) = 1) : strOfNums (be 1 (un s 0 1)) = s.extract 0 1 := by
  have hwr : 0 ≤ byt s 0 ∧ byt s 0 < 64 := by
    have := byt_bd s 0
    unfold wid at hw
    (repeat' split at hw) <;> omega
  refine eq_of_byt _ _ (by rw [strOfNums_size, be_length]; simp; omega) fun i hi => ?_
  rw [strOfNums_size, be_length] at hi
  rw [byt_nums _ i (by rw [be_length]; exact hi) (be_mem _ _), byt_extract s 0 1 i hs (by omega), Nat.zero_add]
  have u1 : un s 0 1 = byt s 0 % 64 := rfl
  have c0 := byt_bd s 0
  generalize un s 0 1 = n at *
  have s0 : sh 0 n = n := rfl
  match i, hi with
  | 0, _ => show sh 0 n % 256 = byt s 0; rw [s0]; omega
theorem getS_be2 (n : Int) (h0 : 64 ≤ n) (h1 : n < 16384) (s : ByteArray) (a : Nat) (hs : a + 2 ≤ s.size) (hb : ∀ i, i < 2 → byt s (a + i) = (be 2 (16384 + n)).getD i 0) : getS s (a : Int) = (n, (a : Int) + 2, 0) := by
  have b0 : byt s (a + 0) = sh 1 (16384 + n) % 256 := hb 0 (by omega)
  have b1 : byt s (a + 1) = sh 0 (16384 + n) % 256 := hb 1 (by omega)
  rw [Nat.add_zero] at b0
  have e0 : sh 0 (16384 + n) = 16384 + sh 0 n := by have := sh_shift 0 16384 n; simpa using this
  have e1 : sh 1 (16384 + n) = 64 + sh 1 n := by have := sh_shift 1 64 n; simpa using this
  have s0 : sh 0 n = n := rfl
  have s1 : sh 1 n = sh 0 n / 256 := rfl
  have hw : wid (byt s a) = 2 := by
    unfold wid
    rw [b0, e1]
    (repeat' split) <;> omega
  have u1 : un s a 1 = sh 1 n := by simp only [un]; rw [b0, e1]; omega
  have u2 : un s a 2 = sh 0 n := by rw [un_succ s a 1 (by decide), u1, b1, e0]; omega
  unfold getS
  rw [if_neg (by omega), Int.toNat_natCast, hw, if_neg (by omega), u2, if_neg (by simp [lo, s0]; omega), s0]
  rfl
theorem be_un2 (s : ByteArray) (hs : 2 ≤ s.size) (hw : wid (byt s 0) = 2) : strOfNums (be 2 (16384 + (un s 0 2))) = s.extract 0 2 := by
  have hwr : 64 ≤ byt s 0 ∧ byt s 0 < 128 := by
    have := byt_bd s 0
    unfold wid at hw
    (repeat' split at hw) <;> omega
  refine eq_of_byt _ _ (by rw [strOfNums_size, be_length]; simp; omega) fun i hi => ?_
  rw [strOfNums_size, be_length] at hi
  rw [byt_nums _ i (by rw [be_length]; exact hi) (be_mem _ _), byt_extract s 0 2 i hs (by omega), Nat.zero_add]
  have u1 : un s 0 1 = byt s 0 % 64 := rfl
  have u2 : un s 0 2 = un s 0 1 * 256 + byt s 1 := un_succ s 0 1 (by decide)
  have c0 := byt_bd s 0
  have c1 := byt_bd s 1
  generalize un s 0 2 = n at *
  have e0 : sh 0 (16384 + n) = 16384 + sh 0 n := by have := sh_shift 0 16384 n; simpa using this
  have e1 : sh 1 (16384 + n) = 64 + sh 1 n := by have := sh_shift 1 64 n; simpa using this
  have s0 : sh 0 n = n := rfl
  have s1 : sh 1 n = un s 0 1 := by
    have h9 : sh 1 n = sh 0 n / 256 := rfl
    rw [h9, s0]; omega
  match i, hi with
  | 0, _ => show sh 1 (16384 + n) % 256 = byt s 0; rw [e1, s1]; omega
  | 1, _ => show sh 0 (16384 + n) % 256 = byt s 1; rw [e0, s0]; omega
theorem getS_be4 (n : Int) (h0 : 16384 ≤ n) (h1 : n < 1073741824) (s : ByteArray) (a : Nat) (hs : a + 4 ≤ s.size) (hb : ∀ i, i < 4 → byt s (a + i) = (be 4 (2147483648 + n)).getD i 0) : getS s (a : Int) = (n, (a : Int) + 4, 0) := by
  have b0 : byt s (a + 0) = sh 3 (2147483648 + n) % 256 := hb 0 (by omega)
  have b1 : byt s (a + 1) = sh 2 (2147483648 + n) % 256 := hb 1 (by omega)
  have b2 : byt s (a + 2) = sh 1 (2147483648 + n) % 256 := hb 2 (by omega)
  have b3 : byt s (a + 3) = sh 0 (2147483648 + n) % 256 := hb 3 (by omega)
  rw [Nat.add_zero] at b0
  have e0 : sh 0 (2147483648 + n) = 2147483648 + sh 0 n := by have := sh_shift 0 2147483648 n; simpa using this
  have e1 : sh 1 (2147483648 + n) = 8388608 + sh 1 n := by have := sh_shift 1 8388608 n; simpa using this
  have e2 : sh 2 (2147483648 + n) = 32768 + sh 2 n := by have := sh_shift 2 32768 n; simpa using this
  have e3 : sh 3 (2147483648 + n) = 128 + sh 3 n := by have := sh_shift 3 128 n; simpa using this
  have s0 : sh 0 n = n := rfl
  have s1 : sh 1 n = sh 0 n / 256 := rfl
  have s2 : sh 2 n = sh 1 n / 256 := rfl
  have s3 : sh 3 n = sh 2 n / 256 := rfl
  have hw : wid (byt s a) = 4 := by
    unfold wid
    rw [b0, e3]
    (repeat' split) <;> omega
  have u1 : un s a 1 = sh 3 n := by simp only [un]; rw [b0, e3]; omega
  have u2 : un s a 2 = sh 2 n := by rw [un_succ s a 1 (by decide), u1, b1, e2]; omega
  have u3 : un s a 3 = sh 1 n := by rw [un_succ s a 2 (by decide), u2, b2, e1]; omega
  have u4 : un s a 4 = sh 0 n := by rw [un_succ s a 3 (by decide), u3, b3, e0]; omega
  unfold getS
  rw [if_neg (by omega), Int.toNat_natCast, hw, if_neg (by omega), u4, if_neg (by simp [lo, s0]; omega), s0]
  rfl
theorem be_un4 (s : ByteArray) (hs : 4 ≤ s.size) (hw : wid (byt s 0) = 4) : strOfNums (be 4 (2147483648 + (un s 0 4))) = s.extract 0 4 := by
  have hwr : 128 ≤ byt s 0 ∧ byt s 0 < 192 := by
    have := byt_bd s 0
    unfold wid at hw
    (repeat' split at hw) <;> omega
  refine eq_of_byt _ _ (by rw [strOfNums_size, be_length]; simp; omega) fun i hi => ?_
  rw [strOfNums_size, be_length] at hi
  rw [byt_nums _ i (by rw [be_length]; exact hi) (be_mem _ _), byt_extract s 0 4 i hs (by omega), Nat.zero_add]
  have u1 : un s 0 1 = byt s 0 % 64 := rfl
  have u2 : un s 0 2 = un s 0 1 * 256 + byt s 1 := un_succ s 0 1 (by decide)
  have u3 : un s 0 3 = un s 0 2 * 256 + byt s 2 := un_succ s 0 2 (by decide)
  have u4 : un s 0 4 = un s 0 3 * 256 + byt s 3 := un_succ s 0 3 (by decide)
  have c0 := byt_bd s 0
  have c1 := byt_bd s 1
  have c2 := byt_bd s 2
  have c3 := byt_bd s 3
  generalize un s 0 4 = n at *
  have e0 : sh 0 (2147483648 + n) = 2147483648 + sh 0 n := by have := sh_shift 0 2147483648 n; simpa using this
  have e1 : sh 1 (2147483648 + n) = 8388608 + sh 1 n := by have := sh_shift 1 8388608 n; simpa using this
  have e2 : sh 2 (2147483648 + n) = 32768 + sh 2 n := by have := sh_shift 2 32768 n; simpa using this
  have e3 : sh 3 (2147483648 + n) = 128 + sh 3 n := by have := sh_shift 3 128 n; simpa using this
  have s0 : sh 0 n = n := rfl
  have s1 : sh 1 n = un s 0 3 := by
    have h9 : sh 1 n = sh 0 n / 256 := rfl
    rw [h9, s0]; omega
  have s2 : sh 2 n = un s 0 2 := by
    have h9 : sh 2 n = sh 1 n / 256 := rfl
    rw [h9, s1]; omega
  have s3 : sh 3 n = un s 0 1 := by
    have h9 : sh 3 n = sh 2 n / 256 := rfl
    rw [h9, s2]; omega
  match i, hi with
  | 0, _ => show sh 3 (2147483648 + n) % 256 = byt s 0; rw [e3, s3]; omega
  | 1, _ => show sh 2 (2147483648 + n) % 256 = byt s 1; rw [e2, s2]; omega
  | 2, _ => show sh 1 (2147483648 + n) % 256 = byt s 2; rw [e1, s1]; omega
  | 3, _ => show sh 0 (2147483648 + n) % 256 = byt s 3; rw [e0, s0]; omega
theorem getS_be8 (n : Int) (h0 : 1073741824 ≤ n) (h1 : n < 4611686018427387904) (s : ByteArray) (a : Nat) (hs : a + 8 ≤ s.size) (hb : ∀ i, i < 8 → byt s (a + i) = (be 8 (13835058055282163712 + n)).getD i 0) : getS s (a : Int) = (n, (a : Int) + 8, 0) := by
  have b0 : byt s (a + 0) = sh 7 (13835058055282163712 + n) % 256 := hb 0 (by omega)
  have b1 : byt s (a + 1) = sh 6 (13835058055282163712 + n) % 256 := hb 1 (by omega)
  have b2 : byt s (a + 2) = sh 5 (13835058055282163712 + n) % 256 := hb 2 (by omega)
  have b3 : byt s (a + 3) = sh 4 (13835058055282163712 + n) % 256 := hb 3 (by omega)
  have b4 : byt s (a + 4) = sh 3 (13835058055282163712 + n) % 256 := hb 4 (by omega)
  have b5 : byt s (a + 5) = sh 2 (13835058055282163712 + n) % 256 := hb 5 (by omega)
  have b6 : byt s (a + 6) = sh 1 (13835058055282163712 + n) % 256 := hb 6 (by omega)
  have b7 : byt s (a + 7) = sh 0 (13835058055282163712 + n) % 256 := hb 7 (by omega)
  rw [Nat.add_zero] at b0
  have e0 : sh 0 (13835058055282163712 + n) = 13835058055282163712 + sh 0 n := by have := sh_shift 0 13835058055282163712 n; simpa using this
  have e1 : sh 1 (13835058055282163712 + n) = 54043195528445952 + sh 1 n := by have := sh_shift 1 54043195528445952 n; simpa using this
  have e2 : sh 2 (13835058055282163712 + n) = 211106232532992 + sh 2 n := by have := sh_shift 2 211106232532992 n; simpa using this
  have e3 : sh 3 (13835058055282163712 + n) = 824633720832 + sh 3 n := by have := sh_shift 3 824633720832 n; simpa using this
  have e4 : sh 4 (13835058055282163712 + n) = 3221225472 + sh 4 n := by have := sh_shift 4 3221225472 n; simpa using this
  have e5 : sh 5 (13835058055282163712 + n) = 12582912 + sh 5 n := by have := sh_shift 5 12582912 n; simpa using this
  have e6 : sh 6 (13835058055282163712 + n) = 49152 + sh 6 n := by have := sh_shift 6 49152 n; simpa using this
  have e7 : sh 7 (13835058055282163712 + n) = 192 + sh 7 n := by have := sh_shift 7 192 n; simpa using this
  have s0 : sh 0 n = n := rfl
  have s1 : sh 1 n = sh 0 n / 256 := rfl
  have s2 : sh 2 n = sh 1 n / 256 := rfl
  have s3 : sh 3 n = sh 2 n / 256 := rfl
  have s4 : sh 4 n = sh 3 n / 256 := rfl
  have s5 : sh 5 n = sh 4 n / 256 := rfl
  have s6 : sh 6 n = sh 5 n / 256 := rfl
  have s7 : sh 7 n = sh 6 n / 256 := rfl
  have hw : wid (byt s a) = 8 := by
    unfold wid
    rw [b0, e7]
    (repeat' split) <;> omega
  have u1 : un s a 1 = sh 7 n := by simp only [un]; rw [b0, e7]; omega
  have u2 : un s a 2 = sh 6 n := by rw [un_succ s a 1 (by decide), u1, b1, e6]; omega
  have u3 : un s a 3 = sh 5 n := by rw [un_succ s a 2 (by decide), u2, b2, e5]; omega
  have u4 : un s a 4 = sh 4 n := by rw [un_succ s a 3 (by decide), u3, b3, e4]; omega
  have u5 : un s a 5 = sh 3 n := by rw [un_succ s a 4 (by decide), u4, b4, e3]; omega
  have u6 : un s a 6 = sh 2 n := by rw [un_succ s a 5 (by decide), u5, b5, e2]; omega
  have u7 : un s a 7 = sh 1 n := by rw [un_succ s a 6 (by decide), u6, b6, e1]; omega
  have u8 : un s a 8 = sh 0 n := by rw [un_succ s a 7 (by decide), u7, b7, e0]; omega
  unfold getS
  rw [if_neg (by omega), Int.toNat_natCast, hw, if_neg (by omega), u8, if_neg (by simp [lo, s0]; omega), s0]
  rfl
theorem be_un8 (s : ByteArray) (hs : 8 ≤ s.size) (hw : wid (byt s 0) = 8) : strOfNums (be 8 (13835058055282163712 + (un s 0 8))) = s.extract 0 8 := by
  have hwr : 192 ≤ byt s 0 ∧ byt s 0 < 256 := by
    have := byt_bd s 0
    unfold wid at hw
    (repeat' split at hw) <;> omega
  refine eq_of_byt _ _ (by rw [strOfNums_size, be_length]; simp; omega) fun i hi => ?_
  rw [strOfNums_size, be_length] at hi
  rw [byt_nums _ i (by rw [be_length]; exact hi) (be_mem _ _), byt_extract s 0 8 i hs (by omega), Nat.zero_add]
  have u1 : un s 0 1 = byt s 0 % 64 := rfl
  have u2 : un s 0 2 = un s 0 1 * 256 + byt s 1 := un_succ s 0 1 (by decide)
  have u3 : un s 0 3 = un s 0 2 * 256 + byt s 2 := un_succ s 0 2 (by decide)
  have u4 : un s 0 4 = un s 0 3 * 256 + byt s 3 := un_succ s 0 3 (by decide)
  have u5 : un s 0 5 = un s 0 4 * 256 + byt s 4 := un_succ s 0 4 (by decide)
  have u6 : un s 0 6 = un s 0 5 * 256 + byt s 5 := un_succ s 0 5 (by decide)
  have u7 : un s 0 7 = un s 0 6 * 256 + byt s 6 := un_succ s 0 6 (by decide)
  have u8 : un s 0 8 = un s 0 7 * 256 + byt s 7 := un_succ s 0 7 (by decide)
  have c0 := byt_bd s 0
  have c1 := byt_bd s 1
  have c2 := byt_bd s 2
  have c3 := byt_bd s 3
  have c4 := byt_bd s 4
  have c5 := byt_bd s 5
  have c6 := byt_bd s 6
  have c7 := byt_bd s 7
  generalize un s 0 8 = n at *
  have e0 : sh 0 (13835058055282163712 + n) = 13835058055282163712 + sh 0 n := by have := sh_shift 0 13835058055282163712 n; simpa using this
  have e1 : sh 1 (13835058055282163712 + n) = 54043195528445952 + sh 1 n := by have := sh_shift 1 54043195528445952 n; simpa using this
  have e2 : sh 2 (13835058055282163712 + n) = 211106232532992 + sh 2 n := by have := sh_shift 2 211106232532992 n; simpa using this
  have e3 : sh 3 (13835058055282163712 + n) = 824633720832 + sh 3 n := by have := sh_shift 3 824633720832 n; simpa using this
  have e4 : sh 4 (13835058055282163712 + n) = 3221225472 + sh 4 n := by have := sh_shift 4 3221225472 n; simpa using this
  have e5 : sh 5 (13835058055282163712 + n) = 12582912 + sh 5 n := by have := sh_shift 5 12582912 n; simpa using this
  have e6 : sh 6 (13835058055282163712 + n) = 49152 + sh 6 n := by have := sh_shift 6 49152 n; simpa using this
  have e7 : sh 7 (13835058055282163712 + n) = 192 + sh 7 n := by have := sh_shift 7 192 n; simpa using this
  have s0 : sh 0 n = n := rfl
  have s1 : sh 1 n = un s 0 7 := by
    have h9 : sh 1 n = sh 0 n / 256 := rfl
    rw [h9, s0]; omega
  have s2 : sh 2 n = un s 0 6 := by
    have h9 : sh 2 n = sh 1 n / 256 := rfl
    rw [h9, s1]; omega
  have s3 : sh 3 n = un s 0 5 := by
    have h9 : sh 3 n = sh 2 n / 256 := rfl
    rw [h9, s2]; omega
  have s4 : sh 4 n = un s 0 4 := by
    have h9 : sh 4 n = sh 3 n / 256 := rfl
    rw [h9, s3]; omega
  have s5 : sh 5 n = un s 0 3 := by
    have h9 : sh 5 n = sh 4 n / 256 := rfl
    rw [h9, s4]; omega
  have s6 : sh 6 n = un s 0 2 := by
    have h9 : sh 6 n = sh 5 n / 256 := rfl
    rw [h9, s5]; omega
  have s7 : sh 7 n = un s 0 1 := by
    have h9 : sh 7 n = sh 6 n / 256 := rfl
    rw [h9, s6]; omega
  match i, hi with
  | 0, _ => show sh 7 (13835058055282163712 + n) % 256 = byt s 0; rw [e7, s7]; omega
  | 1, _ => show sh 6 (13835058055282163712 + n) % 256 = byt s 1; rw [e6, s6]; omega
  | 2, _ => show sh 5 (13835058055282163712 + n) % 256 = byt s 2; rw [e5, s5]; omega
  | 3, _ => show sh 4 (13835058055282163712 + n) % 256 = byt s 3; rw [e4, s4]; omega
  | 4, _ => show sh 3 (13835058055282163712 + n) % 256 = byt s 4; rw [e3, s3]; omega
  | 5, _ => show sh 2 (13835058055282163712 + n) % 256 = byt s 5; rw [e2, s2]; omega
  | 6, _ => show sh 1 (13835058055282163712 + n) % 256 = byt s 6; rw [e1, s1]; omega
  | 7, _ => show sh 0 (13835058055282163712 + n) % 256 = byt s 7; rw [e0, s0]; omega
end Go.Proofs.YtbbgibekplfacaaDoor.X
/- Plain mathematics: what is put is got, what is got is put: the whole. -/
namespace Go.Proofs.YtbbgibekplfacaaDoor.X
open Go
theorem putS_length (n : Int) (h0 : 0 ≤ n) (h4 : n < 4611686018427387904) : 1 ≤ (putS n).length ∧ (putS n).length ≤ 8 := by
  rcases putS_cases n h0 h4 with ⟨_, e⟩ | ⟨_, _, e⟩ | ⟨_, _, e⟩ | ⟨_, e⟩ <;> rw [e, be_length] <;> omega
theorem getS_put (n : Int) (h0 : 0 ≤ n) (h4 : n < 4611686018427387904) (s : ByteArray) (a : Nat) (hs : a + (putS n).length ≤ s.size) (hb : ∀ i, i < (putS n).length → byt s (a + i) = (putS n).getD i 0) : getS s (a : Int) = (n, (a : Int) + (putS n).length, 0) := by
  rcases putS_cases n h0 h4 with ⟨h1, e⟩ | ⟨h1, h2, e⟩ | ⟨h1, h2, e⟩ | ⟨h1, e⟩
  · rw [e, be_length] at hs hb ⊢; exact getS_be1 n h0 h1 s a hs hb
  · rw [e, be_length] at hs hb ⊢; exact getS_be2 n h1 h2 s a hs hb
  · rw [e, be_length] at hs hb ⊢; exact getS_be4 n h1 h2 s a hs hb
  · rw [e, be_length] at hs hb ⊢; exact getS_be8 n h1 h4 s a hs hb
/-- Behind whatever, and ahead of whatever. -/
theorem getS_mid (n : Int) (h0 : 0 ≤ n) (h4 : n < 4611686018427387904) (x y : ByteArray) : getS (x ++ strOfNums (putS n) ++ y) (x.size : Int) = (n, (x.size : Int) + (putS n).length, 0) := by
  refine getS_put n h0 h4 _ _ (by simp only [ByteArray.size_append, strOfNums_size]; omega) fun i hi => ?_
  rw [byt_left _ _ _ (by simp only [ByteArray.size_append, strOfNums_size]; omega), byt_right _ _ _ (by rw [strOfNums_size]; exact hi), byt_nums _ i hi (putS_mem n)]
theorem getS_front (n : Int) (h0 : 0 ≤ n) (h4 : n < 4611686018427387904) (y : ByteArray) : getS (strOfNums (putS n) ++ y) 0 = (n, ((putS n).length : Int), 0) := by
  have h := getS_put n h0 h4 (strOfNums (putS n) ++ y) 0 (by simp only [ByteArray.size_append, strOfNums_size]; omega) (fun i hi => by
    rw [Nat.zero_add, byt_left _ _ _ (by rw [strOfNums_size]; exact hi), byt_nums _ i hi (putS_mem n)])
  simpa using h
theorem wid_put (n : Int) (h0 : 0 ≤ n) (h4 : n < 4611686018427387904) : wid (byt (strOfNums (putS n)) 0) = (putS n).length := by
  have hl := putS_length n h0 h4
  have h := getS_put n h0 h4 (strOfNums (putS n)) 0 (by rw [strOfNums_size]; omega) (fun i hi => by rw [Nat.zero_add, byt_nums _ i hi (putS_mem n)])
  unfold getS at h
  rw [if_neg (by simp)] at h
  split at h
  · simp at h
  · split at h
    · simp at h
    · have h1 := congrArg (fun p => p.2.1) h
      simp at h1
      omega
theorem getS_cut (n : Int) (h0 : 0 ≤ n) (h4 : n < 4611686018427387904) (c : Nat) (hc : c < (putS n).length) : getS ((strOfNums (putS n)).extract 0 c) 0 = (0, 0, 2) := by
  have hl := putS_length n h0 h4
  have hsz : ((strOfNums (putS n)).extract 0 c).size = c := by simp [strOfNums_size]; omega
  unfold getS
  rw [if_neg (by simp)]
  rcases Nat.eq_zero_or_pos c with h | h
  · subst h
    rw [if_pos]
    rw [hsz, byt_end _ _ (by rw [hsz]; exact Nat.zero_le _)]
    simp [wid]
  · rw [if_pos]
    rw [hsz, show (0 : Int).toNat = 0 from rfl, byt_extract _ 0 c 0 (by rw [strOfNums_size]; omega) (by omega), wid_put n h0 h4]
    omega
theorem getS_err (s : ByteArray) (a : Int) : (getS s a).2.2 = 0 ∨ ∃ e, 1 ≤ e ∧ getS s a = (0, 0, e) := by
  unfold getS
  split
  · exact .inr ⟨1, by decide, rfl⟩
  split
  · exact .inr ⟨2, by decide, rfl⟩
  split
  · exact .inr ⟨3, by decide, rfl⟩
  · exact .inl rfl
theorem wid_cases (c : Int) : wid c = 1 ∨ wid c = 2 ∨ wid c = 4 ∨ wid c = 8 := by
  unfold wid
  (repeat' split) <;> simp
theorem putS_got (s : ByteArray) (h : (getS s 0).2.2 = 0) : ∃ W : Nat, 1 ≤ W ∧ W ≤ s.size ∧ 0 ≤ (getS s 0).1 ∧ (getS s 0).1 < 4611686018427387904 ∧ (getS s 0).2.1 = (W : Int) ∧ strOfNums (putS (getS s 0).1) = s.extract 0 W := by
  unfold getS at h ⊢
  rw [if_neg (by simp)] at h ⊢
  rw [show (0 : Int).toNat = 0 from rfl] at h ⊢
  split at h
  · simp at h
  rename_i hs
  split at h
  · simp at h
  rename_i hu
  rw [if_neg hs, if_neg hu]
  have hub := un_bd s 0 (wid (byt s 0)) (by rcases wid_cases (byt s 0) with e | e | e | e <;> omega)
  refine ⟨wid (byt s 0), by rcases wid_cases (byt s 0) with e | e | e | e <;> omega, by omega, hub.1, hub.2, by simp, ?_⟩
  rcases wid_cases (byt s 0) with e | e | e | e
  · rw [e] at hs hu hub ⊢
    have := un1 s 0
    unfold putS
    rw [if_pos (by omega)]
    exact be_un1 s (by omega) e
  · rw [e] at hs hu hub ⊢
    have := un2 s 0
    simp [lo] at hu
    unfold putS
    rw [if_neg (by omega), if_pos (by omega)]
    exact be_un2 s (by omega) e
  · rw [e] at hs hu hub ⊢
    have := un4 s 0
    simp [lo] at hu
    unfold putS
    rw [if_neg (by omega), if_neg (by omega), if_pos (by omega)]
    exact be_un4 s (by omega) e
  · rw [e] at hs hu hub ⊢
    simp [lo] at hu
    unfold putS
    rw [if_neg (by omega), if_neg (by omega), if_neg (by omega)]
    exact be_un8 s (by omega) e
end Go.Proofs.YtbbgibekplfacaaDoor.X
/- The reader: its block, Fail, Err. -/
namespace Go.Proofs.YtbbgibekplfacaaDoor.X
open Go Go.RowKit
theorem grown_set (w : World) (b i : Nat) (v : Value) : w.grownBy (w.setCell ⟨b, i, none⟩ v) (some b) := ⟨rfl, rfl, rfl, by simp [World.setCell], fun k _ hk => Below.heap_setCell _ _ _ _ (fun e => hk (by rw [e]))⟩
theorem grown_refl (w : World) (row : Option Nat) : w.grownBy w row := ⟨rfl, rfl, rfl, Nat.le_refl _, fun _ _ _ => rfl⟩
theorem grown_trans {a b c : World} {row : Option Nat} (h : a.grownBy b row) (k : b.grownBy c row) : a.grownBy c row :=
  ⟨k.os.trans h.os, k.tape.trans h.tape, k.output.trans h.output, Nat.le_trans h.size k.size, fun i hi hr => (k.block i (Nat.lt_of_lt_of_le hi h.size) hr).trans (h.block i hi hr)⟩
theorem grown_below {a b : World} {row : Option Nat} (h : Below a.heap.size a b) : a.grownBy b row := ⟨h.os, h.tape, h.output, h.size, fun j hj _ => h.block j hj⟩
end Go.Proofs.YtbbgibekplfacaaDoor.X
/- Plain mathematics of a reader over a text, a place and an error. Nothing of the program. -/
namespace Go.Proofs.YtbbgibekplfacaaDoor.X
open Go
/-- What stands at a place of a text stands at the front of its rest. -/
theorem get3 (B : ByteArray) (At : Nat) (h : At ≤ B.size) :
    (∃ e : Int, 1 ≤ e ∧ e ≤ 3 ∧ getS B At = (0, 0, e) ∧ getS (B.extract At B.size) 0 = (0, 0, e)) ∨
    ∃ (N : Int) (W : Nat), 1 ≤ W ∧ W ≤ 8 ∧ At + W ≤ B.size ∧ 0 ≤ N ∧ N < 4611686018427387904 ∧ getS B At = (N, ((At + W : Nat) : Int), 0) ∧ getS (B.extract At B.size) 0 = (N, (W : Int), 0) := by
  have hsz : (B.extract At B.size).size = B.size - At := by simp
  have hb : byt (B.extract At B.size) 0 = byt B At := by
    by_cases hA : At < B.size
    · exact byt_extract B At B.size 0 (Nat.le_refl _) (by omega)
    · rw [byt_end _ _ (by rw [hsz]; omega), byt_end _ _ (by omega)]
  have hw8 : 1 ≤ wid (byt B At) ∧ wid (byt B At) ≤ 8 := by rcases wid_cases (byt B At) with e | e | e | e <;> omega
  have e1 : getS B At = if B.size < At + wid (byt B At) then (0, 0, 2) else if un B At (wid (byt B At)) < lo (wid (byt B At)) then (0, 0, 3) else (un B At (wid (byt B At)), (At : Int) + wid (byt B At), 0) := by
    unfold getS
    rw [if_neg (by omega)]
    rfl
  have e2 : getS (B.extract At B.size) 0 = if B.size - At < wid (byt B At) then (0, 0, 2) else if un (B.extract At B.size) 0 (wid (byt B At)) < lo (wid (byt B At)) then (0, 0, 3) else (un (B.extract At B.size) 0 (wid (byt B At)), (wid (byt B At) : Int), 0) := by
    unfold getS
    rw [if_neg (by omega), show (0 : Int).toNat = 0 from rfl, hb, hsz]
    simp
  by_cases hs : B.size < At + wid (byt B At)
  · refine .inl ⟨2, by omega, by omega, ?_, ?_⟩
    · rw [e1, if_pos hs]
    · rw [e2, if_pos (by omega)]
  have hu : un (B.extract At B.size) 0 (wid (byt B At)) = un B At (wid (byt B At)) := un_extract B At B.size (Nat.le_refl _) _ (by omega)
  rw [hu] at e2
  by_cases hl : un B At (wid (byt B At)) < lo (wid (byt B At))
  · refine .inl ⟨3, by omega, by omega, ?_, ?_⟩
    · rw [e1, if_neg hs, if_pos hl]
    · rw [e2, if_neg (by omega), if_pos hl]
  · have hub := un_bd B At (wid (byt B At)) hw8.2
    refine .inr ⟨un B At (wid (byt B At)), wid (byt B At), hw8.1, hw8.2, by omega, hub.1, hub.2, ?_, ?_⟩
    · rw [e1, if_neg hs, if_neg hl]; simp
    · rw [e2, if_neg (by omega), if_neg hl]
/-- The rest of a reader: nothing, once it failed. -/
def rst (B : ByteArray) (At : Nat) (E : Int) : ByteArray := if E = 0 then B.extract At B.size else ⟨#[]⟩
theorem rst_live (B : ByteArray) (At : Nat) : rst B At 0 = B.extract At B.size := if_pos rfl
theorem rst_dead (B : ByteArray) (At : Nat) (E : Int) (h : E ≠ 0) : rst B At E = ⟨#[]⟩ := if_neg h
theorem rst_start (B : ByteArray) : rst B 0 0 = B := by rw [rst_live]; simp
def rawV (B : ByteArray) (At : Nat) (E : Int) : Int := if E ≠ 0 then 0 else (getS B At).1
def rawA (B : ByteArray) (At : Nat) (E : Int) : Nat := if E ≠ 0 then At else if (getS B At).2.2 = 0 then (getS B At).2.1.toNat else At
def rawE (B : ByteArray) (At : Nat) (E : Int) : Int := if E ≠ 0 then E else (getS B At).2.2
theorem raw_dead (B : ByteArray) (At : Nat) (E : Int) (h : E ≠ 0) : rawV B At E = 0 ∧ rawA B At E = At ∧ rawE B At E = E := ⟨if_pos h, if_pos h, if_pos h⟩
theorem raw_err (B : ByteArray) (At : Nat) (e : Int) (he : 1 ≤ e) (h : getS B At = (0, 0, e)) : rawV B At 0 = 0 ∧ rawA B At 0 = At ∧ rawE B At 0 = e := by
  refine ⟨?_, ?_, ?_⟩
  · unfold rawV; rw [if_neg (by simp), h]
  · unfold rawA; rw [if_neg (by simp), if_neg (by rw [h]; show e ≠ 0; omega)]
  · unfold rawE; rw [if_neg (by simp), h]
theorem raw_ok (B : ByteArray) (At : Nat) (N : Int) (next : Nat) (h : getS B At = (N, (next : Int), 0)) : rawV B At 0 = N ∧ rawA B At 0 = next ∧ rawE B At 0 = 0 := by
  refine ⟨?_, ?_, ?_⟩
  · unfold rawV; rw [if_neg (by simp), h]
  · unfold rawA; rw [if_neg (by simp), if_pos (by rw [h]), h]; simp
  · unfold rawE; rw [if_neg (by simp), h]
/-- How a reader stands, and what the next number there is: dead, an error, a number. -/
theorem raw3 (B : ByteArray) (At : Nat) (E : Int) (h : At ≤ B.size) :
    (E ≠ 0 ∧ rst B At E = ⟨#[]⟩ ∧ rawV B At E = 0 ∧ rawA B At E = At ∧ rawE B At E = E) ∨
    (E = 0 ∧ ∃ e : Int, 1 ≤ e ∧ e ≤ 3 ∧ getS B At = (0, 0, e) ∧ getS (B.extract At B.size) 0 = (0, 0, e) ∧ rst B At E = B.extract At B.size ∧ rawV B At E = 0 ∧ rawA B At E = At ∧ rawE B At E = e) ∨
    (E = 0 ∧ ∃ (N : Int) (W : Nat), 1 ≤ W ∧ W ≤ 8 ∧ At + W ≤ B.size ∧ 0 ≤ N ∧ N < 4611686018427387904 ∧ getS B At = (N, ((At + W : Nat) : Int), 0) ∧ getS (B.extract At B.size) 0 = (N, (W : Int), 0) ∧ rst B At E = B.extract At B.size ∧ rawV B At E = N ∧ rawA B At E = At + W ∧ rawE B At E = 0) := by
  by_cases hE : E ≠ 0
  · exact .inl ⟨hE, rst_dead B At E hE, raw_dead B At E hE⟩
  · obtain rfl : E = 0 := by omega
    rcases get3 B At h with ⟨e, h1, h3, ha, hb⟩ | ⟨N, W, h1, h2, h3, h4, h5, ha, hb⟩
    · exact .inr (.inl ⟨rfl, e, h1, h3, ha, hb, rst_live B At, raw_err B At e h1 ha⟩)
    · exact .inr (.inr ⟨rfl, N, W, h1, h2, h3, h4, h5, ha, hb, rst_live B At, raw_ok B At N _ ha⟩)
theorem rawA_le (B : ByteArray) (At : Nat) (E : Int) (h : At ≤ B.size) : rawA B At E ≤ B.size := by
  rcases raw3 B At E h with ⟨_, _, _, e, _⟩ | ⟨_, _, _, _, _, _, _, _, e, _⟩ | ⟨_, N, W, _, _, h3, _, _, _, _, _, _, e, _⟩ <;> omega
theorem rawV_bd (B : ByteArray) (At : Nat) (E : Int) (h : At ≤ B.size) : 0 ≤ rawV B At E ∧ rawV B At E < 4611686018427387904 := by
  rcases raw3 B At E h with ⟨_, _, e, _, _⟩ | ⟨_, _, _, _, _, _, _, e, _, _⟩ | ⟨_, N, W, _, _, h3, h4, h5, _, _, _, e, _, _⟩ <;> omega
/-- The bound that counts. -/
def bd (most : Int) : Int := if most < 0 then 0 else if 1152921504606846976 < most then 1152921504606846976 else most
theorem bd_bd (most : Int) : 0 ≤ bd most ∧ bd most ≤ 1152921504606846976 := by unfold bd; split <;> (try split) <;> omega
def numV (B : ByteArray) (At : Nat) (E most : Int) : Int := if rawE B At E ≠ 0 then 0 else if bd most < rawV B At E then 0 else rawV B At E
def numE (B : ByteArray) (At : Nat) (E most : Int) : Int := if rawE B At E ≠ 0 then rawE B At E else if bd most < rawV B At E then 1 else 0
theorem num3 (B : ByteArray) (At : Nat) (E most : Int) (h : At ≤ B.size) :
    (rawE B At E ≠ 0 ∧ rawV B At E = 0 ∧ numV B At E most = 0 ∧ numE B At E most = rawE B At E) ∨
    (rawE B At E = 0 ∧ bd most < rawV B At E ∧ numV B At E most = 0 ∧ numE B At E most = 1) ∨
    (rawE B At E = 0 ∧ rawV B At E ≤ bd most ∧ numV B At E most = rawV B At E ∧ numE B At E most = 0) := by
  have hz : rawE B At E ≠ 0 → rawV B At E = 0 := by
    intro hne
    rcases raw3 B At E h with ⟨_, _, e, _, _⟩ | ⟨_, _, _, _, _, _, _, e, _, _⟩ | ⟨_, N, W, _, _, h3, h4, h5, _, _, _, e, _, e2⟩
    · exact e
    · exact e
    · exact absurd e2 hne
  by_cases h1 : rawE B At E ≠ 0
  · exact .inl ⟨h1, hz h1, if_pos h1, if_pos h1⟩
  · have h0 : rawE B At E = 0 := by omega
    by_cases h2 : bd most < rawV B At E
    · exact .inr (.inl ⟨h0, h2, by unfold numV; rw [if_neg h1, if_pos h2], by unfold numE; rw [if_neg h1, if_pos h2]⟩)
    · exact .inr (.inr ⟨h0, by omega, by unfold numV; rw [if_neg h1, if_neg h2], by unfold numE; rw [if_neg h1, if_neg h2]⟩)
theorem numV_bd (B : ByteArray) (At : Nat) (E most : Int) (h : At ≤ B.size) : 0 ≤ numV B At E most ∧ numV B At E most ≤ 1152921504606846976 := by
  have := bd_bd most
  have := rawV_bd B At E h
  rcases num3 B At E most h with ⟨_, _, e, _⟩ | ⟨_, _, e, _⟩ | ⟨_, _, e, _⟩ <;> omega
def sgnV (B : ByteArray) (At : Nat) (E : Int) : Int := if rawE B At E ≠ 0 then 0 else zagS (rawV B At E)
def txtE (B : ByteArray) (At : Nat) (E most : Int) : Int := if numE B At E most ≠ 0 then numE B At E most else if (B.size : Int) - rawA B At E < numV B At E most then 2 else 0
def txtA (B : ByteArray) (At : Nat) (E most : Int) : Nat := if txtE B At E most ≠ 0 then rawA B At E else rawA B At E + (numV B At E most).toNat
def txtV (B : ByteArray) (At : Nat) (E most : Int) : ByteArray := if txtE B At E most ≠ 0 then ⟨#[]⟩ else B.extract (rawA B At E) (rawA B At E + (numV B At E most).toNat)
theorem txt3 (B : ByteArray) (At : Nat) (E most : Int) (h : At ≤ B.size) :
    (numE B At E most ≠ 0 ∧ numV B At E most = 0 ∧ txtE B At E most = numE B At E most ∧ txtA B At E most = rawA B At E ∧ txtV B At E most = ⟨#[]⟩) ∨
    (numE B At E most = 0 ∧ (B.size : Int) - rawA B At E < numV B At E most ∧ txtE B At E most = 2 ∧ txtA B At E most = rawA B At E ∧ txtV B At E most = ⟨#[]⟩) ∨
    (numE B At E most = 0 ∧ ∃ n : Nat, numV B At E most = n ∧ rawA B At E + n ≤ B.size ∧ txtE B At E most = 0 ∧ txtA B At E most = rawA B At E + n ∧ txtV B At E most = B.extract (rawA B At E) (rawA B At E + n)) := by
  have hV := numV_bd B At E most h
  by_cases h1 : numE B At E most ≠ 0
  · have e1 : txtE B At E most = numE B At E most := if_pos h1
    refine .inl ⟨h1, ?_, e1, by unfold txtA; rw [if_pos (by rw [e1]; exact h1)], by unfold txtV; rw [if_pos (by rw [e1]; exact h1)]⟩
    rcases num3 B At E most h with ⟨_, _, e, _⟩ | ⟨_, _, e, _⟩ | ⟨_, _, e, e2⟩
    · exact e
    · exact e
    · exact absurd e2 h1
  · have h0 : numE B At E most = 0 := by omega
    by_cases h2 : (B.size : Int) - rawA B At E < numV B At E most
    · have e1 : txtE B At E most = 2 := by unfold txtE; rw [if_neg h1, if_pos h2]
      exact .inr (.inl ⟨h0, h2, e1, by unfold txtA; rw [if_pos (by rw [e1]; decide)], by unfold txtV; rw [if_pos (by rw [e1]; decide)]⟩)
    · have e1 : txtE B At E most = 0 := by unfold txtE; rw [if_neg h1, if_neg h2]
      have hA := rawA_le B At E h
      refine .inr (.inr ⟨h0, (numV B At E most).toNat, by omega, by omega, e1, by unfold txtA; rw [if_neg (by rw [e1]; decide)], by unfold txtV; rw [if_neg (by rw [e1]; decide)]⟩)
theorem txtA_le (B : ByteArray) (At : Nat) (E most : Int) (h : At ≤ B.size) : txtA B At E most ≤ B.size := by
  have hA := rawA_le B At E h
  rcases txt3 B At E most h with ⟨_, _, _, e, _⟩ | ⟨_, _, _, e, _⟩ | ⟨_, n, _, h2, _, e, _⟩ <;> omega
/-- What End tells. -/
def endE (B : ByteArray) (At : Nat) (E : Int) : Int := if E ≠ 0 then E else if At < B.size then 4 else 0
/-- What Fail leaves. -/
def failE (E e : Int) : Int := if E ≠ 0 then E else e
theorem rst_len (B : ByteArray) (At : Nat) (_h : At ≤ B.size) : (B.extract At B.size).size = B.size - At := by simp
theorem rst_step (B : ByteArray) (At W : Nat) (h : At + W ≤ B.size) : (B.extract At B.size).extract W (B.extract At B.size).size = B.extract (At + W) B.size := by
  rw [rst_len B At (by omega)]
  apply eq_of_byt
  · simp; omega
  · intro i hi
    have hi' : i < B.size - (At + W) := by simp at hi; omega
    rw [byt_extract _ _ _ _ (by rw [rst_len B At (by omega)]; omega) (by omega), byt_extract _ _ _ _ (Nat.le_refl _) (by omega), byt_extract _ _ _ _ (Nat.le_refl _) (by omega), Nat.add_assoc]
theorem rst_text (B : ByteArray) (At n : Nat) (h : At + n ≤ B.size) : (B.extract At B.size).extract 0 n = B.extract At (At + n) := by
  apply eq_of_byt
  · simp; omega
  · intro i hi
    have hi' : i < n := by simp at hi; omega
    rw [byt_extract _ _ _ _ (by rw [rst_len B At (by omega)]; omega) (by omega), byt_extract _ _ _ _ (Nat.le_refl _) (by omega), byt_extract _ _ _ _ (by omega) (by omega), Nat.zero_add]
end Go.Proofs.YtbbgibekplfacaaDoor.X
/- The reader: unsigned, bound, Number, Signed, End. -/
namespace Go.Proofs.YtbbgibekplfacaaDoor.X
open Go Go.RowKit
theorem getEmpty : getS ⟨#[]⟩ 0 = (0, 0, 2) := rfl
theorem Wd.grown {w w' : World} {row : Option Nat} (h : Wd w) (hg : w.grownBy w' row) (hb : some 0 ≠ row) : Wd w' :=
  ⟨hg.cell h.c0 hb, hg.cell h.c1 hb, hg.cell h.c2 hb, hg.cell h.c3 hb, Nat.lt_of_lt_of_le h.pos hg.size⟩
end Go.Proofs.YtbbgibekplfacaaDoor.X
/- The reader's reads, each by one contract over the text, the place and the error. -/
namespace Go.Proofs.YtbbgibekplfacaaDoor.X
open Go Go.RowKit
theorem pos0 {b : Nat} (hb : 0 < b) : some 0 ≠ some b := by simp; omega
theorem emp_no (s : ByteArray) (h : 0 < s.size) : s.toList.isEmpty = false := by
  rw [ByteArray.toList_eq]
  cases hx : s.data.toList with
  | cons x l => rfl
  | nil =>
    have h2 : s.data.toList.length = 0 := by rw [hx]; rfl
    rw [Array.length_toList] at h2
    have h4 : s.data.size = s.size := rfl
    omega
theorem extract_end (B : ByteArray) (At : Nat) (h : B.size ≤ At) : B.extract At B.size = ⟨#[]⟩ := by
  apply eq_of_byt
  · have e : (B.extract At B.size).size = 0 := by simp; omega
    rw [e]; rfl
  · intro i hi
    simp at hi; omega
end Go.Proofs.YtbbgibekplfacaaDoor.X
