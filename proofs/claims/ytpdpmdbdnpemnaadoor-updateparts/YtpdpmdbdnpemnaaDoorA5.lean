/- Plain mathematics: what is put is got, what is got is put. -/
import Derived.Test.YtpdpmdbdnpemnaaDoorW7
namespace Go.Proofs.YtpdpmdbdnpemnaaDoor
open Go
theorem byt_left (a b : ByteArray) (i : Nat) (h : i < a.size) : byt (a ++ b) i = byt a i := by
  have h1 : i < (a ++ b).size := by rw [ByteArray.size_append]; omega
  rw [byt, dif_pos h1, byt, dif_pos h, ByteArray.getElem_append_left h]
theorem byt_right (a b : ByteArray) (i : Nat) (h : i < b.size) : byt (a ++ b) (a.size + i) = byt b i := by
  have h1 : a.size + i < (a ++ b).size := by rw [ByteArray.size_append]; omega
  rw [byt, dif_pos h1, byt, dif_pos h, ByteArray.getElem_append_right (Nat.le_add_right _ _)]
  simp
theorem byt_nums (l : List Int) (i : Nat) (h : i < l.length) (hb : ∀ x ∈ l, 0 ≤ x ∧ x < 256) : byt (strOfNums l) i = l.getD i 0 := by
  have h1 : i < (strOfNums l).size := by rw [strOfNums_size]; exact h
  rw [byt, dif_pos h1, List.getD_eq_getElem?_getD, List.getElem?_eq_getElem h, Option.getD_some]
  have h2 : (strOfNums l)[i] = UInt8.ofNat (l[i]).toNat := by
    show (strOfNums l).data[i] = _
    simp [strOfNums]
  have h3 := hb l[i] (List.getElem_mem h)
  rw [h2, UInt8.toNat_ofNat_of_lt' (by simp [UInt8.size]; omega)]
  omega
theorem be_mem (k : Nat) (v : Int) : ∀ x ∈ be k v, 0 ≤ x ∧ x < 256 := by
  induction k with
  | zero => simp [be]
  | succ k ih =>
    intro x hx
    simp only [be, List.mem_cons] at hx
    rcases hx with rfl | hx
    · omega
    · exact ih x hx
theorem eq_of_byt (a b : ByteArray) (hs : a.size = b.size) (h : ∀ i, i < a.size → byt a i = byt b i) : a = b := by
  refine ByteArray.ext_getElem hs fun i hi hi' => ?_
  have := h i hi
  rw [byt, dif_pos hi, byt, dif_pos hi'] at this
  exact UInt8.toNat_inj.1 (by omega)
theorem putS_mem (n : Int) : ∀ x ∈ putS n, 0 ≤ x ∧ x < 256 := by
  unfold putS
  (repeat' split) <;> exact be_mem _ _
theorem putS_cases (n : Int) (h0 : 0 ≤ n) (h4 : n < 4611686018427387904) :
    (n < 64 ∧ putS n = be 1 n) ∨ (64 ≤ n ∧ n < 16384 ∧ putS n = be 2 (16384 + n)) ∨ (16384 ≤ n ∧ n < 1073741824 ∧ putS n = be 4 (2147483648 + n)) ∨ (1073741824 ≤ n ∧ putS n = be 8 (13835058055282163712 + n)) := by
  unfold putS
  by_cases h1 : n < 64
  · exact .inl ⟨h1, if_pos h1⟩
  rw [if_neg h1]
  by_cases h2 : n < 16384
  · exact .inr (.inl ⟨by omega, h2, if_pos h2⟩)
  rw [if_neg h2]
  by_cases h3 : n < 1073741824
  · exact .inr (.inr (.inl ⟨by omega, h3, if_pos h3⟩))
  rw [if_neg h3]
  exact .inr (.inr (.inr ⟨by omega, rfl⟩))
theorem getS_be1 (n : Int) (h0 : 0 ≤ n) (h1 : n < 64) (s : ByteArray) (a : Nat) (hs : a + 1 ≤ s.size) (hb : ∀ i, i < 1 → byt s (a + i) = (be 1 n).getD i 0) : getS s (a : Int) = (n, (a : Int) + 1, 0) := by
  have b0 : byt s (a + 0) = sh 0 n % 256 := hb 0 (by omega)
  rw [Nat.add_zero] at b0
  have s0 : sh 0 n = n := rfl
  have hw : wid (byt s a) = 1 := by
    unfold wid
    rw [b0]
    (repeat' split) <;> omega
  have u1 : un s a 1 = sh 0 n := by simp only [un]; rw [b0]; omega
  unfold getS
  rw [if_neg (by omega), Int.toNat_natCast, hw, if_neg (by omega), u1, if_neg (by simp [lo, s0]; omega), s0]
  rfl
theorem be_un1 (s : ByteArray) (hs : 1 ≤ s.size) (hw : wid (byt s 0) = 1) : strOfNums (be 1 (un s 0 1)) = s.extract 0 1 := by
  have hwr : 0 ≤ byt s 0 ∧ byt s 0 < 64 := by
    have := byt_bd s 0
    unfold wid at hw
    (repeat' split at hw) <;> omega
  refine eq_of_byt _ _ (by rw [strOfNums_size, be_length]; simp; omega) fun i hi => ?_
  rw [strOfNums_size, be_length] at hi
  rw [byt_nums _ i (by rw [be_length]; exact hi) (be_mem _ _), byt_extract s 0 1 i hs (by omega), Nat.zero_add]
  have u1 : un s 0 1 = byt s 0 % 64 := rfl
  have c0 := byt_bd s 0
  generalize un s 0 1 = n at *
  have s0 : sh 0 n = n := rfl
  match i, hi with
  | 0, _ => show sh 0 n % 256 = byt s 0; rw [s0]; omega
theorem getS_be2 (n : Int) (h0 : 64 ≤ n) (h1 : n < 16384) (s : ByteArray) (a : Nat) (hs : a + 2 ≤ s.size) (hb : ∀ i, i < 2 → byt s (a + i) = (be 2 (16384 + n)).getD i 0) : getS s (a : Int) = (n, (a : Int) + 2, 0) := by
  have b0 : byt s (a + 0) = sh 1 (16384 + n) % 256 := hb 0 (by omega)
  have b1 : byt s (a + 1) = sh 0 (16384 + n) % 256 := hb 1 (by omega)
  rw [Nat.add_zero] at b0
  have e0 : sh 0 (16384 + n) = 16384 + sh 0 n := by have := sh_shift 0 16384 n; simpa using this
  have e1 : sh 1 (16384 + n) = 64 + sh 1 n := by have := sh_shift 1 64 n; simpa using this
  have s0 : sh 0 n = n := rfl
  have s1 : sh 1 n = sh 0 n / 256 := rfl
  have hw : wid (byt s a) = 2 := by
    unfold wid
    rw [b0, e1]
    (repeat' split) <;> omega
  have u1 : un s a 1 = sh 1 n := by simp only [un]; rw [b0, e1]; omega
  have u2 : un s a 2 = sh 0 n := by rw [un_succ s a 1 (by decide), u1, b1, e0]; omega
  unfold getS
  rw [if_neg (by omega), Int.toNat_natCast, hw, if_neg (by omega), u2, if_neg (by simp [lo, s0]; omega), s0]
  rfl
theorem be_un2 (s : ByteArray) (hs : 2 ≤ s.size) (hw : wid (byt s 0) = 2) : strOfNums (be 2 (16384 + (un s 0 2))) = s.extract 0 2 := by
  have hwr : 64 ≤ byt s 0 ∧ byt s 0 < 128 := by
    have := byt_bd s 0
    unfold wid at hw
    (repeat' split at hw) <;> omega
  refine eq_of_byt _ _ (by rw [strOfNums_size, be_length]; simp; omega) fun i hi => ?_
  rw [strOfNums_size, be_length] at hi
  rw [byt_nums _ i (by rw [be_length]; exact hi) (be_mem _ _), byt_extract s 0 2 i hs (by omega), Nat.zero_add]
  have u1 : un s 0 1 = byt s 0 % 64 := rfl
  have u2 : un s 0 2 = un s 0 1 * 256 + byt s 1 := un_succ s 0 1 (by decide)
  have c0 := byt_bd s 0
  have c1 := byt_bd s 1
  generalize un s 0 2 = n at *
  have e0 : sh 0 (16384 + n) = 16384 + sh 0 n := by have := sh_shift 0 16384 n; simpa using this
  have e1 : sh 1 (16384 + n) = 64 + sh 1 n := by have := sh_shift 1 64 n; simpa using this
  have s0 : sh 0 n = n := rfl
  have s1 : sh 1 n = un s 0 1 := by
    have h9 : sh 1 n = sh 0 n / 256 := rfl
    rw [h9, s0]; omega
  match i, hi with
  | 0, _ => show sh 1 (16384 + n) % 256 = byt s 0; rw [e1, s1]; omega
  | 1, _ => show sh 0 (16384 + n) % 256 = byt s 1; rw [e0, s0]; omega
theorem getS_be4 (n : Int) (h0 : 16384 ≤ n) (h1 : n < 1073741824) (s : ByteArray) (a : Nat) (hs : a + 4 ≤ s.size) (hb : ∀ i, i < 4 → byt s (a + i) = (be 4 (2147483648 + n)).getD i 0) : getS s (a : Int) = (n, (a : Int) + 4, 0) := by
  have b0 : byt s (a + 0) = sh 3 (2147483648 + n) % 256 := hb 0 (by omega)
  have b1 : byt s (a + 1) = sh 2 (2147483648 + n) % 256 := hb 1 (by omega)
  have b2 : byt s (a + 2) = sh 1 (2147483648 + n) % 256 := hb 2 (by omega)
  have b3 : byt s (a + 3) = sh 0 (2147483648 + n) % 256 := hb 3 (by omega)
  rw [Nat.add_zero] at b0
  have e0 : sh 0 (2147483648 + n) = 2147483648 + sh 0 n := by have := sh_shift 0 2147483648 n; simpa using this
  have e1 : sh 1 (2147483648 + n) = 8388608 + sh 1 n := by have := sh_shift 1 8388608 n; simpa using this
  have e2 : sh 2 (2147483648 + n) = 32768 + sh 2 n := by have := sh_shift 2 32768 n; simpa using this
  have e3 : sh 3 (2147483648 + n) = 128 + sh 3 n := by have := sh_shift 3 128 n; simpa using this
  have s0 : sh 0 n = n := rfl
  have s1 : sh 1 n = sh 0 n / 256 := rfl
  have s2 : sh 2 n = sh 1 n / 256 := rfl
  have s3 : sh 3 n = sh 2 n / 256 := rfl
  have hw : wid (byt s a) = 4 := by
    unfold wid
    rw [b0, e3]
    (repeat' split) <;> omega
  have u1 : un s a 1 = sh 3 n := by simp only [un]; rw [b0, e3]; omega
  have u2 : un s a 2 = sh 2 n := by rw [un_succ s a 1 (by decide), u1, b1, e2]; omega
  have u3 : un s a 3 = sh 1 n := by rw [un_succ s a 2 (by decide), u2, b2, e1]; omega
  have u4 : un s a 4 = sh 0 n := by rw [un_succ s a 3 (by decide), u3, b3, e0]; omega
  unfold getS
  rw [if_neg (by omega), Int.toNat_natCast, hw, if_neg (by omega), u4, if_neg (by simp [lo, s0]; omega), s0]
  rfl
theorem be_un4 (s : ByteArray) (hs : 4 ≤ s.size) (hw : wid (byt s 0) = 4) : strOfNums (be 4 (2147483648 + (un s 0 4))) = s.extract 0 4 := by
  have hwr : 128 ≤ byt s 0 ∧ byt s 0 < 192 := by
    have := byt_bd s 0
    unfold wid at hw
    (repeat' split at hw) <;> omega
  refine eq_of_byt _ _ (by rw [strOfNums_size, be_length]; simp; omega) fun i hi => ?_
  rw [strOfNums_size, be_length] at hi
  rw [byt_nums _ i (by rw [be_length]; exact hi) (be_mem _ _), byt_extract s 0 4 i hs (by omega), Nat.zero_add]
  have u1 : un s 0 1 = byt s 0 % 64 := rfl
  have u2 : un s 0 2 = un s 0 1 * 256 + byt s 1 := un_succ s 0 1 (by decide)
  have u3 : un s 0 3 = un s 0 2 * 256 + byt s 2 := un_succ s 0 2 (by decide)
  have u4 : un s 0 4 = un s 0 3 * 256 + byt s 3 := un_succ s 0 3 (by decide)
  have c0 := byt_bd s 0
  have c1 := byt_bd s 1
  have c2 := byt_bd s 2
  have c3 := byt_bd s 3
  generalize un s 0 4 = n at *
  have e0 : sh 0 (2147483648 + n) = 2147483648 + sh 0 n := by have := sh_shift 0 2147483648 n; simpa using this
  have e1 : sh 1 (2147483648 + n) = 8388608 + sh 1 n := by have := sh_shift 1 8388608 n; simpa using this
  have e2 : sh 2 (2147483648 + n) = 32768 + sh 2 n := by have := sh_shift 2 32768 n; simpa using this
  have e3 : sh 3 (2147483648 + n) = 128 + sh 3 n := by have := sh_shift 3 128 n; simpa using this
  have s0 : sh 0 n = n := rfl
  have s1 : sh 1 n = un s 0 3 := by
    have h9 : sh 1 n = sh 0 n / 256 := rfl
    rw [h9, s0]; omega
  have s2 : sh 2 n = un s 0 2 := by
    have h9 : sh 2 n = sh 1 n / 256 := rfl
    rw [h9, s1]; omega
  have s3 : sh 3 n = un s 0 1 := by
    have h9 : sh 3 n = sh 2 n / 256 := rfl
    rw [h9, s2]; omega
  match i, hi with
  | 0, _ => show sh 3 (2147483648 + n) % 256 = byt s 0; rw [e3, s3]; omega
  | 1, _ => show sh 2 (2147483648 + n) % 256 = byt s 1; rw [e2, s2]; omega
  | 2, _ => show sh 1 (2147483648 + n) % 256 = byt s 2; rw [e1, s1]; omega
  | 3, _ => show sh 0 (2147483648 + n) % 256 = byt s 3; rw [e0, s0]; omega
theorem getS_be8 (n : Int) (h0 : 1073741824 ≤ n) (h1 : n < 4611686018427387904) (s : ByteArray) (a : Nat) (hs : a + 8 ≤ s.size) (hb : ∀ i, i < 8 → byt s (a + i) = (be 8 (13835058055282163712 + n)).getD i 0) : getS s (a : Int) = (n, (a : Int) + 8, 0) := by
  have b0 : byt s (a + 0) = sh 7 (13835058055282163712 + n) % 256 := hb 0 (by omega)
  have b1 : byt s (a + 1) = sh 6 (13835058055282163712 + n) % 256 := hb 1 (by omega)
  have b2 : byt s (a + 2) = sh 5 (13835058055282163712 + n) % 256 := hb 2 (by omega)
  have b3 : byt s (a + 3) = sh 4 (13835058055282163712 + n) % 256 := hb 3 (by omega)
  have b4 : byt s (a + 4) = sh 3 (13835058055282163712 + n) % 256 := hb 4 (by omega)
  have b5 : byt s (a + 5) = sh 2 (13835058055282163712 + n) % 256 := hb 5 (by omega)
  have b6 : byt s (a + 6) = sh 1 (13835058055282163712 + n) % 256 := hb 6 (by omega)
  have b7 : byt s (a + 7) = sh 0 (13835058055282163712 + n) % 256 := hb 7 (by omega)
  rw [Nat.add_zero] at b0
  have e0 : sh 0 (13835058055282163712 + n) = 13835058055282163712 + sh 0 n := by have := sh_shift 0 13835058055282163712 n; simpa using this
  have e1 : sh 1 (13835058055282163712 + n) = 54043195528445952 + sh 1 n := by have := sh_shift 1 54043195528445952 n; simpa using this
  have e2 : sh 2 (13835058055282163712 + n) = 211106232532992 + sh 2 n := by have := sh_shift 2 211106232532992 n; simpa using this
  have e3 : sh 3 (13835058055282163712 + n) = 824633720832 + sh 3 n := by have := sh_shift 3 824633720832 n; simpa using this
  have e4 : sh 4 (13835058055282163712 + n) = 3221225472 + sh 4 n := by have := sh_shift 4 3221225472 n; simpa using this
  have e5 : sh 5 (13835058055282163712 + n) = 12582912 + sh 5 n := by have := sh_shift 5 12582912 n; simpa using this
  have e6 : sh 6 (13835058055282163712 + n) = 49152 + sh 6 n := by have := sh_shift 6 49152 n; simpa using this
  have e7 : sh 7 (13835058055282163712 + n) = 192 + sh 7 n := by have := sh_shift 7 192 n; simpa using this
  have s0 : sh 0 n = n := rfl
  have s1 : sh 1 n = sh 0 n / 256 := rfl
  have s2 : sh 2 n = sh 1 n / 256 := rfl
  have s3 : sh 3 n = sh 2 n / 256 := rfl
  have s4 : sh 4 n = sh 3 n / 256 := rfl
  have s5 : sh 5 n = sh 4 n / 256 := rfl
  have s6 : sh 6 n = sh 5 n / 256 := rfl
  have s7 : sh 7 n = sh 6 n / 256 := rfl
  have hw : wid (byt s a) = 8 := by
    unfold wid
    rw [b0, e7]
    (repeat' split) <;> omega
  have u1 : un s a 1 = sh 7 n := by simp only [un]; rw [b0, e7]; omega
  have u2 : un s a 2 = sh 6 n := by rw [un_succ s a 1 (by decide), u1, b1, e6]; omega
  have u3 : un s a 3 = sh 5 n := by rw [un_succ s a 2 (by decide), u2, b2, e5]; omega
  have u4 : un s a 4 = sh 4 n := by rw [un_succ s a 3 (by decide), u3, b3, e4]; omega
  have u5 : un s a 5 = sh 3 n := by rw [un_succ s a 4 (by decide), u4, b4, e3]; omega
  have u6 : un s a 6 = sh 2 n := by rw [un_succ s a 5 (by decide), u5, b5, e2]; omega
  have u7 : un s a 7 = sh 1 n := by rw [un_succ s a 6 (by decide), u6, b6, e1]; omega
  have u8 : un s a 8 = sh 0 n := by rw [un_succ s a 7 (by decide), u7, b7, e0]; omega
  unfold getS
  rw [if_neg (by omega), Int.toNat_natCast, hw, if_neg (by omega), u8, if_neg (by simp [lo, s0]; omega), s0]
  rfl
theorem be_un8 (s : ByteArray) (hs : 8 ≤ s.size) (hw : wid (byt s 0) = 8) : strOfNums (be 8 (13835058055282163712 + (un s 0 8))) = s.extract 0 8 := by
  have hwr : 192 ≤ byt s 0 ∧ byt s 0 < 256 := by
    have := byt_bd s 0
    unfold wid at hw
    (repeat' split at hw) <;> omega
  refine eq_of_byt _ _ (by rw [strOfNums_size, be_length]; simp; omega) fun i hi => ?_
  rw [strOfNums_size, be_length] at hi
  rw [byt_nums _ i (by rw [be_length]; exact hi) (be_mem _ _), byt_extract s 0 8 i hs (by omega), Nat.zero_add]
  have u1 : un s 0 1 = byt s 0 % 64 := rfl
  have u2 : un s 0 2 = un s 0 1 * 256 + byt s 1 := un_succ s 0 1 (by decide)
  have u3 : un s 0 3 = un s 0 2 * 256 + byt s 2 := un_succ s 0 2 (by decide)
  have u4 : un s 0 4 = un s 0 3 * 256 + byt s 3 := un_succ s 0 3 (by decide)
  have u5 : un s 0 5 = un s 0 4 * 256 + byt s 4 := un_succ s 0 4 (by decide)
  have u6 : un s 0 6 = un s 0 5 * 256 + byt s 5 := un_succ s 0 5 (by decide)
  have u7 : un s 0 7 = un s 0 6 * 256 + byt s 6 := un_succ s 0 6 (by decide)
  have u8 : un s 0 8 = un s 0 7 * 256 + byt s 7 := un_succ s 0 7 (by decide)
  have c0 := byt_bd s 0
  have c1 := byt_bd s 1
  have c2 := byt_bd s 2
  have c3 := byt_bd s 3
  have c4 := byt_bd s 4
  have c5 := byt_bd s 5
  have c6 := byt_bd s 6
  have c7 := byt_bd s 7
  generalize un s 0 8 = n at *
  have e0 : sh 0 (13835058055282163712 + n) = 13835058055282163712 + sh 0 n := by have := sh_shift 0 13835058055282163712 n; simpa using this
  have e1 : sh 1 (13835058055282163712 + n) = 54043195528445952 + sh 1 n := by have := sh_shift 1 54043195528445952 n; simpa using this
  have e2 : sh 2 (13835058055282163712 + n) = 211106232532992 + sh 2 n := by have := sh_shift 2 211106232532992 n; simpa using this
  have e3 : sh 3 (13835058055282163712 + n) = 824633720832 + sh 3 n := by have := sh_shift 3 824633720832 n; simpa using this
  have e4 : sh 4 (13835058055282163712 + n) = 3221225472 + sh 4 n := by have := sh_shift 4 3221225472 n; simpa using this
  have e5 : sh 5 (13835058055282163712 + n) = 12582912 + sh 5 n := by have := sh_shift 5 12582912 n; simpa using this
  have e6 : sh 6 (13835058055282163712 + n) = 49152 + sh 6 n := by have := sh_shift 6 49152 n; simpa using this
  have e7 : sh 7 (13835058055282163712 + n) = 192 + sh 7 n := by have := sh_shift 7 192 n; simpa using this
  have s0 : sh 0 n = n := rfl
  have s1 : sh 1 n = un s 0 7 := by
    have h9 : sh 1 n = sh 0 n / 256 := rfl
    rw [h9, s0]; omega
  have s2 : sh 2 n = un s 0 6 := by
    have h9 : sh 2 n = sh 1 n / 256 := rfl
    rw [h9, s1]; omega
  have s3 : sh 3 n = un s 0 5 := by
    have h9 : sh 3 n = sh 2 n / 256 := rfl
    rw [h9, s2]; omega
  have s4 : sh 4 n = un s 0 4 := by
    have h9 : sh 4 n = sh 3 n / 256 := rfl
    rw [h9, s3]; omega
  have s5 : sh 5 n = un s 0 3 := by
    have h9 : sh 5 n = sh 4 n / 256 := rfl
    rw [h9, s4]; omega
  have s6 : sh 6 n = un s 0 2 := by
    have h9 : sh 6 n = sh 5 n / 256 := rfl
    rw [h9, s5]; omega
  have s7 : sh 7 n = un s 0 1 := by
    have h9 : sh 7 n = sh 6 n / 256 := rfl
    rw [h9, s6]; omega
  match i, hi with
  | 0, _ => show sh 7 (13835058055282163712 + n) % 256 = byt s 0; rw [e7, s7]; omega
  | 1, _ => show sh 6 (13835058055282163712 + n) % 256 = byt s 1; rw [e6, s6]; omega
  | 2, _ => show sh 5 (13835058055282163712 + n) % 256 = byt s 2; rw [e5, s5]; omega
  | 3, _ => show sh 4 (13835058055282163712 + n) % 256 = byt s 3; rw [e4, s4]; omega
  | 4, _ => show sh 3 (13835058055282163712 + n) % 256 = byt s 4; rw [e3, s3]; omega
  | 5, _ => show sh 2 (13835058055282163712 + n) % 256 = byt s 5; rw [e2, s2]; omega
  | 6, _ => show sh 1 (13835058055282163712 + n) % 256 = byt s 6; rw [e1, s1]; omega
  | 7, _ => show sh 0 (13835058055282163712 + n) % 256 = byt s 7; rw [e0, s0]; omega
end Go.Proofs.YtpdpmdbdnpemnaaDoor
