/- The contract of Get. -/
import Derived.Test.YtjmkdgjdemndaaaDoorP1
namespace Go.Proofs.YtjmkdgjdemndaaaDoor.X
open Go Go.RowKit
theorem untagged_is (x : ByteArray) (k : Nat) (N : Int) (hx : x.size = k) (h1 : 1 ≤ k) (h8 : k ≤ 8) (hN : un x 0 k = N) (w : World) : Calls Tryd.prog 108 #[.string x] w fun e w' => e = .returned (.int .u64 N) ∧ w = w' := by
  subst hx
  subst hN
  exact untagged_any x h1 h8 w
theorem un_cut (s : ByteArray) (a k : Nat) (h : k ≤ s.size - a) : un ((s.extract a s.size).extract 0 k) 0 k = un s a k := by
  rw [un_extract _ 0 k (by simp; omega) k (by omega), un_extract s a s.size (Nat.le_refl _) k h]
set_option maxHeartbeats 400000 in
theorem getRange (s : ByteArray) (a : Int) (h : a < 0 ∨ (s.size : Int) < a) (w : World) : Calls Tryd.prog 102 #[.string s, .int .i64 a] w fun e w' => e = .returned (.tuple #[.int .u64 0, .int .i64 0, .int .i64 1]) ∧ w = w' := by
  by_cases h0 : a < 0
  · go_enter Tryd.func102, Tryd.ntmps102
    go_wp2
    go_ret3
    exact ⟨rfl, rfl⟩
  · have h1 : (s.size : Int) < a := by omega
    go_enter Tryd.func102, Tryd.ntmps102
    go_wp2
    go_ret3
    exact ⟨rfl, rfl⟩
set_option maxHeartbeats 400000 in
theorem getEnd (s : ByteArray) (_hm : s.size ≤ maxLen) (w : World) : Calls Tryd.prog 102 #[.string s, .int .i64 s.size] w fun e w' => e = .returned (.tuple #[.int .u64 0, .int .i64 0, .int .i64 2]) ∧ w = w' := by
  unfold maxLen at _hm
  have he := isEmpty_end s
  go_enter Tryd.func102, Tryd.ntmps102
  go_wp2
  go_ret3
  exact ⟨rfl, rfl⟩
set_option maxHeartbeats 400000 in
theorem getO0 (s : ByteArray) (a : Nat) (ha : a < s.size) (_hm : s.size ≤ maxLen) (w : World) (h : Wd w) (hk : byt s a / 64 = 0) (hW : 1 ≤ s.size - a) (hN : 0 ≤ un s a 1 ∧ un s a 1 < 64) : Calls Tryd.prog 102 #[.string s, .int .i64 a] w fun e w' => e = .returned (.tuple #[.int .u64 (un s a 1), .int .i64 ((a : Int) + 1), .int .i64 0]) ∧ w = w' := by
  unfold maxLen at _hm
  have c0 := h.c0
  have hz : 0 < (s.extract a s.size).size := by simp; omega
  have he := isEmpty_extract s a ha
  have hk1 : (((s.extract a s.size)[0]'hz).toNat : Int) / 64 = 0 := by
    rw [byt_at _ 0 hz, byt_extract _ _ _ _ (Nat.le_refl _) (by omega)]; exact hk
  have hk2 : (((s.extract a s.size)[0]'hz).toNat) / 64 = 0 := by omega
  clear hk
  have hsz : ((s.extract a s.size).extract 0 1).size = 1 := by simp; omega
  have hcon := untagged_is _ 1 (un s a 1) hsz (by decide) (by decide) (un_cut s a 1 hW) w
  have HCON := Lib.hid hcon
  clear hcon hsz
  have hub := un_bd s a 1 (by omega)
  generalize un s a 1 = N at *
  go_enter Tryd.func102, Tryd.ntmps102
  go_wp2_with fail
  refine HCON.out.mono ?_
  rintro e w1 ⟨rfl, rfl⟩
  go_wp2_with fail
  refine (size0 N hN.1 hN.2 _ h).mono ?_
  rintro e w1 ⟨rfl, rfl⟩
  go_wp2
  go_ret3
  exact ⟨rfl, rfl⟩
set_option maxHeartbeats 400000 in
theorem getC1 (s : ByteArray) (a : Nat) (ha : a < s.size) (_hm : s.size ≤ maxLen) (w : World) (h : Wd w) (hk : byt s a / 64 = 1) (hW : s.size - a < 2) : Calls Tryd.prog 102 #[.string s, .int .i64 a] w fun e w' => e = .returned (.tuple #[.int .u64 0, .int .i64 0, .int .i64 2]) ∧ w = w' := by
  unfold maxLen at _hm
  have c1 := h.c1
  have hz : 0 < (s.extract a s.size).size := by simp; omega
  have he := isEmpty_extract s a ha
  have hk1 : (((s.extract a s.size)[0]'hz).toNat : Int) / 64 = 1 := by
    rw [byt_at _ 0 hz, byt_extract _ _ _ _ (Nat.le_refl _) (by omega)]; exact hk
  have hk2 : (((s.extract a s.size)[0]'hz).toNat) / 64 = 1 := by omega
  clear hk
  go_enter Tryd.func102, Tryd.ntmps102
  go_wp2
  go_ret3
  exact ⟨rfl, rfl⟩
set_option maxHeartbeats 400000 in
theorem getL10 (s : ByteArray) (a : Nat) (ha : a < s.size) (_hm : s.size ≤ maxLen) (w : World) (h : Wd w) (hk : byt s a / 64 = 1) (hW : 2 ≤ s.size - a) (hN : 0 ≤ un s a 2 ∧ un s a 2 < 64) : Calls Tryd.prog 102 #[.string s, .int .i64 a] w fun e w' => e = .returned (.tuple #[.int .u64 0, .int .i64 0, .int .i64 3]) ∧ w = w' := by
  unfold maxLen at _hm
  have c1 := h.c1
  have hz : 0 < (s.extract a s.size).size := by simp; omega
  have he := isEmpty_extract s a ha
  have hk1 : (((s.extract a s.size)[0]'hz).toNat : Int) / 64 = 1 := by
    rw [byt_at _ 0 hz, byt_extract _ _ _ _ (Nat.le_refl _) (by omega)]; exact hk
  have hk2 : (((s.extract a s.size)[0]'hz).toNat) / 64 = 1 := by omega
  clear hk
  have hsz : ((s.extract a s.size).extract 0 2).size = 2 := by simp; omega
  have hcon := untagged_is _ 2 (un s a 2) hsz (by decide) (by decide) (un_cut s a 2 hW) w
  have HCON := Lib.hid hcon
  clear hcon hsz
  have hub := un_bd s a 2 (by omega)
  generalize un s a 2 = N at *
  go_enter Tryd.func102, Tryd.ntmps102
  go_wp2_with fail
  refine HCON.out.mono ?_
  rintro e w1 ⟨rfl, rfl⟩
  go_wp2_with fail
  refine (size0 N hN.1 hN.2 _ h).mono ?_
  rintro e w1 ⟨rfl, rfl⟩
  go_wp2
  go_ret3
  exact ⟨rfl, rfl⟩
set_option maxHeartbeats 400000 in
theorem getO1 (s : ByteArray) (a : Nat) (ha : a < s.size) (_hm : s.size ≤ maxLen) (w : World) (h : Wd w) (hk : byt s a / 64 = 1) (hW : 2 ≤ s.size - a) (hN : 64 ≤ un s a 2 ∧ un s a 2 < 16384) : Calls Tryd.prog 102 #[.string s, .int .i64 a] w fun e w' => e = .returned (.tuple #[.int .u64 (un s a 2), .int .i64 ((a : Int) + 2), .int .i64 0]) ∧ w = w' := by
  unfold maxLen at _hm
  have c1 := h.c1
  have hz : 0 < (s.extract a s.size).size := by simp; omega
  have he := isEmpty_extract s a ha
  have hk1 : (((s.extract a s.size)[0]'hz).toNat : Int) / 64 = 1 := by
    rw [byt_at _ 0 hz, byt_extract _ _ _ _ (Nat.le_refl _) (by omega)]; exact hk
  have hk2 : (((s.extract a s.size)[0]'hz).toNat) / 64 = 1 := by omega
  clear hk
  have hsz : ((s.extract a s.size).extract 0 2).size = 2 := by simp; omega
  have hcon := untagged_is _ 2 (un s a 2) hsz (by decide) (by decide) (un_cut s a 2 hW) w
  have HCON := Lib.hid hcon
  clear hcon hsz
  have hub := un_bd s a 2 (by omega)
  generalize un s a 2 = N at *
  go_enter Tryd.func102, Tryd.ntmps102
  go_wp2_with fail
  refine HCON.out.mono ?_
  rintro e w1 ⟨rfl, rfl⟩
  go_wp2_with fail
  refine (size1 N hN.1 hN.2 _ h).mono ?_
  rintro e w1 ⟨rfl, rfl⟩
  go_wp2
  go_ret3
  exact ⟨rfl, rfl⟩
set_option maxHeartbeats 400000 in
theorem getC2 (s : ByteArray) (a : Nat) (ha : a < s.size) (_hm : s.size ≤ maxLen) (w : World) (h : Wd w) (hk : byt s a / 64 = 2) (hW : s.size - a < 4) : Calls Tryd.prog 102 #[.string s, .int .i64 a] w fun e w' => e = .returned (.tuple #[.int .u64 0, .int .i64 0, .int .i64 2]) ∧ w = w' := by
  unfold maxLen at _hm
  have c2 := h.c2
  have hz : 0 < (s.extract a s.size).size := by simp; omega
  have he := isEmpty_extract s a ha
  have hk1 : (((s.extract a s.size)[0]'hz).toNat : Int) / 64 = 2 := by
    rw [byt_at _ 0 hz, byt_extract _ _ _ _ (Nat.le_refl _) (by omega)]; exact hk
  have hk2 : (((s.extract a s.size)[0]'hz).toNat) / 64 = 2 := by omega
  clear hk
  go_enter Tryd.func102, Tryd.ntmps102
  go_wp2
  go_ret3
  exact ⟨rfl, rfl⟩
set_option maxHeartbeats 400000 in
theorem getL20 (s : ByteArray) (a : Nat) (ha : a < s.size) (_hm : s.size ≤ maxLen) (w : World) (h : Wd w) (hk : byt s a / 64 = 2) (hW : 4 ≤ s.size - a) (hN : 0 ≤ un s a 4 ∧ un s a 4 < 64) : Calls Tryd.prog 102 #[.string s, .int .i64 a] w fun e w' => e = .returned (.tuple #[.int .u64 0, .int .i64 0, .int .i64 3]) ∧ w = w' := by
  unfold maxLen at _hm
  have c2 := h.c2
  have hz : 0 < (s.extract a s.size).size := by simp; omega
  have he := isEmpty_extract s a ha
  have hk1 : (((s.extract a s.size)[0]'hz).toNat : Int) / 64 = 2 := by
    rw [byt_at _ 0 hz, byt_extract _ _ _ _ (Nat.le_refl _) (by omega)]; exact hk
  have hk2 : (((s.extract a s.size)[0]'hz).toNat) / 64 = 2 := by omega
  clear hk
  have hsz : ((s.extract a s.size).extract 0 4).size = 4 := by simp; omega
  have hcon := untagged_is _ 4 (un s a 4) hsz (by decide) (by decide) (un_cut s a 4 hW) w
  have HCON := Lib.hid hcon
  clear hcon hsz
  have hub := un_bd s a 4 (by omega)
  generalize un s a 4 = N at *
  go_enter Tryd.func102, Tryd.ntmps102
  go_wp2_with fail
  refine HCON.out.mono ?_
  rintro e w1 ⟨rfl, rfl⟩
  go_wp2_with fail
  refine (size0 N hN.1 hN.2 _ h).mono ?_
  rintro e w1 ⟨rfl, rfl⟩
  go_wp2
  go_ret3
  exact ⟨rfl, rfl⟩
set_option maxHeartbeats 400000 in
theorem getL21 (s : ByteArray) (a : Nat) (ha : a < s.size) (_hm : s.size ≤ maxLen) (w : World) (h : Wd w) (hk : byt s a / 64 = 2) (hW : 4 ≤ s.size - a) (hN : 64 ≤ un s a 4 ∧ un s a 4 < 16384) : Calls Tryd.prog 102 #[.string s, .int .i64 a] w fun e w' => e = .returned (.tuple #[.int .u64 0, .int .i64 0, .int .i64 3]) ∧ w = w' := by
  unfold maxLen at _hm
  have c2 := h.c2
  have hz : 0 < (s.extract a s.size).size := by simp; omega
  have he := isEmpty_extract s a ha
  have hk1 : (((s.extract a s.size)[0]'hz).toNat : Int) / 64 = 2 := by
    rw [byt_at _ 0 hz, byt_extract _ _ _ _ (Nat.le_refl _) (by omega)]; exact hk
  have hk2 : (((s.extract a s.size)[0]'hz).toNat) / 64 = 2 := by omega
  clear hk
  have hsz : ((s.extract a s.size).extract 0 4).size = 4 := by simp; omega
  have hcon := untagged_is _ 4 (un s a 4) hsz (by decide) (by decide) (un_cut s a 4 hW) w
  have HCON := Lib.hid hcon
  clear hcon hsz
  have hub := un_bd s a 4 (by omega)
  generalize un s a 4 = N at *
  go_enter Tryd.func102, Tryd.ntmps102
  go_wp2_with fail
  refine HCON.out.mono ?_
  rintro e w1 ⟨rfl, rfl⟩
  go_wp2_with fail
  refine (size1 N hN.1 hN.2 _ h).mono ?_
  rintro e w1 ⟨rfl, rfl⟩
  go_wp2
  go_ret3
  exact ⟨rfl, rfl⟩
set_option maxHeartbeats 400000 in
theorem getO2 (s : ByteArray) (a : Nat) (ha : a < s.size) (_hm : s.size ≤ maxLen) (w : World) (h : Wd w) (hk : byt s a / 64 = 2) (hW : 4 ≤ s.size - a) (hN : 16384 ≤ un s a 4 ∧ un s a 4 < 1073741824) : Calls Tryd.prog 102 #[.string s, .int .i64 a] w fun e w' => e = .returned (.tuple #[.int .u64 (un s a 4), .int .i64 ((a : Int) + 4), .int .i64 0]) ∧ w = w' := by
  unfold maxLen at _hm
  have c2 := h.c2
  have hz : 0 < (s.extract a s.size).size := by simp; omega
  have he := isEmpty_extract s a ha
  have hk1 : (((s.extract a s.size)[0]'hz).toNat : Int) / 64 = 2 := by
    rw [byt_at _ 0 hz, byt_extract _ _ _ _ (Nat.le_refl _) (by omega)]; exact hk
  have hk2 : (((s.extract a s.size)[0]'hz).toNat) / 64 = 2 := by omega
  clear hk
  have hsz : ((s.extract a s.size).extract 0 4).size = 4 := by simp; omega
  have hcon := untagged_is _ 4 (un s a 4) hsz (by decide) (by decide) (un_cut s a 4 hW) w
  have HCON := Lib.hid hcon
  clear hcon hsz
  have hub := un_bd s a 4 (by omega)
  generalize un s a 4 = N at *
  go_enter Tryd.func102, Tryd.ntmps102
  go_wp2_with fail
  refine HCON.out.mono ?_
  rintro e w1 ⟨rfl, rfl⟩
  go_wp2_with fail
  refine (size2 N hN.1 hN.2 _ h).mono ?_
  rintro e w1 ⟨rfl, rfl⟩
  go_wp2
  go_ret3
  exact ⟨rfl, rfl⟩
set_option maxHeartbeats 400000 in
theorem getC3 (s : ByteArray) (a : Nat) (ha : a < s.size) (_hm : s.size ≤ maxLen) (w : World) (h : Wd w) (hk : byt s a / 64 = 3) (hW : s.size - a < 8) : Calls Tryd.prog 102 #[.string s, .int .i64 a] w fun e w' => e = .returned (.tuple #[.int .u64 0, .int .i64 0, .int .i64 2]) ∧ w = w' := by
  unfold maxLen at _hm
  have c3 := h.c3
  have hz : 0 < (s.extract a s.size).size := by simp; omega
  have he := isEmpty_extract s a ha
  have hk1 : (((s.extract a s.size)[0]'hz).toNat : Int) / 64 = 3 := by
    rw [byt_at _ 0 hz, byt_extract _ _ _ _ (Nat.le_refl _) (by omega)]; exact hk
  have hk2 : (((s.extract a s.size)[0]'hz).toNat) / 64 = 3 := by omega
  clear hk
  go_enter Tryd.func102, Tryd.ntmps102
  go_wp2
  go_ret3
  exact ⟨rfl, rfl⟩
set_option maxHeartbeats 400000 in
theorem getL30 (s : ByteArray) (a : Nat) (ha : a < s.size) (_hm : s.size ≤ maxLen) (w : World) (h : Wd w) (hk : byt s a / 64 = 3) (hW : 8 ≤ s.size - a) (hN : 0 ≤ un s a 8 ∧ un s a 8 < 64) : Calls Tryd.prog 102 #[.string s, .int .i64 a] w fun e w' => e = .returned (.tuple #[.int .u64 0, .int .i64 0, .int .i64 3]) ∧ w = w' := by
  unfold maxLen at _hm
  have c3 := h.c3
  have hz : 0 < (s.extract a s.size).size := by simp; omega
  have he := isEmpty_extract s a ha
  have hk1 : (((s.extract a s.size)[0]'hz).toNat : Int) / 64 = 3 := by
    rw [byt_at _ 0 hz, byt_extract _ _ _ _ (Nat.le_refl _) (by omega)]; exact hk
  have hk2 : (((s.extract a s.size)[0]'hz).toNat) / 64 = 3 := by omega
  clear hk
  have hsz : ((s.extract a s.size).extract 0 8).size = 8 := by simp; omega
  have hcon := untagged_is _ 8 (un s a 8) hsz (by decide) (by decide) (un_cut s a 8 hW) w
  have HCON := Lib.hid hcon
  clear hcon hsz
  have hub := un_bd s a 8 (by omega)
  generalize un s a 8 = N at *
  go_enter Tryd.func102, Tryd.ntmps102
  go_wp2_with fail
  refine HCON.out.mono ?_
  rintro e w1 ⟨rfl, rfl⟩
  go_wp2_with fail
  refine (size0 N hN.1 hN.2 _ h).mono ?_
  rintro e w1 ⟨rfl, rfl⟩
  go_wp2
  go_ret3
  exact ⟨rfl, rfl⟩
set_option maxHeartbeats 400000 in
theorem getL31 (s : ByteArray) (a : Nat) (ha : a < s.size) (_hm : s.size ≤ maxLen) (w : World) (h : Wd w) (hk : byt s a / 64 = 3) (hW : 8 ≤ s.size - a) (hN : 64 ≤ un s a 8 ∧ un s a 8 < 16384) : Calls Tryd.prog 102 #[.string s, .int .i64 a] w fun e w' => e = .returned (.tuple #[.int .u64 0, .int .i64 0, .int .i64 3]) ∧ w = w' := by
  unfold maxLen at _hm
  have c3 := h.c3
  have hz : 0 < (s.extract a s.size).size := by simp; omega
  have he := isEmpty_extract s a ha
  have hk1 : (((s.extract a s.size)[0]'hz).toNat : Int) / 64 = 3 := by
    rw [byt_at _ 0 hz, byt_extract _ _ _ _ (Nat.le_refl _) (by omega)]; exact hk
  have hk2 : (((s.extract a s.size)[0]'hz).toNat) / 64 = 3 := by omega
  clear hk
  have hsz : ((s.extract a s.size).extract 0 8).size = 8 := by simp; omega
  have hcon := untagged_is _ 8 (un s a 8) hsz (by decide) (by decide) (un_cut s a 8 hW) w
  have HCON := Lib.hid hcon
  clear hcon hsz
  have hub := un_bd s a 8 (by omega)
  generalize un s a 8 = N at *
  go_enter Tryd.func102, Tryd.ntmps102
  go_wp2_with fail
  refine HCON.out.mono ?_
  rintro e w1 ⟨rfl, rfl⟩
  go_wp2_with fail
  refine (size1 N hN.1 hN.2 _ h).mono ?_
  rintro e w1 ⟨rfl, rfl⟩
  go_wp2
  go_ret3
  exact ⟨rfl, rfl⟩
set_option maxHeartbeats 400000 in
theorem getL32 (s : ByteArray) (a : Nat) (ha : a < s.size) (_hm : s.size ≤ maxLen) (w : World) (h : Wd w) (hk : byt s a / 64 = 3) (hW : 8 ≤ s.size - a) (hN : 16384 ≤ un s a 8 ∧ un s a 8 < 1073741824) : Calls Tryd.prog 102 #[.string s, .int .i64 a] w fun e w' => e = .returned (.tuple #[.int .u64 0, .int .i64 0, .int .i64 3]) ∧ w = w' := by
  unfold maxLen at _hm
  have c3 := h.c3
  have hz : 0 < (s.extract a s.size).size := by simp; omega
  have he := isEmpty_extract s a ha
  have hk1 : (((s.extract a s.size)[0]'hz).toNat : Int) / 64 = 3 := by
    rw [byt_at _ 0 hz, byt_extract _ _ _ _ (Nat.le_refl _) (by omega)]; exact hk
  have hk2 : (((s.extract a s.size)[0]'hz).toNat) / 64 = 3 := by omega
  clear hk
  have hsz : ((s.extract a s.size).extract 0 8).size = 8 := by simp; omega
  have hcon := untagged_is _ 8 (un s a 8) hsz (by decide) (by decide) (un_cut s a 8 hW) w
  have HCON := Lib.hid hcon
  clear hcon hsz
  have hub := un_bd s a 8 (by omega)
  generalize un s a 8 = N at *
  go_enter Tryd.func102, Tryd.ntmps102
  go_wp2_with fail
  refine HCON.out.mono ?_
  rintro e w1 ⟨rfl, rfl⟩
  go_wp2_with fail
  refine (size2 N hN.1 hN.2 _ h).mono ?_
  rintro e w1 ⟨rfl, rfl⟩
  go_wp2
  go_ret3
  exact ⟨rfl, rfl⟩
set_option maxHeartbeats 400000 in
theorem getO3 (s : ByteArray) (a : Nat) (ha : a < s.size) (_hm : s.size ≤ maxLen) (w : World) (h : Wd w) (hk : byt s a / 64 = 3) (hW : 8 ≤ s.size - a) (hN : 1073741824 ≤ un s a 8 ∧ un s a 8 < 4611686018427387904) : Calls Tryd.prog 102 #[.string s, .int .i64 a] w fun e w' => e = .returned (.tuple #[.int .u64 (un s a 8), .int .i64 ((a : Int) + 8), .int .i64 0]) ∧ w = w' := by
  unfold maxLen at _hm
  have c3 := h.c3
  have hz : 0 < (s.extract a s.size).size := by simp; omega
  have he := isEmpty_extract s a ha
  have hk1 : (((s.extract a s.size)[0]'hz).toNat : Int) / 64 = 3 := by
    rw [byt_at _ 0 hz, byt_extract _ _ _ _ (Nat.le_refl _) (by omega)]; exact hk
  have hk2 : (((s.extract a s.size)[0]'hz).toNat) / 64 = 3 := by omega
  clear hk
  have hsz : ((s.extract a s.size).extract 0 8).size = 8 := by simp; omega
  have hcon := untagged_is _ 8 (un s a 8) hsz (by decide) (by decide) (un_cut s a 8 hW) w
  have HCON := Lib.hid hcon
  clear hcon hsz
  have hub := un_bd s a 8 (by omega)
  generalize un s a 8 = N at *
  go_enter Tryd.func102, Tryd.ntmps102
  go_wp2_with fail
  refine HCON.out.mono ?_
  rintro e w1 ⟨rfl, rfl⟩
  go_wp2_with fail
  refine (size3 N hN.1 hN.2 _ h).mono ?_
  rintro e w1 ⟨rfl, rfl⟩
  go_wp2
  go_ret3
  exact ⟨rfl, rfl⟩
theorem un1 (s : ByteArray) (a : Nat) : 0 ≤ un s a 1 ∧ un s a 1 < 64 := by
  have := byt_bd s a
  simp only [un]; omega
theorem un2 (s : ByteArray) (a : Nat) : 0 ≤ un s a 2 ∧ un s a 2 < 16384 := by
  have := un1 s a
  have := byt_bd s (a + 1)
  rw [un_succ s a 1 (by decide)]; omega
theorem un4 (s : ByteArray) (a : Nat) : 0 ≤ un s a 4 ∧ un s a 4 < 1073741824 := by
  have := un2 s a
  have := byt_bd s (a + 2)
  have := byt_bd s (a + 3)
  rw [un_succ s a 3 (by decide), un_succ s a 2 (by decide)]; omega
theorem ret3 {a a' b b' c c' : Int} (h1 : a = a') (h2 : b = b') (h3 : c = c') : Ending.returned (.tuple #[.int .u64 a, .int .i64 b, .int .i64 c]) = Ending.returned (.tuple #[.int .u64 a', .int .i64 b', .int .i64 c']) := by rw [h1, h2, h3]
/-- Get does what the document says. -/
theorem get_any (s : ByteArray) (a : Int) (hm : s.size ≤ maxLen) (w : World) (h : Wd w) : Calls Tryd.prog 102 #[.string s, .int .i64 a] w fun e w' => e = .returned (.tuple #[.int .u64 (getS s a).1, .int .i64 (getS s a).2.1, .int .i64 (getS s a).2.2]) ∧ w = w' := by
  by_cases h1 : a < 0 ∨ (s.size : Int) < a
  · have e : getS s a = (0, 0, 1) := if_pos h1
    rw [e]
    exact getRange s a h1 w
  obtain ⟨p, rfl⟩ : ∃ p : Nat, a = p := ⟨a.toNat, by omega⟩
  have hp : p ≤ s.size := by omega
  by_cases h2 : p = s.size
  · subst h2
    have e : getS s (s.size : Int) = (0, 0, 2) := by
      unfold getS
      rw [if_neg h1, Int.toNat_natCast, byt_end _ _ (Nat.le_refl _), if_pos (by simp [wid])]
    rw [e]
    exact getEnd s hm w
  have hps : p < s.size := by omega
  have hb := byt_bd s p
  have hcut : ∀ W, wid (byt s p) = W → s.size - p < W → getS s (p : Int) = (0, 0, 2) := fun W hw hl => by
    unfold getS
    rw [if_neg h1, Int.toNat_natCast, hw, if_pos (by omega)]
  have hlong : ∀ W, wid (byt s p) = W → W ≤ s.size - p → un s p W < lo W → getS s (p : Int) = (0, 0, 3) := fun W hw hl hu => by
    unfold getS
    rw [if_neg h1, Int.toNat_natCast, hw, if_neg (by omega), if_pos hu]
  have hok : ∀ W, wid (byt s p) = W → W ≤ s.size - p → lo W ≤ un s p W → getS s (p : Int) = (un s p W, (p : Int) + W, 0) := fun W hw hl hu => by
    unfold getS
    rw [if_neg h1, Int.toNat_natCast, hw, if_neg (by omega), if_neg (by omega)]
  have hkk : byt s p / 64 = 0 ∨ byt s p / 64 = 1 ∨ byt s p / 64 = 2 ∨ byt s p / 64 = 3 := by omega
  rcases hkk with hk | hk | hk | hk
  · have hw : wid (byt s p) = 1 := by unfold wid; (repeat' split) <;> omega
    have hu := un1 s p
    rw [hok _ hw (by omega) (by unfold lo; simp; omega)]
    exact getO0 s p hps hm w h hk (by omega) ⟨by omega, by omega⟩
  · have hw : wid (byt s p) = 2 := by unfold wid; (repeat' split) <;> omega
    have hu := un2 s p
    by_cases hl : s.size - p < 2
    · rw [hcut _ hw hl]; exact getC1 s p hps hm w h hk hl
    by_cases hn0 : un s p 2 < 64
    · rw [hlong _ hw (by omega) (by unfold lo; simp; omega)]; exact getL10 s p hps hm w h hk (by omega) ⟨by omega, hn0⟩
    rw [hok _ hw (by omega) (by unfold lo; simp; omega)]
    exact getO1 s p hps hm w h hk (by omega) ⟨by omega, by omega⟩
  · have hw : wid (byt s p) = 4 := by unfold wid; (repeat' split) <;> omega
    have hu := un4 s p
    by_cases hl : s.size - p < 4
    · rw [hcut _ hw hl]; exact getC2 s p hps hm w h hk hl
    by_cases hn0 : un s p 4 < 64
    · rw [hlong _ hw (by omega) (by unfold lo; simp; omega)]; exact getL20 s p hps hm w h hk (by omega) ⟨by omega, hn0⟩
    by_cases hn1 : un s p 4 < 16384
    · rw [hlong _ hw (by omega) (by unfold lo; simp; omega)]; exact getL21 s p hps hm w h hk (by omega) ⟨by omega, hn1⟩
    rw [hok _ hw (by omega) (by unfold lo; simp; omega)]
    exact getO2 s p hps hm w h hk (by omega) ⟨by omega, by omega⟩
  · have hw : wid (byt s p) = 8 := by unfold wid; (repeat' split) <;> omega
    have hu := un_bd s p 8 (by omega)
    by_cases hl : s.size - p < 8
    · rw [hcut _ hw hl]; exact getC3 s p hps hm w h hk hl
    by_cases hn0 : un s p 8 < 64
    · rw [hlong _ hw (by omega) (by unfold lo; simp; omega)]; exact getL30 s p hps hm w h hk (by omega) ⟨by omega, hn0⟩
    by_cases hn1 : un s p 8 < 16384
    · rw [hlong _ hw (by omega) (by unfold lo; simp; omega)]; exact getL31 s p hps hm w h hk (by omega) ⟨by omega, hn1⟩
    by_cases hn2 : un s p 8 < 1073741824
    · rw [hlong _ hw (by omega) (by unfold lo; simp; omega)]; exact getL32 s p hps hm w h hk (by omega) ⟨by omega, hn2⟩
    rw [hok _ hw (by omega) (by unfold lo; simp; omega)]
    exact getO3 s p hps hm w h hk (by omega) ⟨by omega, by omega⟩
end Go.Proofs.YtjmkdgjdemndaaaDoor.X
