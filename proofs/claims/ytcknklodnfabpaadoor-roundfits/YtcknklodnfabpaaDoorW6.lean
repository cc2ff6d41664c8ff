/- The contracts of the document's answers: Size, Zig, Zag, Get. -/
import Derived.Test.YtcknklodnfabpaaDoorW4
import Derived.Test.YtcknklodnfabpaaDoorA3
namespace Go.Proofs.YtcknklodnfabpaaDoor
open Go Go.RowKit
theorem rsize0 (n : Int) (_h1 : 0 ≤ n) (_h2 : n < 64) (w : World) : Calls Tryd.prog 62 #[.int .u64 n] w fun e w' => e = .returned (.int .i64 1) ∧ w = w' := by
  go_enter Tryd.func62, Tryd.ntmps62
  go_wp2
  go_ret
  exact ⟨rfl, rfl⟩
theorem rsize1 (n : Int) (_h1 : 64 ≤ n) (_h2 : n < 16384) (w : World) : Calls Tryd.prog 62 #[.int .u64 n] w fun e w' => e = .returned (.int .i64 2) ∧ w = w' := by
  go_enter Tryd.func62, Tryd.ntmps62
  go_wp2
  go_ret
  exact ⟨rfl, rfl⟩
theorem rsize2 (n : Int) (_h1 : 16384 ≤ n) (_h2 : n < 1073741824) (w : World) : Calls Tryd.prog 62 #[.int .u64 n] w fun e w' => e = .returned (.int .i64 4) ∧ w = w' := by
  go_enter Tryd.func62, Tryd.ntmps62
  go_wp2
  go_ret
  exact ⟨rfl, rfl⟩
theorem rsize3 (n : Int) (_h1 : 1073741824 ≤ n) (_h2 : n < 4611686018427387904) (w : World) : Calls Tryd.prog 62 #[.int .u64 n] w fun e w' => e = .returned (.int .i64 8) ∧ w = w' := by
  go_enter Tryd.func62, Tryd.ntmps62
  go_wp2
  go_ret
  exact ⟨rfl, rfl⟩
theorem rsizeN (n : Int) (_h1 : 4611686018427387904 ≤ n) (w : World) : Calls Tryd.prog 62 #[.int .u64 n] w fun e w' => e = .returned (.int .i64 0) ∧ w = w' := by
  go_enter Tryd.func62, Tryd.ntmps62
  go_wp2
  go_ret
  exact ⟨rfl, rfl⟩
theorem rsize_any (n : Int) (h0 : 0 ≤ n) (w : World) : Calls Tryd.prog 62 #[.int .u64 n] w fun e w' => e = .returned (.int .i64 (sizeZ n)) ∧ w = w' := by
  unfold sizeZ
  by_cases h1 : n < 64
  · rw [if_pos h1]; exact rsize0 n h0 h1 w
  rw [if_neg h1]
  by_cases h2 : n < 16384
  · rw [if_pos h2]; exact rsize1 n (by omega) h2 w
  rw [if_neg h2]
  by_cases h3 : n < 1073741824
  · rw [if_pos h3]; exact rsize2 n (by omega) h3 w
  rw [if_neg h3]
  by_cases h4 : n < 4611686018427387904
  · rw [if_pos h4]; exact rsize3 n (by omega) h4 w
  rw [if_neg h4]; exact rsizeN n (by omega) w
theorem ret_ub {a b : Int} (h : a = b) : Ending.returned (.tuple #[.int .u64 a, .bool true]) = Ending.returned (.tuple #[.int .u64 b, .bool true]) := by rw [h]
theorem ret_i {k : IntKind} {a b : Int} (h : a = b) : Ending.returned (.int k a) = Ending.returned (.int k b) := by rw [h]
theorem rzig_yes (n : Int) (h0 : -2305843009213693952 ≤ n) (h1 : n < 2305843009213693952) (w : World) : Calls Tryd.prog 63 #[.int .i64 n] w fun e w' => e = .returned (.tuple #[.int .u64 (zigS n), .bool true]) ∧ w = w' := by
  by_cases hn : n < 0
  · have hz : zigS n = -2 * n - 1 := if_pos hn
    have HZ := Lib.hid hz
    clear hz
    go_enter Tryd.func63, Tryd.ntmps63
    go_wp2
    go_ret2
    exact ⟨ret_ub (by rw [HZ.out]; omega), rfl⟩
  · have hz : zigS n = 2 * n := if_neg hn
    have HZ := Lib.hid hz
    clear hz
    go_enter Tryd.func63, Tryd.ntmps63
    go_wp2
    go_ret2
    exact ⟨ret_ub (by rw [HZ.out]), rfl⟩
theorem rzig_no (n : Int) (h0 : n < -2305843009213693952 ∨ 2305843009213693952 ≤ n) (w : World) : Calls Tryd.prog 63 #[.int .i64 n] w fun e w' => e = .returned (.tuple #[.int .u64 0, .bool false]) ∧ w = w' := by
  rcases h0 with h | h
  · go_enter Tryd.func63, Tryd.ntmps63
    go_wp2
    go_ret2
    exact ⟨rfl, rfl⟩
  · go_enter Tryd.func63, Tryd.ntmps63
    go_wp2
    go_ret2
    exact ⟨rfl, rfl⟩
theorem rzag_no (n : Int) (_h1 : 4611686018427387904 ≤ n) (w : World) : Calls Tryd.prog 72 #[.int .u64 n] w fun e w' => e = .returned (.int .i64 0) ∧ w = w' := by
  go_enter Tryd.func72, Tryd.ntmps72
  go_wp2
  go_ret
  exact ⟨rfl, rfl⟩
theorem rzag_yes (n : Int) (h0 : 0 ≤ n) (h1 : n < 4611686018427387904) (w : World) : Calls Tryd.prog 72 #[.int .u64 n] w fun e w' => e = .returned (.int .i64 (zagS n)) ∧ w = w' := by
  rcases (show n % 2 = 0 ∨ n % 2 = 1 by omega) with hp | hp
  · have HZ : Hid (zagS n = n / 2) := (if_neg (by omega) : zagS n = n / 2)
    have hb : (n % 2 == 1) = false := by rw [beq_eq_false_iff_ne]; omega
    clear hp
    go_enter Tryd.func72, Tryd.ntmps72
    go_wp2
    go_ret
    exact ⟨ret_i (by rw [HZ.out]), rfl⟩
  · have HZ : Hid (zagS n = -(n / 2) - 1) := (if_pos (by omega) : zagS n = -(n / 2) - 1)
    have hb : (n % 2 == 1) = true := by rw [beq_iff_eq]; omega
    clear hp
    go_enter Tryd.func72, Tryd.ntmps72
    go_wp2
    go_ret
    exact ⟨ret_i (by rw [HZ.out]), rfl⟩
set_option maxHeartbeats 400000 in
set_option maxRecDepth 100000 in
theorem rgetRange (s : ByteArray) (a : Int) (h : a < 0 ∨ (s.size : Int) < a) (w : World) : Calls Tryd.prog 71 #[.string s, .int .i64 a] w fun e w' => e = .returned (.tuple #[.int .u64 0, .int .i64 0, .int .i64 1]) ∧ w = w' := by
  by_cases h0 : a < 0
  · go_enter Tryd.func71, Tryd.ntmps71
    go_wp2
    go_ret3
    exact ⟨rfl, rfl⟩
  · have h1 : (s.size : Int) < a := by omega
    go_enter Tryd.func71, Tryd.ntmps71
    go_wp2
    go_ret3
    exact ⟨rfl, rfl⟩
set_option maxHeartbeats 400000 in
set_option maxRecDepth 100000 in
theorem rgetEnd (s : ByteArray) (_hm : s.size ≤ maxLen) (w : World) : Calls Tryd.prog 71 #[.string s, .int .i64 s.size] w fun e w' => e = .returned (.tuple #[.int .u64 0, .int .i64 0, .int .i64 2]) ∧ w = w' := by
  unfold maxLen at _hm
  go_enter Tryd.func71, Tryd.ntmps71
  go_wp2
  go_ret3
  exact ⟨rfl, rfl⟩
set_option maxHeartbeats 400000 in
set_option maxRecDepth 100000 in
theorem rgetO0 (s : ByteArray) (a : Nat) (ha : a < s.size) (_hm : s.size ≤ maxLen) (w : World) (hk : byt s a / 64 = 0) (_hW : 1 ≤ s.size - a) (hN : 0 ≤ un s a 1 ∧ un s a 1 < 64) : Calls Tryd.prog 71 #[.string s, .int .i64 a] w fun e w' => e = .returned (.tuple #[.int .u64 (un s a 1), .int .i64 ((a : Int) + 1), .int .i64 0]) ∧ w = w' := by
  unfold maxLen at _hm
  have hk1 : ((s[a]'ha).toNat : Int) / 64 = 0 := by rw [byt_at s a ha]; exact hk
  have hk3 : ((s[a]'ha).toNat : Int) % 64 = un s a 1 := by rw [byt_at s a ha]; rfl
  have hk2 : (s[a]'ha).toNat < 256 := (s[a]'ha).toNat_lt
  have hne : ((a : Int) == (s.size : Int)) = false := by rw [beq_eq_false_iff_ne]; omega
  have hb1 : decide ((a : Int) < 0) = false := by simp
  have hb2 : decide (s.size < a) = false := by simp; omega
  clear hk
  have hu1 := un_bd s a 1 (by omega)
  have HK3 := Lib.hid hk3
  clear hk3
  go_enter Tryd.func71, Tryd.ntmps71
  go_wp2
  go_rounds 1
  go_loop [10, 11] (fun v10 v11 => ∃ j : Nat, 1 ≤ j ∧ j ≤ 1 ∧ v11 = .int .i64 j ∧ v10 = .int .u64 (un s a j)) (fun _ v11 => 1 - (intOf v11).toNat)
  case atStart => exact ⟨1, Nat.le_refl _, by decide, rfl, by rw [← HK3.out]⟩
  case round =>
    obtain ⟨j, hj1, hj, rfl, rfl⟩ := hrel
    clear hk1 hk2
    by_cases hlt : j < 1
    · omega
    · obtain rfl : j = 1 := by omega
      clear hlt hj1 hj
      go_wp2_with fail
      refine (rsize0 _ hN.1 hN.2 _).mono ?_
      rintro e w1 ⟨rfl, rfl⟩
      go_wp2
      go_ret3
      exact ⟨rfl, rfl⟩
set_option maxHeartbeats 400000 in
set_option maxRecDepth 100000 in
theorem rgetC1 (s : ByteArray) (a : Nat) (ha : a < s.size) (_hm : s.size ≤ maxLen) (w : World) (hk : byt s a / 64 = 1) (hW : s.size - a < 2) : Calls Tryd.prog 71 #[.string s, .int .i64 a] w fun e w' => e = .returned (.tuple #[.int .u64 0, .int .i64 0, .int .i64 2]) ∧ w = w' := by
  unfold maxLen at _hm
  have hk1 : ((s[a]'ha).toNat : Int) / 64 = 1 := by rw [byt_at s a ha]; exact hk
  have hk3 : ((s[a]'ha).toNat : Int) % 64 = un s a 1 := by rw [byt_at s a ha]; rfl
  have hk2 : (s[a]'ha).toNat < 256 := (s[a]'ha).toNat_lt
  have hne : ((a : Int) == (s.size : Int)) = false := by rw [beq_eq_false_iff_ne]; omega
  have hb1 : decide ((a : Int) < 0) = false := by simp
  have hb2 : decide (s.size < a) = false := by simp; omega
  clear hk
  clear hk3
  go_enter Tryd.func71, Tryd.ntmps71
  go_wp2
  go_rounds 2
  go_ret3
  exact ⟨rfl, rfl⟩
set_option maxHeartbeats 400000 in
set_option maxRecDepth 100000 in
theorem rgetL10 (s : ByteArray) (a : Nat) (ha : a < s.size) (_hm : s.size ≤ maxLen) (w : World) (hk : byt s a / 64 = 1) (_hW : 2 ≤ s.size - a) (hN : 0 ≤ un s a 2 ∧ un s a 2 < 64) : Calls Tryd.prog 71 #[.string s, .int .i64 a] w fun e w' => e = .returned (.tuple #[.int .u64 0, .int .i64 0, .int .i64 3]) ∧ w = w' := by
  unfold maxLen at _hm
  have hk1 : ((s[a]'ha).toNat : Int) / 64 = 1 := by rw [byt_at s a ha]; exact hk
  have hk3 : ((s[a]'ha).toNat : Int) % 64 = un s a 1 := by rw [byt_at s a ha]; rfl
  have hk2 : (s[a]'ha).toNat < 256 := (s[a]'ha).toNat_lt
  have hne : ((a : Int) == (s.size : Int)) = false := by rw [beq_eq_false_iff_ne]; omega
  have hb1 : decide ((a : Int) < 0) = false := by simp
  have hb2 : decide (s.size < a) = false := by simp; omega
  clear hk
  have hu1 := un_bd s a 2 (by omega)
  have HK3 := Lib.hid hk3
  clear hk3
  go_enter Tryd.func71, Tryd.ntmps71
  go_wp2
  go_rounds 2
  go_loop [10, 11] (fun v10 v11 => ∃ j : Nat, 1 ≤ j ∧ j ≤ 2 ∧ v11 = .int .i64 j ∧ v10 = .int .u64 (un s a j)) (fun _ v11 => 2 - (intOf v11).toNat)
  case atStart => exact ⟨1, Nat.le_refl _, by decide, rfl, by rw [← HK3.out]⟩
  case round =>
    obtain ⟨j, hj1, hj, rfl, rfl⟩ := hrel
    clear hk1 hk2
    by_cases hlt : j < 2
    · have hu := un_bd7 s a j (by omega)
      have haj : a + j < s.size := by omega
      have hbk := byt_bd s (a + j)
      have hby : ((s[a + j]'haj).toNat : Int) < 256 := by rw [byt_at s (a + j) haj]; omega
      have HU : Hid (un s a (j + 1) = un s a j * 256 + ((s[a + j]'haj).toNat : Int)) := by
        show un s a (j + 1) = un s a j * 256 + ((s[a + j]'haj).toNat : Int)
        rw [un_succ s a j hj1, byt_at s (a + j) haj]
      go_wp2
      go_round
      case rel => exact ⟨j + 1, by omega, by omega, by go_num, by rw [HU.out]; go_num⟩
      case measure => simp [intOf]; omega
    · obtain rfl : j = 2 := by omega
      clear hlt hj1 hj
      go_wp2_with fail
      refine (rsize0 _ hN.1 hN.2 _).mono ?_
      rintro e w1 ⟨rfl, rfl⟩
      go_wp2
      go_ret3
      exact ⟨rfl, rfl⟩
set_option maxHeartbeats 400000 in
set_option maxRecDepth 100000 in
theorem rgetO1 (s : ByteArray) (a : Nat) (ha : a < s.size) (_hm : s.size ≤ maxLen) (w : World) (hk : byt s a / 64 = 1) (_hW : 2 ≤ s.size - a) (hN : 64 ≤ un s a 2 ∧ un s a 2 < 16384) : Calls Tryd.prog 71 #[.string s, .int .i64 a] w fun e w' => e = .returned (.tuple #[.int .u64 (un s a 2), .int .i64 ((a : Int) + 2), .int .i64 0]) ∧ w = w' := by
  unfold maxLen at _hm
  have hk1 : ((s[a]'ha).toNat : Int) / 64 = 1 := by rw [byt_at s a ha]; exact hk
  have hk3 : ((s[a]'ha).toNat : Int) % 64 = un s a 1 := by rw [byt_at s a ha]; rfl
  have hk2 : (s[a]'ha).toNat < 256 := (s[a]'ha).toNat_lt
  have hne : ((a : Int) == (s.size : Int)) = false := by rw [beq_eq_false_iff_ne]; omega
  have hb1 : decide ((a : Int) < 0) = false := by simp
  have hb2 : decide (s.size < a) = false := by simp; omega
  clear hk
  have hu1 := un_bd s a 2 (by omega)
  have HK3 := Lib.hid hk3
  clear hk3
  go_enter Tryd.func71, Tryd.ntmps71
  go_wp2
  go_rounds 2
  go_loop [10, 11] (fun v10 v11 => ∃ j : Nat, 1 ≤ j ∧ j ≤ 2 ∧ v11 = .int .i64 j ∧ v10 = .int .u64 (un s a j)) (fun _ v11 => 2 - (intOf v11).toNat)
  case atStart => exact ⟨1, Nat.le_refl _, by decide, rfl, by rw [← HK3.out]⟩
  case round =>
    obtain ⟨j, hj1, hj, rfl, rfl⟩ := hrel
    clear hk1 hk2
    by_cases hlt : j < 2
    · have hu := un_bd7 s a j (by omega)
      have haj : a + j < s.size := by omega
      have hbk := byt_bd s (a + j)
      have hby : ((s[a + j]'haj).toNat : Int) < 256 := by rw [byt_at s (a + j) haj]; omega
      have HU : Hid (un s a (j + 1) = un s a j * 256 + ((s[a + j]'haj).toNat : Int)) := by
        show un s a (j + 1) = un s a j * 256 + ((s[a + j]'haj).toNat : Int)
        rw [un_succ s a j hj1, byt_at s (a + j) haj]
      go_wp2
      go_round
      case rel => exact ⟨j + 1, by omega, by omega, by go_num, by rw [HU.out]; go_num⟩
      case measure => simp [intOf]; omega
    · obtain rfl : j = 2 := by omega
      clear hlt hj1 hj
      go_wp2_with fail
      refine (rsize1 _ hN.1 hN.2 _).mono ?_
      rintro e w1 ⟨rfl, rfl⟩
      go_wp2
      go_ret3
      exact ⟨rfl, rfl⟩
set_option maxHeartbeats 400000 in
set_option maxRecDepth 100000 in
theorem rgetC2 (s : ByteArray) (a : Nat) (ha : a < s.size) (_hm : s.size ≤ maxLen) (w : World) (hk : byt s a / 64 = 2) (hW : s.size - a < 4) : Calls Tryd.prog 71 #[.string s, .int .i64 a] w fun e w' => e = .returned (.tuple #[.int .u64 0, .int .i64 0, .int .i64 2]) ∧ w = w' := by
  unfold maxLen at _hm
  have hk1 : ((s[a]'ha).toNat : Int) / 64 = 2 := by rw [byt_at s a ha]; exact hk
  have hk3 : ((s[a]'ha).toNat : Int) % 64 = un s a 1 := by rw [byt_at s a ha]; rfl
  have hk2 : (s[a]'ha).toNat < 256 := (s[a]'ha).toNat_lt
  have hne : ((a : Int) == (s.size : Int)) = false := by rw [beq_eq_false_iff_ne]; omega
  have hb1 : decide ((a : Int) < 0) = false := by simp
  have hb2 : decide (s.size < a) = false := by simp; omega
  clear hk
  clear hk3
  go_enter Tryd.func71, Tryd.ntmps71
  go_wp2
  go_rounds 3
  go_ret3
  exact ⟨rfl, rfl⟩
set_option maxHeartbeats 400000 in
set_option maxRecDepth 100000 in
theorem rgetL20 (s : ByteArray) (a : Nat) (ha : a < s.size) (_hm : s.size ≤ maxLen) (w : World) (hk : byt s a / 64 = 2) (_hW : 4 ≤ s.size - a) (hN : 0 ≤ un s a 4 ∧ un s a 4 < 64) : Calls Tryd.prog 71 #[.string s, .int .i64 a] w fun e w' => e = .returned (.tuple #[.int .u64 0, .int .i64 0, .int .i64 3]) ∧ w = w' := by
  unfold maxLen at _hm
  have hk1 : ((s[a]'ha).toNat : Int) / 64 = 2 := by rw [byt_at s a ha]; exact hk
  have hk3 : ((s[a]'ha).toNat : Int) % 64 = un s a 1 := by rw [byt_at s a ha]; rfl
  have hk2 : (s[a]'ha).toNat < 256 := (s[a]'ha).toNat_lt
  have hne : ((a : Int) == (s.size : Int)) = false := by rw [beq_eq_false_iff_ne]; omega
  have hb1 : decide ((a : Int) < 0) = false := by simp
  have hb2 : decide (s.size < a) = false := by simp; omega
  clear hk
  have hu1 := un_bd s a 4 (by omega)
  have HK3 := Lib.hid hk3
  clear hk3
  go_enter Tryd.func71, Tryd.ntmps71
  go_wp2
  go_rounds 3
  go_loop [10, 11] (fun v10 v11 => ∃ j : Nat, 1 ≤ j ∧ j ≤ 4 ∧ v11 = .int .i64 j ∧ v10 = .int .u64 (un s a j)) (fun _ v11 => 4 - (intOf v11).toNat)
  case atStart => exact ⟨1, Nat.le_refl _, by decide, rfl, by rw [← HK3.out]⟩
  case round =>
    obtain ⟨j, hj1, hj, rfl, rfl⟩ := hrel
    clear hk1 hk2
    by_cases hlt : j < 4
    · have hu := un_bd7 s a j (by omega)
      have haj : a + j < s.size := by omega
      have hbk := byt_bd s (a + j)
      have hby : ((s[a + j]'haj).toNat : Int) < 256 := by rw [byt_at s (a + j) haj]; omega
      have HU : Hid (un s a (j + 1) = un s a j * 256 + ((s[a + j]'haj).toNat : Int)) := by
        show un s a (j + 1) = un s a j * 256 + ((s[a + j]'haj).toNat : Int)
        rw [un_succ s a j hj1, byt_at s (a + j) haj]
      go_wp2
      go_round
      case rel => exact ⟨j + 1, by omega, by omega, by go_num, by rw [HU.out]; go_num⟩
      case measure => simp [intOf]; omega
    · obtain rfl : j = 4 := by omega
      clear hlt hj1 hj
      go_wp2_with fail
      refine (rsize0 _ hN.1 hN.2 _).mono ?_
      rintro e w1 ⟨rfl, rfl⟩
      go_wp2
      go_ret3
      exact ⟨rfl, rfl⟩
set_option maxHeartbeats 400000 in
set_option maxRecDepth 100000 in
theorem rgetL21 (s : ByteArray) (a : Nat) (ha : a < s.size) (_hm : s.size ≤ maxLen) (w : World) (hk : byt s a / 64 = 2) (_hW : 4 ≤ s.size - a) (hN : 64 ≤ un s a 4 ∧ un s a 4 < 16384) : Calls Tryd.prog 71 #[.string s, .int .i64 a] w fun e w' => e = .returned (.tuple #[.int .u64 0, .int .i64 0, .int .i64 3]) ∧ w = w' := by
  unfold maxLen at _hm
  have hk1 : ((s[a]'ha).toNat : Int) / 64 = 2 := by rw [byt_at s a ha]; exact hk
  have hk3 : ((s[a]'ha).toNat : Int) % 64 = un s a 1 := by rw [byt_at s a ha]; rfl
  have hk2 : (s[a]'ha).toNat < 256 := (s[a]'ha).toNat_lt
  have hne : ((a : Int) == (s.size : Int)) = false := by rw [beq_eq_false_iff_ne]; omega
  have hb1 : decide ((a : Int) < 0) = false := by simp
  have hb2 : decide (s.size < a) = false := by simp; omega
  clear hk
  have hu1 := un_bd s a 4 (by omega)
  have HK3 := Lib.hid hk3
  clear hk3
  go_enter Tryd.func71, Tryd.ntmps71
  go_wp2
  go_rounds 3
  go_loop [10, 11] (fun v10 v11 => ∃ j : Nat, 1 ≤ j ∧ j ≤ 4 ∧ v11 = .int .i64 j ∧ v10 = .int .u64 (un s a j)) (fun _ v11 => 4 - (intOf v11).toNat)
  case atStart => exact ⟨1, Nat.le_refl _, by decide, rfl, by rw [← HK3.out]⟩
  case round =>
    obtain ⟨j, hj1, hj, rfl, rfl⟩ := hrel
    clear hk1 hk2
    by_cases hlt : j < 4
    · have hu := un_bd7 s a j (by omega)
      have haj : a + j < s.size := by omega
      have hbk := byt_bd s (a + j)
      have hby : ((s[a + j]'haj).toNat : Int) < 256 := by rw [byt_at s (a + j) haj]; omega
      have HU : Hid (un s a (j + 1) = un s a j * 256 + ((s[a + j]'haj).toNat : Int)) := by
        show un s a (j + 1) = un s a j * 256 + ((s[a + j]'haj).toNat : Int)
        rw [un_succ s a j hj1, byt_at s (a + j) haj]
      go_wp2
      go_round
      case rel => exact ⟨j + 1, by omega, by omega, by go_num, by rw [HU.out]; go_num⟩
      case measure => simp [intOf]; omega
    · obtain rfl : j = 4 := by omega
      clear hlt hj1 hj
      go_wp2_with fail
      refine (rsize1 _ hN.1 hN.2 _).mono ?_
      rintro e w1 ⟨rfl, rfl⟩
      go_wp2
      go_ret3
      exact ⟨rfl, rfl⟩
set_option maxHeartbeats 400000 in
set_option maxRecDepth 100000 in
theorem rgetO2 (s : ByteArray) (a : Nat) (ha : a < s.size) (_hm : s.size ≤ maxLen) (w : World) (hk : byt s a / 64 = 2) (_hW : 4 ≤ s.size - a) (hN : 16384 ≤ un s a 4 ∧ un s a 4 < 1073741824) : Calls Tryd.prog 71 #[.string s, .int .i64 a] w fun e w' => e = .returned (.tuple #[.int .u64 (un s a 4), .int .i64 ((a : Int) + 4), .int .i64 0]) ∧ w = w' := by
  unfold maxLen at _hm
  have hk1 : ((s[a]'ha).toNat : Int) / 64 = 2 := by rw [byt_at s a ha]; exact hk
  have hk3 : ((s[a]'ha).toNat : Int) % 64 = un s a 1 := by rw [byt_at s a ha]; rfl
  have hk2 : (s[a]'ha).toNat < 256 := (s[a]'ha).toNat_lt
  have hne : ((a : Int) == (s.size : Int)) = false := by rw [beq_eq_false_iff_ne]; omega
  have hb1 : decide ((a : Int) < 0) = false := by simp
  have hb2 : decide (s.size < a) = false := by simp; omega
  clear hk
  have hu1 := un_bd s a 4 (by omega)
  have HK3 := Lib.hid hk3
  clear hk3
  go_enter Tryd.func71, Tryd.ntmps71
  go_wp2
  go_rounds 3
  go_loop [10, 11] (fun v10 v11 => ∃ j : Nat, 1 ≤ j ∧ j ≤ 4 ∧ v11 = .int .i64 j ∧ v10 = .int .u64 (un s a j)) (fun _ v11 => 4 - (intOf v11).toNat)
  case atStart => exact ⟨1, Nat.le_refl _, by decide, rfl, by rw [← HK3.out]⟩
  case round =>
    obtain ⟨j, hj1, hj, rfl, rfl⟩ := hrel
    clear hk1 hk2
    by_cases hlt : j < 4
    · have hu := un_bd7 s a j (by omega)
      have haj : a + j < s.size := by omega
      have hbk := byt_bd s (a + j)
      have hby : ((s[a + j]'haj).toNat : Int) < 256 := by rw [byt_at s (a + j) haj]; omega
      have HU : Hid (un s a (j + 1) = un s a j * 256 + ((s[a + j]'haj).toNat : Int)) := by
        show un s a (j + 1) = un s a j * 256 + ((s[a + j]'haj).toNat : Int)
        rw [un_succ s a j hj1, byt_at s (a + j) haj]
      go_wp2
      go_round
      case rel => exact ⟨j + 1, by omega, by omega, by go_num, by rw [HU.out]; go_num⟩
      case measure => simp [intOf]; omega
    · obtain rfl : j = 4 := by omega
      clear hlt hj1 hj
      go_wp2_with fail
      refine (rsize2 _ hN.1 hN.2 _).mono ?_
      rintro e w1 ⟨rfl, rfl⟩
      go_wp2
      go_ret3
      exact ⟨rfl, rfl⟩
set_option maxHeartbeats 400000 in
set_option maxRecDepth 100000 in
theorem rgetC3 (s : ByteArray) (a : Nat) (ha : a < s.size) (_hm : s.size ≤ maxLen) (w : World) (hk : byt s a / 64 = 3) (hW : s.size - a < 8) : Calls Tryd.prog 71 #[.string s, .int .i64 a] w fun e w' => e = .returned (.tuple #[.int .u64 0, .int .i64 0, .int .i64 2]) ∧ w = w' := by
  unfold maxLen at _hm
  have hk1 : ((s[a]'ha).toNat : Int) / 64 = 3 := by rw [byt_at s a ha]; exact hk
  have hk3 : ((s[a]'ha).toNat : Int) % 64 = un s a 1 := by rw [byt_at s a ha]; rfl
  have hk2 : (s[a]'ha).toNat < 256 := (s[a]'ha).toNat_lt
  have hne : ((a : Int) == (s.size : Int)) = false := by rw [beq_eq_false_iff_ne]; omega
  have hb1 : decide ((a : Int) < 0) = false := by simp
  have hb2 : decide (s.size < a) = false := by simp; omega
  clear hk
  clear hk3
  go_enter Tryd.func71, Tryd.ntmps71
  go_wp2
  go_rounds 4
  go_ret3
  exact ⟨rfl, rfl⟩
set_option maxHeartbeats 400000 in
set_option maxRecDepth 100000 in
theorem rgetL30 (s : ByteArray) (a : Nat) (ha : a < s.size) (_hm : s.size ≤ maxLen) (w : World) (hk : byt s a / 64 = 3) (_hW : 8 ≤ s.size - a) (hN : 0 ≤ un s a 8 ∧ un s a 8 < 64) : Calls Tryd.prog 71 #[.string s, .int .i64 a] w fun e w' => e = .returned (.tuple #[.int .u64 0, .int .i64 0, .int .i64 3]) ∧ w = w' := by
  unfold maxLen at _hm
  have hk1 : ((s[a]'ha).toNat : Int) / 64 = 3 := by rw [byt_at s a ha]; exact hk
  have hk3 : ((s[a]'ha).toNat : Int) % 64 = un s a 1 := by rw [byt_at s a ha]; rfl
  have hk2 : (s[a]'ha).toNat < 256 := (s[a]'ha).toNat_lt
  have hne : ((a : Int) == (s.size : Int)) = false := by rw [beq_eq_false_iff_ne]; omega
  have hb1 : decide ((a : Int) < 0) = false := by simp
  have hb2 : decide (s.size < a) = false := by simp; omega
  clear hk
  have hu1 := un_bd s a 8 (by omega)
  have HK3 := Lib.hid hk3
  clear hk3
  go_enter Tryd.func71, Tryd.ntmps71
  go_wp2
  go_rounds 4
  go_loop [10, 11] (fun v10 v11 => ∃ j : Nat, 1 ≤ j ∧ j ≤ 8 ∧ v11 = .int .i64 j ∧ v10 = .int .u64 (un s a j)) (fun _ v11 => 8 - (intOf v11).toNat)
  case atStart => exact ⟨1, Nat.le_refl _, by decide, rfl, by rw [← HK3.out]⟩
  case round =>
    obtain ⟨j, hj1, hj, rfl, rfl⟩ := hrel
    clear hk1 hk2
    by_cases hlt : j < 8
    · have hu := un_bd7 s a j (by omega)
      have haj : a + j < s.size := by omega
      have hbk := byt_bd s (a + j)
      have hby : ((s[a + j]'haj).toNat : Int) < 256 := by rw [byt_at s (a + j) haj]; omega
      have HU : Hid (un s a (j + 1) = un s a j * 256 + ((s[a + j]'haj).toNat : Int)) := by
        show un s a (j + 1) = un s a j * 256 + ((s[a + j]'haj).toNat : Int)
        rw [un_succ s a j hj1, byt_at s (a + j) haj]
      go_wp2
      go_round
      case rel => exact ⟨j + 1, by omega, by omega, by go_num, by rw [HU.out]; go_num⟩
      case measure => simp [intOf]; omega
    · obtain rfl : j = 8 := by omega
      clear hlt hj1 hj
      go_wp2_with fail
      refine (rsize0 _ hN.1 hN.2 _).mono ?_
      rintro e w1 ⟨rfl, rfl⟩
      go_wp2
      go_ret3
      exact ⟨rfl, rfl⟩
set_option maxHeartbeats 400000 in
set_option maxRecDepth 100000 in
theorem rgetL31 (s : ByteArray) (a : Nat) (ha : a < s.size) (_hm : s.size ≤ maxLen) (w : World) (hk : byt s a / 64 = 3) (_hW : 8 ≤ s.size - a) (hN : 64 ≤ un s a 8 ∧ un s a 8 < 16384) : Calls Tryd.prog 71 #[.string s, .int .i64 a] w fun e w' => e = .returned (.tuple #[.int .u64 0, .int .i64 0, .int .i64 3]) ∧ w = w' := by
  unfold maxLen at _hm
  have hk1 : ((s[a]'ha).toNat : Int) / 64 = 3 := by rw [byt_at s a ha]; exact hk
  have hk3 : ((s[a]'ha).toNat : Int) % 64 = un s a 1 := by rw [byt_at s a ha]; rfl
  have hk2 : (s[a]'ha).toNat < 256 := (s[a]'ha).toNat_lt
  have hne : ((a : Int) == (s.size : Int)) = false := by rw [beq_eq_false_iff_ne]; omega
  have hb1 : decide ((a : Int) < 0) = false := by simp
  have hb2 : decide (s.size < a) = false := by simp; omega
  clear hk
  have hu1 := un_bd s a 8 (by omega)
  have HK3 := Lib.hid hk3
  clear hk3
  go_enter Tryd.func71, Tryd.ntmps71
  go_wp2
  go_rounds 4
  go_loop [10, 11] (fun v10 v11 => ∃ j : Nat, 1 ≤ j ∧ j ≤ 8 ∧ v11 = .int .i64 j ∧ v10 = .int .u64 (un s a j)) (fun _ v11 => 8 - (intOf v11).toNat)
  case atStart => exact ⟨1, Nat.le_refl _, by decide, rfl, by rw [← HK3.out]⟩
  case round =>
    obtain ⟨j, hj1, hj, rfl, rfl⟩ := hrel
    clear hk1 hk2
    by_cases hlt : j < 8
    · have hu := un_bd7 s a j (by omega)
      have haj : a + j < s.size := by omega
      have hbk := byt_bd s (a + j)
      have hby : ((s[a + j]'haj).toNat : Int) < 256 := by rw [byt_at s (a + j) haj]; omega
      have HU : Hid (un s a (j + 1) = un s a j * 256 + ((s[a + j]'haj).toNat : Int)) := by
        show un s a (j + 1) = un s a j * 256 + ((s[a + j]'haj).toNat : Int)
        rw [un_succ s a j hj1, byt_at s (a + j) haj]
      go_wp2
      go_round
      case rel => exact ⟨j + 1, by omega, by omega, by go_num, by rw [HU.out]; go_num⟩
      case measure => simp [intOf]; omega
    · obtain rfl : j = 8 := by omega
      clear hlt hj1 hj
      go_wp2_with fail
      refine (rsize1 _ hN.1 hN.2 _).mono ?_
      rintro e w1 ⟨rfl, rfl⟩
      go_wp2
      go_ret3
      exact ⟨rfl, rfl⟩
set_option maxHeartbeats 400000 in
set_option maxRecDepth 100000 in
theorem rgetL32 (s : ByteArray) (a : Nat) (ha : a < s.size) (_hm : s.size ≤ maxLen) (w : World) (hk : byt s a / 64 = 3) (_hW : 8 ≤ s.size - a) (hN : 16384 ≤ un s a 8 ∧ un s a 8 < 1073741824) : Calls Tryd.prog 71 #[.string s, .int .i64 a] w fun e w' => e = .returned (.tuple #[.int .u64 0, .int .i64 0, .int .i64 3]) ∧ w = w' := by
  unfold maxLen at _hm
  have hk1 : ((s[a]'ha).toNat : Int) / 64 = 3 := by rw [byt_at s a ha]; exact hk
  have hk3 : ((s[a]'ha).toNat : Int) % 64 = un s a 1 := by rw [byt_at s a ha]; rfl
  have hk2 : (s[a]'ha).toNat < 256 := (s[a]'ha).toNat_lt
  have hne : ((a : Int) == (s.size : Int)) = false := by rw [beq_eq_false_iff_ne]; omega
  have hb1 : decide ((a : Int) < 0) = false := by simp
  have hb2 : decide (s.size < a) = false := by simp; omega
  clear hk
  have hu1 := un_bd s a 8 (by omega)
  have HK3 := Lib.hid hk3
  clear hk3
  go_enter Tryd.func71, Tryd.ntmps71
  go_wp2
  go_rounds 4
  go_loop [10, 11] (fun v10 v11 => ∃ j : Nat, 1 ≤ j ∧ j ≤ 8 ∧ v11 = .int .i64 j ∧ v10 = .int .u64 (un s a j)) (fun _ v11 => 8 - (intOf v11).toNat)
  case atStart => exact ⟨1, Nat.le_refl _, by decide, rfl, by rw [← HK3.out]⟩
  case round =>
    obtain ⟨j, hj1, hj, rfl, rfl⟩ := hrel
    clear hk1 hk2
    by_cases hlt : j < 8
    · have hu := un_bd7 s a j (by omega)
      have haj : a + j < s.size := by omega
      have hbk := byt_bd s (a + j)
      have hby : ((s[a + j]'haj).toNat : Int) < 256 := by rw [byt_at s (a + j) haj]; omega
      have HU : Hid (un s a (j + 1) = un s a j * 256 + ((s[a + j]'haj).toNat : Int)) := by
        show un s a (j + 1) = un s a j * 256 + ((s[a + j]'haj).toNat : Int)
        rw [un_succ s a j hj1, byt_at s (a + j) haj]
      go_wp2
      go_round
      case rel => exact ⟨j + 1, by omega, by omega, by go_num, by rw [HU.out]; go_num⟩
      case measure => simp [intOf]; omega
    · obtain rfl : j = 8 := by omega
      clear hlt hj1 hj
      go_wp2_with fail
      refine (rsize2 _ hN.1 hN.2 _).mono ?_
      rintro e w1 ⟨rfl, rfl⟩
      go_wp2
      go_ret3
      exact ⟨rfl, rfl⟩
set_option maxHeartbeats 400000 in
set_option maxRecDepth 100000 in
theorem rgetO3 (s : ByteArray) (a : Nat) (ha : a < s.size) (_hm : s.size ≤ maxLen) (w : World) (hk : byt s a / 64 = 3) (_hW : 8 ≤ s.size - a) (hN : 1073741824 ≤ un s a 8 ∧ un s a 8 < 4611686018427387904) : Calls Tryd.prog 71 #[.string s, .int .i64 a] w fun e w' => e = .returned (.tuple #[.int .u64 (un s a 8), .int .i64 ((a : Int) + 8), .int .i64 0]) ∧ w = w' := by
  unfold maxLen at _hm
  have hk1 : ((s[a]'ha).toNat : Int) / 64 = 3 := by rw [byt_at s a ha]; exact hk
  have hk3 : ((s[a]'ha).toNat : Int) % 64 = un s a 1 := by rw [byt_at s a ha]; rfl
  have hk2 : (s[a]'ha).toNat < 256 := (s[a]'ha).toNat_lt
  have hne : ((a : Int) == (s.size : Int)) = false := by rw [beq_eq_false_iff_ne]; omega
  have hb1 : decide ((a : Int) < 0) = false := by simp
  have hb2 : decide (s.size < a) = false := by simp; omega
  clear hk
  have hu1 := un_bd s a 8 (by omega)
  have HK3 := Lib.hid hk3
  clear hk3
  go_enter Tryd.func71, Tryd.ntmps71
  go_wp2
  go_rounds 4
  go_loop [10, 11] (fun v10 v11 => ∃ j : Nat, 1 ≤ j ∧ j ≤ 8 ∧ v11 = .int .i64 j ∧ v10 = .int .u64 (un s a j)) (fun _ v11 => 8 - (intOf v11).toNat)
  case atStart => exact ⟨1, Nat.le_refl _, by decide, rfl, by rw [← HK3.out]⟩
  case round =>
    obtain ⟨j, hj1, hj, rfl, rfl⟩ := hrel
    clear hk1 hk2
    by_cases hlt : j < 8
    · have hu := un_bd7 s a j (by omega)
      have haj : a + j < s.size := by omega
      have hbk := byt_bd s (a + j)
      have hby : ((s[a + j]'haj).toNat : Int) < 256 := by rw [byt_at s (a + j) haj]; omega
      have HU : Hid (un s a (j + 1) = un s a j * 256 + ((s[a + j]'haj).toNat : Int)) := by
        show un s a (j + 1) = un s a j * 256 + ((s[a + j]'haj).toNat : Int)
        rw [un_succ s a j hj1, byt_at s (a + j) haj]
      go_wp2
      go_round
      case rel => exact ⟨j + 1, by omega, by omega, by go_num, by rw [HU.out]; go_num⟩
      case measure => simp [intOf]; omega
    · obtain rfl : j = 8 := by omega
      clear hlt hj1 hj
      go_wp2_with fail
      refine (rsize3 _ hN.1 hN.2 _).mono ?_
      rintro e w1 ⟨rfl, rfl⟩
      go_wp2
      go_ret3
      exact ⟨rfl, rfl⟩
/-- The document's Get. -/
theorem rget_any (s : ByteArray) (a : Int) (hm : s.size ≤ maxLen) (w : World) : Calls Tryd.prog 71 #[.string s, .int .i64 a] w fun e w' => e = .returned (.tuple #[.int .u64 (getS s a).1, .int .i64 (getS s a).2.1, .int .i64 (getS s a).2.2]) ∧ w = w' := by
  by_cases h1 : a < 0 ∨ (s.size : Int) < a
  · have e : getS s a = (0, 0, 1) := if_pos h1
    rw [e]
    exact rgetRange s a h1 w
  obtain ⟨p, rfl⟩ : ∃ p : Nat, a = p := ⟨a.toNat, by omega⟩
  have hp : p ≤ s.size := by omega
  by_cases h2 : p = s.size
  · subst h2
    have e : getS s (s.size : Int) = (0, 0, 2) := by
      unfold getS
      rw [if_neg h1, Int.toNat_natCast, byt_end _ _ (Nat.le_refl _), if_pos (by simp [wid])]
    rw [e]
    exact rgetEnd s hm w
  have hps : p < s.size := by omega
  have hb := byt_bd s p
  have hcut : ∀ W, wid (byt s p) = W → s.size - p < W → getS s (p : Int) = (0, 0, 2) := fun W hw hl => by
    unfold getS
    rw [if_neg h1, Int.toNat_natCast, hw, if_pos (by omega)]
  have hlong : ∀ W, wid (byt s p) = W → W ≤ s.size - p → un s p W < lo W → getS s (p : Int) = (0, 0, 3) := fun W hw hl hu => by
    unfold getS
    rw [if_neg h1, Int.toNat_natCast, hw, if_neg (by omega), if_pos hu]
  have hok : ∀ W, wid (byt s p) = W → W ≤ s.size - p → lo W ≤ un s p W → getS s (p : Int) = (un s p W, (p : Int) + W, 0) := fun W hw hl hu => by
    unfold getS
    rw [if_neg h1, Int.toNat_natCast, hw, if_neg (by omega), if_neg (by omega)]
  have hkk : byt s p / 64 = 0 ∨ byt s p / 64 = 1 ∨ byt s p / 64 = 2 ∨ byt s p / 64 = 3 := by omega
  rcases hkk with hk | hk | hk | hk
  · have hw : wid (byt s p) = 1 := by unfold wid; (repeat' split) <;> omega
    have hu := un1 s p
    rw [hok _ hw (by omega) (by unfold lo; simp; omega)]
    exact rgetO0 s p hps hm w hk (by omega) ⟨by omega, by omega⟩
  · have hw : wid (byt s p) = 2 := by unfold wid; (repeat' split) <;> omega
    have hu := un2 s p
    by_cases hl : s.size - p < 2
    · rw [hcut _ hw hl]; exact rgetC1 s p hps hm w hk hl
    by_cases hn0 : un s p 2 < 64
    · rw [hlong _ hw (by omega) (by unfold lo; simp; omega)]; exact rgetL10 s p hps hm w hk (by omega) ⟨by omega, hn0⟩
    rw [hok _ hw (by omega) (by unfold lo; simp; omega)]
    exact rgetO1 s p hps hm w hk (by omega) ⟨by omega, by omega⟩
  · have hw : wid (byt s p) = 4 := by unfold wid; (repeat' split) <;> omega
    have hu := un4 s p
    by_cases hl : s.size - p < 4
    · rw [hcut _ hw hl]; exact rgetC2 s p hps hm w hk hl
    by_cases hn0 : un s p 4 < 64
    · rw [hlong _ hw (by omega) (by unfold lo; simp; omega)]; exact rgetL20 s p hps hm w hk (by omega) ⟨by omega, hn0⟩
    by_cases hn1 : un s p 4 < 16384
    · rw [hlong _ hw (by omega) (by unfold lo; simp; omega)]; exact rgetL21 s p hps hm w hk (by omega) ⟨by omega, hn1⟩
    rw [hok _ hw (by omega) (by unfold lo; simp; omega)]
    exact rgetO2 s p hps hm w hk (by omega) ⟨by omega, by omega⟩
  · have hw : wid (byt s p) = 8 := by unfold wid; (repeat' split) <;> omega
    have hu := un_bd s p 8 (by omega)
    by_cases hl : s.size - p < 8
    · rw [hcut _ hw hl]; exact rgetC3 s p hps hm w hk hl
    by_cases hn0 : un s p 8 < 64
    · rw [hlong _ hw (by omega) (by unfold lo; simp; omega)]; exact rgetL30 s p hps hm w hk (by omega) ⟨by omega, hn0⟩
    by_cases hn1 : un s p 8 < 16384
    · rw [hlong _ hw (by omega) (by unfold lo; simp; omega)]; exact rgetL31 s p hps hm w hk (by omega) ⟨by omega, hn1⟩
    by_cases hn2 : un s p 8 < 1073741824
    · rw [hlong _ hw (by omega) (by unfold lo; simp; omega)]; exact rgetL32 s p hps hm w hk (by omega) ⟨by omega, hn2⟩
    rw [hok _ hw (by omega) (by unfold lo; simp; omega)]
    exact rgetO3 s p hps hm w hk (by omega) ⟨by omega, by omega⟩
end Go.Proofs.YtcknklodnfabpaaDoor
