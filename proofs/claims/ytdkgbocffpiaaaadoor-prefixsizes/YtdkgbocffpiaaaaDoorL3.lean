/- The walks of the laws PrefixSigned, PrefixSizes. -/
import Derived.Test.YtdkgbocffpiaaaaDoorA6
import Derived.Test.YtdkgbocffpiaaaaDoorW8
namespace Go.Proofs.YtdkgbocffpiaaaaDoor
open Go Go.RowKit
theorem zag_zig (n : Int) : zagS (zigS n) = n := by
  unfold zagS zigS
  (repeat' split) <;> omega
theorem zig_zag (m : Int) (h : 0 ≤ m) : zigS (zagS m) = m := by
  unfold zagS zigS
  (repeat' split) <;> omega
theorem zagS_bd (m : Int) (h0 : 0 ≤ m) (h1 : m < 4611686018427387904) : -2305843009213693952 ≤ zagS m ∧ zagS m < 2305843009213693952 := by
  unfold zagS
  split <;> omega
theorem zigS_bd (n : Int) (h0 : -2305843009213693952 ≤ n) (h1 : n < 2305843009213693952) : 0 ≤ zigS n ∧ zigS n < 4611686018427387904 := by
  unfold zigS
  split <;> omega
theorem zag_of (z n : Int) (h0 : 0 ≤ z) (h1 : z < 4611686018427387904) (e : zagS z = n) (w : World) (h : Wd w) : Calls Tryd.prog 20 #[.int .u64 z] w fun e w' => e = .returned (.int .i64 n) ∧ w = w' := by
  subst e; exact zag_yes z h0 h1 w h
theorem zig_of (n z : Int) (h0 : -2305843009213693952 ≤ n) (h1 : n < 2305843009213693952) (e : zigS n = z) (w : World) (h : Wd w) : Calls Tryd.prog 18 #[.int .i64 n] w fun e w' => e = .returned (.tuple #[.int .u64 z, .bool true]) ∧ w = w' := by
  subst e; exact zig_yes n h0 h1 w h
/-- What the law is told of Zig at n, of both. -/
theorem zig_both (n : Int) (hb : -9223372036854775808 ≤ n ∧ n ≤ 9223372036854775807) : ∃ (z : Int) (b : Bool), (b = true → 0 ≤ z ∧ z < 4611686018427387904 ∧ zagS z = n) ∧
    (∀ w, Wd w → Calls Tryd.prog 18 #[.int .i64 n] w fun e w' => e = .returned (.tuple #[.int .u64 z, .bool b]) ∧ w = w') ∧
    (∀ w, Calls Tryd.prog 19 #[.int .i64 n] w fun e w' => e = .returned (.tuple #[.int .u64 z, .bool b]) ∧ w = w') := by
  by_cases h : -2305843009213693952 ≤ n ∧ n < 2305843009213693952
  · have := zigS_bd n h.1 h.2
    exact ⟨zigS n, true, fun _ => ⟨this.1, this.2, zag_zig n⟩, fun w hw => zig_yes n h.1 h.2 w hw, fun w => rzig_yes n h.1 h.2 w⟩
  · exact ⟨0, false, (fun h => by cases h), fun w hw => zig_no n hb.1 hb.2 (by omega) w hw, fun w => rzig_no n (by omega) w⟩
/-- What the law is told of Zag at m, of both, and of Zig at that. -/
theorem zag_both (m : Int) (h0 : 0 ≤ m) : ∃ (x z : Int), (m < 4611686018427387904 → z = m) ∧
    (∀ w, Wd w → Calls Tryd.prog 20 #[.int .u64 m] w fun e w' => e = .returned (.int .i64 x) ∧ w = w') ∧
    (∀ w, Calls Tryd.prog 21 #[.int .u64 m] w fun e w' => e = .returned (.int .i64 x) ∧ w = w') ∧
    (∀ w, Wd w → Calls Tryd.prog 18 #[.int .i64 x] w fun e w' => e = .returned (.tuple #[.int .u64 z, .bool true]) ∧ w = w') := by
  by_cases h : m < 4611686018427387904
  · have := zagS_bd m h0 h
    exact ⟨zagS m, m, fun _ => rfl, fun w hw => zag_yes m h0 h w hw, fun w => rzag_yes m h0 h w, fun w hw => zig_of _ _ this.1 this.2 (zig_zag m h0) w hw⟩
  · exact ⟨0, 0, fun h' => absurd h' h, fun w hw => zag_no m (by omega) w hw, fun w => rzag_no m (by omega) w, fun w hw => zig_of 0 0 (by omega) (by omega) rfl w hw⟩
set_option maxHeartbeats 1000000 in
set_option maxRecDepth 100000 in
theorem walkSigned (n m : Int) (hb : -9223372036854775808 ≤ n ∧ n ≤ 9223372036854775807) (h0 : 0 ≤ m) (w : World) (h : Wd w) : Calls Tryd.prog 8 #[.int .i64 n, .int .u64 m] w fun e w' => e = .returned (.bool true) ∧ Below w.heap.size w w' := by
  obtain ⟨z, b, hz, q1, q2⟩ := zig_both n hb
  obtain ⟨x, y, hy, r1, r2, r3⟩ := zag_both m h0
  have Q1 := Lib.hid q1
  have Q2 := Lib.hid q2
  have R1 := Lib.hid r1
  have R2 := Lib.hid r2
  have R3 := Lib.hid r3
  have HZ := Lib.hid hz
  have HY := Lib.hid hy
  clear q1 q2 r1 r2 r3 hz hy
  by_cases hm : m < 4611686018427387904
  · obtain rfl := HY.out hm
    cases b
    · go_enter Tryd.func8, Tryd.ntmps8
      go_wp2_with fail
      refine (Q1.out _ h).mono ?_
      rintro e w1 ⟨rfl, rfl⟩
      go_wp2_with fail
      refine (Q2.out _).mono ?_
      rintro e w1 ⟨rfl, rfl⟩
      go_wp2_with fail
      refine (awake_yes _ h).mono ?_
      rintro e w3 ⟨rfl, hb3⟩
      have h3 := h.below hb3
      have HB3 := Lib.hid hb3
      clear hb3
      go_wp2_with fail
      refine (R1.out _ h3).mono ?_
      rintro e w1 ⟨rfl, rfl⟩
      go_wp2_with fail
      refine (R2.out _).mono ?_
      rintro e w1 ⟨rfl, rfl⟩
      go_wp2_with fail
      refine (R1.out _ h3).mono ?_
      rintro e w1 ⟨rfl, rfl⟩
      go_wp2_with fail
      refine (R3.out _ h3).mono ?_
      rintro e w1 ⟨rfl, rfl⟩
      go_wp2
      go_ret
      exact ⟨rfl, HB3.out⟩
    · have ZN := Lib.hid (fun w hw => zag_of z n (HZ.out rfl).1 (HZ.out rfl).2.1 (HZ.out rfl).2.2 w hw)
      clear HZ
      go_enter Tryd.func8, Tryd.ntmps8
      go_wp2_with fail
      refine (Q1.out _ h).mono ?_
      rintro e w1 ⟨rfl, rfl⟩
      go_wp2_with fail
      refine (Q2.out _).mono ?_
      rintro e w1 ⟨rfl, rfl⟩
      go_wp2_with fail
      refine (awake_yes _ h).mono ?_
      rintro e w3 ⟨rfl, hb3⟩
      have h3 := h.below hb3
      have HB3 := Lib.hid hb3
      clear hb3
      go_wp2_with fail
      refine (R1.out _ h3).mono ?_
      rintro e w1 ⟨rfl, rfl⟩
      go_wp2_with fail
      refine (R2.out _).mono ?_
      rintro e w1 ⟨rfl, rfl⟩
      go_wp2_with fail
      refine (ZN.out _ h3).mono ?_
      rintro e w1 ⟨rfl, rfl⟩
      go_wp2_with fail
      refine (R1.out _ h3).mono ?_
      rintro e w1 ⟨rfl, rfl⟩
      go_wp2_with fail
      refine (R3.out _ h3).mono ?_
      rintro e w1 ⟨rfl, rfl⟩
      go_wp2
      go_ret
      exact ⟨rfl, HB3.out⟩
  · cases b
    · go_enter Tryd.func8, Tryd.ntmps8
      go_wp2_with fail
      refine (Q1.out _ h).mono ?_
      rintro e w1 ⟨rfl, rfl⟩
      go_wp2_with fail
      refine (Q2.out _).mono ?_
      rintro e w1 ⟨rfl, rfl⟩
      go_wp2_with fail
      refine (awake_yes _ h).mono ?_
      rintro e w3 ⟨rfl, hb3⟩
      have h3 := h.below hb3
      have HB3 := Lib.hid hb3
      clear hb3
      go_wp2_with fail
      refine (R1.out _ h3).mono ?_
      rintro e w1 ⟨rfl, rfl⟩
      go_wp2_with fail
      refine (R2.out _).mono ?_
      rintro e w1 ⟨rfl, rfl⟩
      go_wp2_with fail
      refine (R1.out _ h3).mono ?_
      rintro e w1 ⟨rfl, rfl⟩
      go_wp2_with fail
      refine (R3.out _ h3).mono ?_
      rintro e w1 ⟨rfl, rfl⟩
      go_wp2
      go_ret
      exact ⟨rfl, HB3.out⟩
    · have ZN := Lib.hid (fun w hw => zag_of z n (HZ.out rfl).1 (HZ.out rfl).2.1 (HZ.out rfl).2.2 w hw)
      clear HZ
      go_enter Tryd.func8, Tryd.ntmps8
      go_wp2_with fail
      refine (Q1.out _ h).mono ?_
      rintro e w1 ⟨rfl, rfl⟩
      go_wp2_with fail
      refine (Q2.out _).mono ?_
      rintro e w1 ⟨rfl, rfl⟩
      go_wp2_with fail
      refine (awake_yes _ h).mono ?_
      rintro e w3 ⟨rfl, hb3⟩
      have h3 := h.below hb3
      have HB3 := Lib.hid hb3
      clear hb3
      go_wp2_with fail
      refine (R1.out _ h3).mono ?_
      rintro e w1 ⟨rfl, rfl⟩
      go_wp2_with fail
      refine (R2.out _).mono ?_
      rintro e w1 ⟨rfl, rfl⟩
      go_wp2_with fail
      refine (ZN.out _ h3).mono ?_
      rintro e w1 ⟨rfl, rfl⟩
      go_wp2_with fail
      refine (R1.out _ h3).mono ?_
      rintro e w1 ⟨rfl, rfl⟩
      go_wp2_with fail
      refine (R3.out _ h3).mono ?_
      rintro e w1 ⟨rfl, rfl⟩
      go_wp2
      go_ret
      exact ⟨rfl, HB3.out⟩
end Go.Proofs.YtdkgbocffpiaaaaDoor
