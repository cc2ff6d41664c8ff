/- The walk of ValueAll: the ways out ahead of the loop. -/
import Derived.Test.YtimilojognidlaaVA
import Derived.Test.YtimilojognidlaaVG
namespace Go.Proofs.Ytimilojognidlaa
open Go Go.RowKit
theorem one_v_kept {w w1 : World} {v : Vl} (hb : Below (w.alloc (.cells #[.int .i64 v.1, .int .i64 v.2.1, .string v.2.2] 23)).heap.size (w.alloc (.cells #[.int .i64 v.1, .int .i64 v.2.1, .string v.2.2] 23)) w1) : Vb w1 w.heap.size v ∧ Below w.heap.size w w1 :=
  ⟨kept_at (heap_alloc_new w _) hb, (Joins.below_alloc1 w _).trans (hb.mono (by simp))⟩
theorem one_v_next {w W w1 w2 : World} {v : Vl} {b : Nat} (h : Vb w1 b v ∧ Below w.heap.size w w1) (hb : Below W.heap.size W w2) (e1 : W.os = w1.os) (e2 : W.tape = w1.tape) (e3 : W.output = w1.output) (e4 : W.heap = w1.heap) : Vb w2 b v ∧ Below w.heap.size w w2 :=
  ⟨h.1.kept hb e4, Below.far hb h.2 e1 e2 e3 e4⟩
set_option maxHeartbeats 2000000 in
theorem all_v (v : Vl) (a : Option Addr) (len cap : Nat) (us : List Up) (at_ : Int) (hi : ¬ isV v) (w : World) (hu : IsUs w a len us) : Calls Try.prog 5 #[vv v, .slice a len cap, .int .i64 at_] w fun e w' => e = .returned (.bool true) ∧ Below w.heap.size w w' := by
  have HU := Lib.hid hu
  clear hu
  have HI := fun w => Lib.hid (is_no v hi w)
  clear hi HU
  obtain ⟨vk, vn, vs⟩ := v
  simp only [vv_eq] at *
  go_enter Try.func5, Try.ntmps5
  go_wp2_with fail
  refine (awake_yes _).mono ?_
  rintro e w1 ⟨rfl, hb⟩
  have h1 := one_v_kept (v := (vk, vn, vs)) hb
  obtain ⟨c0, c1, c2⟩ := Vb.c h1.1
  have H := Lib.hid h1
  clear hb h1
  go_wp2_with fail
  refine (HI _).out.mono ?_
  rintro e wx ⟨rfl, hb⟩
  have H2 := Lib.hid (one_v_next H.out hb rfl rfl rfl rfl)
  clear hb H c0 c1 c2
  go_wp2_with fail
  refine (awake_yes _).mono ?_
  rintro e wz ⟨rfl, hb⟩
  have HZ := Lib.hid (one_v_next H2.out hb rfl rfl rfl rfl)
  clear hb
  go_wp2
  go_ret
  exact ⟨rfl, HZ.out.2⟩
set_option maxHeartbeats 2000000 in
theorem all_g (v : Vl) (a : Option Addr) (len cap : Nat) (us : List Up) (at_ : Int) (hi : isV v) (hg : gAll len us) (w : World) (hu : IsUs w a len us) : Calls Try.prog 5 #[vv v, .slice a len cap, .int .i64 at_] w fun e w' => e = .returned (.bool true) ∧ Below w.heap.size w w' := by
  have HU := Lib.hid hu
  clear hu
  have HI := fun w => Lib.hid (is_yes v hi w)
  have HG := fun w h => Lib.hid (greatAll_yes a len cap us hg w h)
  clear hi hg
  obtain ⟨vk, vn, vs⟩ := v
  simp only [vv_eq] at *
  go_enter Try.func5, Try.ntmps5
  go_wp2_with fail
  refine (awake_yes _).mono ?_
  rintro e w1 ⟨rfl, hb⟩
  have h1 := one_v_kept (v := (vk, vn, vs)) hb
  obtain ⟨c0, c1, c2⟩ := Vb.c h1.1
  have H := Lib.hid h1
  clear hb h1
  go_wp2_with fail
  refine (HI _).out.mono ?_
  rintro e wx ⟨rfl, hb⟩
  have H2 := Lib.hid (one_v_next H.out hb rfl rfl rfl rfl)
  clear hb H c0 c1 c2
  go_wp2_with fail
  refine (HG _ (isUs_below HU.out H2.out.2)).out.mono ?_
  rintro e wy ⟨rfl, hb⟩
  have H3 := Lib.hid (one_v_next H2.out hb rfl rfl rfl rfl)
  clear hb H2
  go_wp2_with fail
  refine (awake_yes _).mono ?_
  rintro e wz ⟨rfl, hb⟩
  have HZ := Lib.hid (one_v_next H3.out hb rfl rfl rfl rfl)
  clear hb
  go_wp2
  go_ret
  exact ⟨rfl, HZ.out.2⟩
set_option maxHeartbeats 2000000 in
theorem all_l (v : Vl) (a : Option Addr) (len cap : Nat) (us : List Up) (at_ : Int) (hi : isV v) (hg : ¬ gAll len us) (ha : at_ < 0) (w : World) (hu : IsUs w a len us) : Calls Try.prog 5 #[vv v, .slice a len cap, .int .i64 at_] w fun e w' => e = .returned (.bool true) ∧ Below w.heap.size w w' := by
  have HU := Lib.hid hu
  clear hu
  have HI := fun w => Lib.hid (is_yes v hi w)
  have HG := fun w h => Lib.hid (greatAll_no a len cap us hg w h)
  have q1 : decide (at_ < (0 : Int)) = true := decide_eq_true ha
  clear hi hg
  obtain ⟨vk, vn, vs⟩ := v
  simp only [vv_eq] at *
  go_enter Try.func5, Try.ntmps5
  go_wp2_with fail
  refine (awake_yes _).mono ?_
  rintro e w1 ⟨rfl, hb⟩
  have h1 := one_v_kept (v := (vk, vn, vs)) hb
  obtain ⟨c0, c1, c2⟩ := Vb.c h1.1
  have H := Lib.hid h1
  clear hb h1
  go_wp2_with fail
  refine (HI _).out.mono ?_
  rintro e wx ⟨rfl, hb⟩
  have H2 := Lib.hid (one_v_next H.out hb rfl rfl rfl rfl)
  clear hb H c0 c1 c2
  go_wp2_with fail
  refine (HG _ (isUs_below HU.out H2.out.2)).out.mono ?_
  rintro e wy ⟨rfl, hb⟩
  have H3 := Lib.hid (one_v_next H2.out hb rfl rfl rfl rfl)
  clear hb H2
  go_wp2_with fail
  refine (awake_yes _).mono ?_
  rintro e wz ⟨rfl, hb⟩
  have HZ := Lib.hid (one_v_next H3.out hb rfl rfl rfl rfl)
  clear hb
  go_wp2
  go_ret
  exact ⟨rfl, HZ.out.2⟩
set_option maxHeartbeats 2000000 in
theorem all_h (v : Vl) (a : Option Addr) (len cap : Nat) (us : List Up) (at_ : Int) (hi : isV v) (hg : ¬ gAll len us) (ha : 0 ≤ at_) (hb : (len : Int) < at_) (w : World) (hu : IsUs w a len us) : Calls Try.prog 5 #[vv v, .slice a len cap, .int .i64 at_] w fun e w' => e = .returned (.bool true) ∧ Below w.heap.size w w' := by
  have HU := Lib.hid hu
  clear hu
  have HI := fun w => Lib.hid (is_yes v hi w)
  have HG := fun w h => Lib.hid (greatAll_no a len cap us hg w h)
  have q1 : decide (at_ < (0 : Int)) = false := decide_eq_false (by omega)
  have q2 : decide ((len : Int) < at_) = true := decide_eq_true hb
  clear hi hg hb
  obtain ⟨vk, vn, vs⟩ := v
  simp only [vv_eq] at *
  go_enter Try.func5, Try.ntmps5
  go_wp2_with fail
  refine (awake_yes _).mono ?_
  rintro e w1 ⟨rfl, hb⟩
  have h1 := one_v_kept (v := (vk, vn, vs)) hb
  obtain ⟨c0, c1, c2⟩ := Vb.c h1.1
  have H := Lib.hid h1
  clear hb h1
  go_wp2_with fail
  refine (HI _).out.mono ?_
  rintro e wx ⟨rfl, hb⟩
  have H2 := Lib.hid (one_v_next H.out hb rfl rfl rfl rfl)
  clear hb H c0 c1 c2
  go_wp2_with fail
  refine (HG _ (isUs_below HU.out H2.out.2)).out.mono ?_
  rintro e wy ⟨rfl, hb⟩
  have H3 := Lib.hid (one_v_next H2.out hb rfl rfl rfl rfl)
  clear hb H2
  go_wp2_with fail
  refine (awake_yes _).mono ?_
  rintro e wz ⟨rfl, hb⟩
  have HZ := Lib.hid (one_v_next H3.out hb rfl rfl rfl rfl)
  clear hb
  go_wp2
  go_ret
  exact ⟨rfl, HZ.out.2⟩
end Go.Proofs.Ytimilojognidlaa
