/- The walks of UpdateBack, UpdateOne. -/
import Derived.Test.YtpdpmdbdnpemnaaDoorULP
import Derived.Test.YtpdpmdbdnpemnaaDoorUN
namespace Go.Proofs.YtpdpmdbdnpemnaaDoor
open Go Go.RowKit
set_option maxHeartbeats 1000000 in
theorem walkBack (u : Up) (w : World) (hd : Wd w) : Calls Tryd.prog 5 #[uu u] w fun e w' => e = .returned (.bool true) ∧ Below w.heap.size w w' := by
  have HG1 := Lib.hid (fun h w => great_u_yes u h w)
  have HG2 := Lib.hid (fun h w => great_u_no u h w)
  by_cases hgg : gU u
  · have HG := Lib.hid (HG1.out hgg)
    clear HG1 HG2 hgg
    obtain ⟨key, x, n, s⟩ := u
    simp only [uu] at *
    have HD0 := Lib.hid (hd.alloc (.cells #[.string key, .int .i64 x, .int .i64 n, .string s] 23))
    have HB0 := Lib.hid (Joins.below_alloc1 w (.cells #[.string key, .int .i64 x, .int .i64 n, .string s] 23))
    have HU0 := Lib.hid (Ub.new w (key, x, n, s))
    clear hd
    go_enter Tryd.func5, Tryd.ntmps5
    go_wp2_with fail
    refine (awake_yes _ HD0.out).mono ?_
    rintro e w1 ⟨rfl, hb⟩
    have hU1 := HU0.out.below hb HU0.out.lt
    have c0 := hU1.c0
    have c1 := hU1.c1
    have c2 := hU1.c2
    have c3 := hU1.c3
    have HU1 := Lib.hid hU1
    have HD1 := Lib.hid (HD0.out.below hb)
    have HB1 := Lib.hid (Below.next HB0.out hb)
    clear hb hU1 HU0 HD0 HB0
    go_wp2_with fail
    refine (HG.out _).mono ?_
    rintro e w2 ⟨rfl, hb⟩
    have HD2 := Lib.hid (HD1.out.below hb)
    have HB2 := Lib.hid (Below.next HB1.out hb)
    clear hb  HD1 HB1
    clear HU1 c0 c1 c2 c3 HG
    go_wp2_with fail
    refine (awake_yes _ HD2.out).mono ?_
    rintro e w3 ⟨rfl, hb⟩
    have HD3 := Lib.hid (HD2.out.below hb)
    have HB3 := Lib.hid (Below.next HB2.out hb)
    clear hb  HD2 HB2
    go_wp2
    go_ret
    exact ⟨rfl, HB3.out⟩
  have HG := Lib.hid (HG2.out hgg)
  clear HG1 HG2 hgg
  have HM := Lib.hid (fun w h => uput_any u w h)
  by_cases hu : mayE u = 0
  · have HQ := Lib.hid (fun w h => uget_any (putB u) (by unfold putB; rw [if_pos hu]; have := pxU_52 u hu; omega) w h)
    have e1 : putB u = pxU u := if_pos hu
    have hb := back_get u hu
    have h52 := pxU_52 u hu
    rw [e1] at HQ HM
    rw [hb.1, hb.2] at HQ
    rw [hu] at HM
    clear hb e1
    generalize pxU u = px at *
    have q1 : decide ((px.size : Int) ≤ 52) = true := decide_eq_true (by omega)
    clear hu
    obtain ⟨key, x, n, s⟩ := u
    simp only [uu] at *
    have HD0 := Lib.hid (hd.alloc (.cells #[.string key, .int .i64 x, .int .i64 n, .string s] 23))
    have HB0 := Lib.hid (Joins.below_alloc1 w (.cells #[.string key, .int .i64 x, .int .i64 n, .string s] 23))
    have HU0 := Lib.hid (Ub.new w (key, x, n, s))
    clear hd
    go_enter Tryd.func5, Tryd.ntmps5
    go_wp2_with fail
    refine (awake_yes _ HD0.out).mono ?_
    rintro e w1 ⟨rfl, hb⟩
    have hU1 := HU0.out.below hb HU0.out.lt
    have c0 := hU1.c0
    have c1 := hU1.c1
    have c2 := hU1.c2
    have c3 := hU1.c3
    have HU1 := Lib.hid hU1
    have HD1 := Lib.hid (HD0.out.below hb)
    have HB1 := Lib.hid (Below.next HB0.out hb)
    clear hb hU1 HU0 HD0 HB0
    go_wp2_with fail
    refine (HG.out _).mono ?_
    rintro e w2 ⟨rfl, hb⟩
    have hU2 := HU1.out.below hb HU1.out.lt
    have c0 := hU2.c0
    have c1 := hU2.c1
    have c2 := hU2.c2
    have c3 := hU2.c3
    have HU2 := Lib.hid hU2
    have HD2 := Lib.hid (HD1.out.below hb)
    have HB2 := Lib.hid (Below.next HB1.out hb)
    clear hb hU2 HU1 HD1 HB1
    go_wp2_with fail
    refine (HM.out _ HD2.out).mono ?_
    rintro e w3 ⟨rfl, hb⟩
    have hU3 := HU2.out.below hb HU2.out.lt
    have c0 := hU3.c0
    have c1 := hU3.c1
    have c2 := hU3.c2
    have c3 := hU3.c3
    have HU3 := Lib.hid hU3
    have HD3 := Lib.hid (HD2.out.below hb)
    have HB3 := Lib.hid (Below.next HB2.out hb)
    clear hb hU3 HU2 HD2 HB2
    go_wp2_with fail
    refine (HQ.out _ HD3.out).mono ?_
    rintro e w4 ⟨rfl, hb⟩
    have hU4 := (HU3.out.below hb HU3.out.lt).alloc (.cells #[.string key, .int .i64 x, .int .i64 n, .string s] 23)
    have hV4 := Ub.new w4 (key, x, n, s)
    have hB4 := Below.next HB3.out hb
    have HB4 := Lib.hid (hB4.alloc hB4.size (.cells #[.string key, .int .i64 x, .int .i64 n, .string s] 23))
    have c0 := hU4.c0
    have c1 := hU4.c1
    have c2 := hU4.c2
    have c3 := hU4.c3
    have d0 := hV4.c0
    have d1 := hV4.c1
    have d2 := hV4.c2
    have d3 := hV4.c3
    clear hb hB4 hU4 hV4 HU3 HB3 HD3
    go_wp2
    go_ret
    exact ⟨rfl, HB4.out⟩
  · have e1 : putB u = ⟨#[]⟩ := if_neg hu
    rw [e1] at HM
    clear e1
    have k1 : (mayE u == 0) = false := by rw [beq_eq_false_iff_ne]; exact hu
    generalize mayE u = me at *
    obtain ⟨key, x, n, s⟩ := u
    simp only [uu] at *
    have HD0 := Lib.hid (hd.alloc (.cells #[.string key, .int .i64 x, .int .i64 n, .string s] 23))
    have HB0 := Lib.hid (Joins.below_alloc1 w (.cells #[.string key, .int .i64 x, .int .i64 n, .string s] 23))
    have HU0 := Lib.hid (Ub.new w (key, x, n, s))
    clear hd
    go_enter Tryd.func5, Tryd.ntmps5
    go_wp2_with fail
    refine (awake_yes _ HD0.out).mono ?_
    rintro e w1 ⟨rfl, hb⟩
    have hU1 := HU0.out.below hb HU0.out.lt
    have c0 := hU1.c0
    have c1 := hU1.c1
    have c2 := hU1.c2
    have c3 := hU1.c3
    have HU1 := Lib.hid hU1
    have HD1 := Lib.hid (HD0.out.below hb)
    have HB1 := Lib.hid (Below.next HB0.out hb)
    clear hb hU1 HU0 HD0 HB0
    go_wp2_with fail
    refine (HG.out _).mono ?_
    rintro e w2 ⟨rfl, hb⟩
    have hU2 := HU1.out.below hb HU1.out.lt
    have c0 := hU2.c0
    have c1 := hU2.c1
    have c2 := hU2.c2
    have c3 := hU2.c3
    have HU2 := Lib.hid hU2
    have HD2 := Lib.hid (HD1.out.below hb)
    have HB2 := Lib.hid (Below.next HB1.out hb)
    clear hb hU2 HU1 HD1 HB1
    go_wp2_with fail
    refine (HM.out _ HD2.out).mono ?_
    rintro e w3 ⟨rfl, hb⟩
    have HD3 := Lib.hid (HD2.out.below hb)
    have HB3 := Lib.hid (Below.next HB2.out hb)
    clear hb  HD2 HB2
    go_wp2
    go_ret
    exact ⟨rfl, HB3.out⟩
set_option maxHeartbeats 1000000 in
theorem walkOne (s : ByteArray) (w : World) (hd : Wd w) : Calls Tryd.prog 6 #[.string s] w fun e w' => e = .returned (.bool true) ∧ Below w.heap.size w w' := by
  by_cases hs : 300 < s.size
  · have q1 : decide ((300 : Int) < (s.size : Int)) = true := decide_eq_true (by omega)
    go_enter Tryd.func6, Tryd.ntmps6
    go_wp2_with fail
    refine (awake_yes _ hd).mono ?_
    rintro e w1 ⟨rfl, hb⟩
    have HD1 := Lib.hid (hd.below hb)
    have HB1 := Lib.hid hb
    clear hb
    go_wp2_with fail
    refine (awake_yes _ HD1.out).mono ?_
    rintro e w2 ⟨rfl, hb⟩
    have HD2 := Lib.hid (HD1.out.below hb)
    have HB2 := Lib.hid (Below.next HB1.out hb)
    clear hb  HD1 HB1
    go_wp2
    go_ret
    exact ⟨rfl, HB2.out⟩
  have q1 : decide ((300 : Int) < (s.size : Int)) = false := decide_eq_false (by omega)
  have HM := Lib.hid (fun w h => uget_any s (by omega) w h)
  by_cases hg : getE s = 0
  · obtain ⟨h1, h2⟩ := one_get s hg
    have HP := Lib.hid (fun w h => uput_any (getU s) w h)
    have HR := Lib.hid (fun w => rmay_any (getU s) w)
    rw [h1, h2] at HP
    rw [h1] at HR
    rw [hg] at HM
    clear h1 h2 hg
    generalize getU s = u at *
    obtain ⟨key, x, n, t⟩ := u
    simp only [uu] at *
    go_enter Tryd.func6, Tryd.ntmps6
    go_wp2_with fail
    refine (awake_yes _ hd).mono ?_
    rintro e w1 ⟨rfl, hb⟩
    have HD1 := Lib.hid (hd.below hb)
    have HB1 := Lib.hid hb
    clear hb
    go_wp2_with fail
    refine (HM.out _ HD1.out).mono ?_
    rintro e w2 ⟨rfl, hb⟩
    have HD2 := Lib.hid ((HD1.out.below hb).alloc (.cells #[.string key, .int .i64 x, .int .i64 n, .string t] 23))
    have hV2 := Ub.new w2 (key, x, n, t)
    have hB2 := Below.next HB1.out hb
    have HB2 := Lib.hid (hB2.alloc hB2.size (.cells #[.string key, .int .i64 x, .int .i64 n, .string t] 23))
    have c0 := hV2.c0
    have c1 := hV2.c1
    have c2 := hV2.c2
    have c3 := hV2.c3
    have HU2 := Lib.hid hV2
    clear hb hB2 hV2 HB1 HD1
    go_wp2_with fail
    refine (HP.out _ HD2.out).mono ?_
    rintro e w3 ⟨rfl, hb⟩
    have hU3 := HU2.out.below hb HU2.out.lt
    have c0 := hU3.c0
    have c1 := hU3.c1
    have c2 := hU3.c2
    have c3 := hU3.c3
    have HU3 := Lib.hid hU3
    have HD3 := Lib.hid (HD2.out.below hb)
    have HB3 := Lib.hid (Below.next HB2.out hb)
    clear hb hU3 HU2 HD2 HB2
    go_wp2_with fail
    refine (HR.out _).mono ?_
    rintro e w4 ⟨rfl, hb⟩
    have HD4 := Lib.hid (HD3.out.below hb)
    have HB4 := Lib.hid (Below.next HB3.out hb)
    clear hb  HD3 HB3
    go_wp2
    go_ret
    exact ⟨rfl, HB4.out⟩
  · rw [show getU s = up0 by unfold getU; rw [if_pos hg]] at HM
    have k1 : (getE s == 0) = false := by rw [beq_eq_false_iff_ne]; exact hg
    generalize getE s = ge at *
    simp only [uu, up0] at HM
    go_enter Tryd.func6, Tryd.ntmps6
    go_wp2_with fail
    refine (awake_yes _ hd).mono ?_
    rintro e w1 ⟨rfl, hb⟩
    have HD1 := Lib.hid (hd.below hb)
    have HB1 := Lib.hid hb
    clear hb
    go_wp2_with fail
    refine (HM.out _ HD1.out).mono ?_
    rintro e w2 ⟨rfl, hb⟩
    have hB2 := Below.next HB1.out hb
    have HB2 := Lib.hid (hB2.alloc hB2.size (.cells #[.string ⟨#[]⟩, .int .i64 0, .int .i64 0, .string ⟨#[]⟩] 23))
    clear hb hB2 HB1 HD1
    go_wp2
    go_ret
    exact ⟨rfl, HB2.out⟩
end Go.Proofs.YtpdpmdbdnpemnaaDoor
