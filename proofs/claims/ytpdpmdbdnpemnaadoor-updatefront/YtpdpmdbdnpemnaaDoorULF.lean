/- The walks of UpdateFront. -/
import Derived.Test.YtpdpmdbdnpemnaaDoorULP
import Derived.Test.YtpdpmdbdnpemnaaDoorUC
namespace Go.Proofs.YtpdpmdbdnpemnaaDoor
open Go Go.RowKit
set_option maxHeartbeats 1000000 in
theorem walkFront (u : Up) (cut : Int) (w : World) (hd : Wd w) : Calls Tryd.prog 8 #[uu u, .int .i64 cut] w fun e w' => e = .returned (.bool true) ∧ Below w.heap.size w w' := by
  have HG1 := Lib.hid (fun h w => great_u_yes u h w)
  have HG2 := Lib.hid (fun h w => great_u_no u h w)
  by_cases hgg : gU u
  · have HG := Lib.hid (HG1.out hgg)
    clear HG1 HG2 hgg
    obtain ⟨key, x, n, s⟩ := u
    simp only [uu] at *
    have HD0 := Lib.hid (hd.alloc (.cells #[.string key, .int .i64 x, .int .i64 n, .string s] 23))
    have HB0 := Lib.hid (Joins.below_alloc1 w (.cells #[.string key, .int .i64 x, .int .i64 n, .string s] 23))
    have HU0 := Lib.hid (Ub.new w (key, x, n, s))
    clear hd
    go_enter Tryd.func8, Tryd.ntmps8
    go_wp2_with fail
    refine (awake_yes _ HD0.out).mono ?_
    rintro e w1 ⟨rfl, hb⟩
    have hU1 := HU0.out.below hb HU0.out.lt
    have c0 := hU1.c0
    have c1 := hU1.c1
    have c2 := hU1.c2
    have c3 := hU1.c3
    have HU1 := Lib.hid hU1
    have HD1 := Lib.hid (HD0.out.below hb)
    have HB1 := Lib.hid (Below.next HB0.out hb)
    clear hb hU1 HU0 HD0 HB0
    go_wp2_with fail
    refine (HG.out _).mono ?_
    rintro e w2 ⟨rfl, hb⟩
    have HD2 := Lib.hid (HD1.out.below hb)
    have HB2 := Lib.hid (Below.next HB1.out hb)
    clear hb  HD1 HB1
    clear HU1 c0 c1 c2 c3 HG
    go_wp2_with fail
    refine (awake_yes _ HD2.out).mono ?_
    rintro e w3 ⟨rfl, hb⟩
    have HD3 := Lib.hid (HD2.out.below hb)
    have HB3 := Lib.hid (Below.next HB2.out hb)
    clear hb  HD2 HB2
    go_wp2
    go_ret
    exact ⟨rfl, HB3.out⟩
  have HG := Lib.hid (HG2.out hgg)
  clear HG1 HG2 hgg
  have HM := Lib.hid (fun w h => uput_any u w h)
  by_cases hu : mayE u = 0
  · have e1 : putB u = pxU u := if_pos hu
    have h52 := pxU_52 u hu
    rw [e1, hu] at HM
    clear e1
    by_cases hc0 : cut < 0
    · have q1 : decide (cut < 0) = true := decide_eq_true hc0
      generalize pxU u = px at *
      clear hu h52
      obtain ⟨key, x, n, s⟩ := u
      simp only [uu] at *
      have HD0 := Lib.hid (hd.alloc (.cells #[.string key, .int .i64 x, .int .i64 n, .string s] 23))
      have HB0 := Lib.hid (Joins.below_alloc1 w (.cells #[.string key, .int .i64 x, .int .i64 n, .string s] 23))
      have HU0 := Lib.hid (Ub.new w (key, x, n, s))
      clear hd
      go_enter Tryd.func8, Tryd.ntmps8
      go_wp2_with fail
      refine (awake_yes _ HD0.out).mono ?_
      rintro e w1 ⟨rfl, hb⟩
      have hU1 := HU0.out.below hb HU0.out.lt
      have c0 := hU1.c0
      have c1 := hU1.c1
      have c2 := hU1.c2
      have c3 := hU1.c3
      have HU1 := Lib.hid hU1
      have HD1 := Lib.hid (HD0.out.below hb)
      have HB1 := Lib.hid (Below.next HB0.out hb)
      clear hb hU1 HU0 HD0 HB0
      go_wp2_with fail
      refine (HG.out _).mono ?_
      rintro e w2 ⟨rfl, hb⟩
      have hU2 := HU1.out.below hb HU1.out.lt
      have c0 := hU2.c0
      have c1 := hU2.c1
      have c2 := hU2.c2
      have c3 := hU2.c3
      have HU2 := Lib.hid hU2
      have HD2 := Lib.hid (HD1.out.below hb)
      have HB2 := Lib.hid (Below.next HB1.out hb)
      clear hb hU2 HU1 HD1 HB1
      go_wp2_with fail
      refine (HM.out _ HD2.out).mono ?_
      rintro e w3 ⟨rfl, hb⟩
      have HD3 := Lib.hid (HD2.out.below hb)
      have HB3 := Lib.hid (Below.next HB2.out hb)
      clear hb  HD2 HB2
      go_wp2
      go_ret
      exact ⟨rfl, HB3.out⟩
    by_cases hc1 : ((pxU u).size : Int) ≤ cut
    · have q1 : decide (cut < 0) = false := decide_eq_false hc0
      have q2 : decide (((pxU u).size : Int) ≤ cut) = true := decide_eq_true hc1
      generalize pxU u = px at *
      clear hu h52
      obtain ⟨key, x, n, s⟩ := u
      simp only [uu] at *
      have HD0 := Lib.hid (hd.alloc (.cells #[.string key, .int .i64 x, .int .i64 n, .string s] 23))
      have HB0 := Lib.hid (Joins.below_alloc1 w (.cells #[.string key, .int .i64 x, .int .i64 n, .string s] 23))
      have HU0 := Lib.hid (Ub.new w (key, x, n, s))
      clear hd
      go_enter Tryd.func8, Tryd.ntmps8
      go_wp2_with fail
      refine (awake_yes _ HD0.out).mono ?_
      rintro e w1 ⟨rfl, hb⟩
      have hU1 := HU0.out.below hb HU0.out.lt
      have c0 := hU1.c0
      have c1 := hU1.c1
      have c2 := hU1.c2
      have c3 := hU1.c3
      have HU1 := Lib.hid hU1
      have HD1 := Lib.hid (HD0.out.below hb)
      have HB1 := Lib.hid (Below.next HB0.out hb)
      clear hb hU1 HU0 HD0 HB0
      go_wp2_with fail
      refine (HG.out _).mono ?_
      rintro e w2 ⟨rfl, hb⟩
      have hU2 := HU1.out.below hb HU1.out.lt
      have c0 := hU2.c0
      have c1 := hU2.c1
      have c2 := hU2.c2
      have c3 := hU2.c3
      have HU2 := Lib.hid hU2
      have HD2 := Lib.hid (HD1.out.below hb)
      have HB2 := Lib.hid (Below.next HB1.out hb)
      clear hb hU2 HU1 HD1 HB1
      go_wp2_with fail
      refine (HM.out _ HD2.out).mono ?_
      rintro e w3 ⟨rfl, hb⟩
      have HD3 := Lib.hid (HD2.out.below hb)
      have HB3 := Lib.hid (Below.next HB2.out hb)
      clear hb  HD2 HB2
      go_wp2
      go_ret
      exact ⟨rfl, HB3.out⟩
    obtain ⟨c, rfl⟩ : ∃ c : Nat, cut = c := ⟨cut.toNat, by omega⟩
    have hcc : c < (pxU u).size := by omega
    have HQ := Lib.hid (fun w h => uget_any ((pxU u).extract 0 c) (by rw [cut_size _ _ (by omega)]; omega) w h)
    obtain ⟨f1, f2⟩ := front_get u hu c hcc
    rw [f1, f2] at HQ
    have q1 : decide ((c : Int) < 0) = false := decide_eq_false (by omega)
    have q2 : decide (((pxU u).size : Int) ≤ (c : Int)) = false := decide_eq_false (by omega)
    have q3 : (c : Int) ≤ ((pxU u).size : Int) := by omega
    clear f1 f2 hc0 hc1
    generalize pxU u = px at *
    clear hu
    obtain ⟨key, x, n, s⟩ := u
    simp only [up0] at HQ
    simp only [uu] at *
    have HD0 := Lib.hid (hd.alloc (.cells #[.string key, .int .i64 x, .int .i64 n, .string s] 23))
    have HB0 := Lib.hid (Joins.below_alloc1 w (.cells #[.string key, .int .i64 x, .int .i64 n, .string s] 23))
    have HU0 := Lib.hid (Ub.new w (key, x, n, s))
    clear hd
    go_enter Tryd.func8, Tryd.ntmps8
    go_wp2_with fail
    refine (awake_yes _ HD0.out).mono ?_
    rintro e w1 ⟨rfl, hb⟩
    have hU1 := HU0.out.below hb HU0.out.lt
    have c0 := hU1.c0
    have c1 := hU1.c1
    have c2 := hU1.c2
    have c3 := hU1.c3
    have HU1 := Lib.hid hU1
    have HD1 := Lib.hid (HD0.out.below hb)
    have HB1 := Lib.hid (Below.next HB0.out hb)
    clear hb hU1 HU0 HD0 HB0
    go_wp2_with fail
    refine (HG.out _).mono ?_
    rintro e w2 ⟨rfl, hb⟩
    have hU2 := HU1.out.below hb HU1.out.lt
    have c0 := hU2.c0
    have c1 := hU2.c1
    have c2 := hU2.c2
    have c3 := hU2.c3
    have HU2 := Lib.hid hU2
    have HD2 := Lib.hid (HD1.out.below hb)
    have HB2 := Lib.hid (Below.next HB1.out hb)
    clear hb hU2 HU1 HD1 HB1
    go_wp2_with fail
    refine (HM.out _ HD2.out).mono ?_
    rintro e w3 ⟨rfl, hb⟩
    have HD3 := Lib.hid (HD2.out.below hb)
    have HB3 := Lib.hid (Below.next HB2.out hb)
    clear hb  HD2 HB2
    go_wp2_with fail
    refine (HQ.out _ HD3.out).mono ?_
    rintro e w4 ⟨rfl, hb⟩
    have hB4 := Below.next HB3.out hb
    have HB4 := Lib.hid (hB4.alloc hB4.size (.cells #[.string ⟨#[]⟩, .int .i64 0, .int .i64 0, .string ⟨#[]⟩] 23))
    clear hb hB4 HB3 HD3 HQ
    go_wp2
    go_ret
    exact ⟨rfl, HB4.out⟩
  · have e1 : putB u = ⟨#[]⟩ := if_neg hu
    rw [e1] at HM
    clear e1
    have k1 : (mayE u == 0) = false := by rw [beq_eq_false_iff_ne]; exact hu
    generalize mayE u = me at *
    obtain ⟨key, x, n, s⟩ := u
    simp only [uu] at *
    have HD0 := Lib.hid (hd.alloc (.cells #[.string key, .int .i64 x, .int .i64 n, .string s] 23))
    have HB0 := Lib.hid (Joins.below_alloc1 w (.cells #[.string key, .int .i64 x, .int .i64 n, .string s] 23))
    have HU0 := Lib.hid (Ub.new w (key, x, n, s))
    clear hd
    go_enter Tryd.func8, Tryd.ntmps8
    go_wp2_with fail
    refine (awake_yes _ HD0.out).mono ?_
    rintro e w1 ⟨rfl, hb⟩
    have hU1 := HU0.out.below hb HU0.out.lt
    have c0 := hU1.c0
    have c1 := hU1.c1
    have c2 := hU1.c2
    have c3 := hU1.c3
    have HU1 := Lib.hid hU1
    have HD1 := Lib.hid (HD0.out.below hb)
    have HB1 := Lib.hid (Below.next HB0.out hb)
    clear hb hU1 HU0 HD0 HB0
    go_wp2_with fail
    refine (HG.out _).mono ?_
    rintro e w2 ⟨rfl, hb⟩
    have hU2 := HU1.out.below hb HU1.out.lt
    have c0 := hU2.c0
    have c1 := hU2.c1
    have c2 := hU2.c2
    have c3 := hU2.c3
    have HU2 := Lib.hid hU2
    have HD2 := Lib.hid (HD1.out.below hb)
    have HB2 := Lib.hid (Below.next HB1.out hb)
    clear hb hU2 HU1 HD1 HB1
    go_wp2_with fail
    refine (HM.out _ HD2.out).mono ?_
    rintro e w3 ⟨rfl, hb⟩
    have HD3 := Lib.hid (HD2.out.below hb)
    have HB3 := Lib.hid (Below.next HB2.out hb)
    clear hb  HD2 HB2
    go_wp2
    go_ret
    exact ⟨rfl, HB3.out⟩
end Go.Proofs.YtpdpmdbdnpemnaaDoor
