/- The walks of UpdatePuts, UpdateGets. -/
import Derived.Test.YtpdpmdbdnpemnaaDoorUA
namespace Go.Proofs.YtpdpmdbdnpemnaaDoor
open Go Go.RowKit
theorem Below.next {w w1 w2 : World} (h : Below w.heap.size w w1) (hb : Below w1.heap.size w1 w2) : Below w.heap.size w w2 := h.trans (hb.mono h.size)
set_option maxHeartbeats 1000000 in
theorem walkPuts (u : Up) (w : World) (hd : Wd w) : Calls Tryd.prog 3 #[uu u] w fun e w' => e = .returned (.bool true) ∧ Below w.heap.size w w' := by
  have HM := Lib.hid (fun w h => uput_any u w h)
  have HR := Lib.hid (fun w => rput_u u w)
  have HG1 := Lib.hid (fun h w => great_u_yes u h w)
  have HG2 := Lib.hid (fun h w => great_u_no u h w)
  generalize putB u = pb at *
  generalize mayE u = me at *
  generalize gU u = g at *
  obtain ⟨key, x, n, s⟩ := u
  simp only [uu] at *
  have HD0 := Lib.hid (hd.alloc (.cells #[.string key, .int .i64 x, .int .i64 n, .string s] 23))
  have HB0 := Lib.hid (Joins.below_alloc1 w (.cells #[.string key, .int .i64 x, .int .i64 n, .string s] 23))
  have HU0 := Lib.hid (Ub.new w (key, x, n, s))
  clear hd
  by_cases hgg : g
  · have HG := Lib.hid (HG1.out hgg)
    clear HG1 HG2 HM HR hgg
    go_enter Tryd.func3, Tryd.ntmps3
    go_wp2_with fail
    refine (awake_yes _ HD0.out).mono ?_
    rintro e w1 ⟨rfl, hb⟩
    have hU1 := HU0.out.below hb HU0.out.lt
    have c0 := hU1.c0
    have c1 := hU1.c1
    have c2 := hU1.c2
    have c3 := hU1.c3
    have HD1 := Lib.hid (HD0.out.below hb)
    have HB1 := Lib.hid (Below.next HB0.out hb)
    clear hb hU1 HU0 HD0 HB0
    go_wp2_with fail
    refine (HG.out _).mono ?_
    rintro e w2 ⟨rfl, hb⟩
    have HD2 := Lib.hid (HD1.out.below hb)
    have HB2 := Lib.hid (Below.next HB1.out hb)
    clear hb HD1 HB1 HG c0 c1 c2 c3
    go_wp2_with fail
    refine (awake_yes _ HD2.out).mono ?_
    rintro e w3 ⟨rfl, hb⟩
    have HB3 := Lib.hid (Below.next HB2.out hb)
    clear hb HB2 HD2
    go_wp2
    go_ret
    exact ⟨rfl, HB3.out⟩
  · have HG := Lib.hid (HG2.out hgg)
    clear HG1 HG2 hgg
    go_enter Tryd.func3, Tryd.ntmps3
    go_wp2_with fail
    refine (awake_yes _ HD0.out).mono ?_
    rintro e w1 ⟨rfl, hb⟩
    have hU1 := HU0.out.below hb HU0.out.lt
    have c0 := hU1.c0
    have c1 := hU1.c1
    have c2 := hU1.c2
    have c3 := hU1.c3
    have HU1 := Lib.hid hU1
    have HD1 := Lib.hid (HD0.out.below hb)
    have HB1 := Lib.hid (Below.next HB0.out hb)
    clear hb hU1 HU0 HD0 HB0
    go_wp2_with fail
    refine (HG.out _).mono ?_
    rintro e w2 ⟨rfl, hb⟩
    have hU2 := HU1.out.below hb HU1.out.lt
    have c0 := hU2.c0
    have c1 := hU2.c1
    have c2 := hU2.c2
    have c3 := hU2.c3
    have HU2 := Lib.hid hU2
    have HD2 := Lib.hid (HD1.out.below hb)
    have HB2 := Lib.hid (Below.next HB1.out hb)
    clear hb hU2 HD1 HB1 HG HU1
    go_wp2_with fail
    refine (HM.out _ HD2.out).mono ?_
    rintro e w3 ⟨rfl, hb⟩
    have hU3 := HU2.out.below hb HU2.out.lt
    have c0 := hU3.c0
    have c1 := hU3.c1
    have c2 := hU3.c2
    have c3 := hU3.c3
    have HB3 := Lib.hid (Below.next HB2.out hb)
    clear hb hU3 HD2 HB2 HM HU2
    go_wp2_with fail
    refine (HR.out _).mono ?_
    rintro e w4 ⟨rfl, hb⟩
    have HB4 := Lib.hid (Below.next HB3.out hb)
    clear hb HB3 HR
    go_wp2
    go_ret
    exact ⟨rfl, HB4.out⟩
set_option maxHeartbeats 1000000 in
theorem walkGets (s : ByteArray) (w : World) (hd : Wd w) : Calls Tryd.prog 4 #[.string s] w fun e w' => e = .returned (.bool true) ∧ Below w.heap.size w w' := by
  by_cases hs : 300 < s.size
  · have q1 : decide ((300 : Int) < (s.size : Int)) = true := decide_eq_true (by omega)
    go_enter Tryd.func4, Tryd.ntmps4
    go_wp2_with fail
    refine (awake_yes _ hd).mono ?_
    rintro e w1 ⟨rfl, hb⟩
    have HD1 := Lib.hid (hd.below hb)
    have HB1 := Lib.hid hb
    clear hb
    go_wp2_with fail
    refine (awake_yes _ HD1.out).mono ?_
    rintro e w2 ⟨rfl, hb⟩
    have HB2 := Lib.hid (Below.next HB1.out hb)
    clear hb HB1 HD1
    go_wp2
    go_ret
    exact ⟨rfl, HB2.out⟩
  · have q1 : decide ((300 : Int) < (s.size : Int)) = false := decide_eq_false (by omega)
    have HM := Lib.hid (fun w h => uget_any s (by omega) w h)
    have HR := Lib.hid (fun w => rget_u s (by unfold maxLen; omega) w)
    generalize getU s = gu at *
    generalize getE s = ge at *
    obtain ⟨gk, gx, gn, gs⟩ := gu
    simp only [uu] at *
    go_enter Tryd.func4, Tryd.ntmps4
    go_wp2_with fail
    refine (awake_yes _ hd).mono ?_
    rintro e w1 ⟨rfl, hb⟩
    have HD1 := Lib.hid (hd.below hb)
    have HB1 := Lib.hid hb
    clear hb
    go_wp2_with fail
    refine (HM.out _ HD1.out).mono ?_
    rintro e w2 ⟨rfl, hb⟩
    have HU2 := Lib.hid (Ub.new w2 (gk, gx, gn, gs))
    have hB2 := Below.next HB1.out hb
    have HB2 := Lib.hid (hB2.alloc hB2.size (.cells #[.string gk, .int .i64 gx, .int .i64 gn, .string gs] 23))
    clear hb hB2 HB1 HD1 HM
    go_wp2_with fail
    refine (HR.out _).mono ?_
    rintro e w3 ⟨rfl, hb⟩
    have hU3 := (HU2.out.below hb HU2.out.lt).alloc (.cells #[.string gk, .int .i64 gx, .int .i64 gn, .string gs] 23)
    have hV3 := Ub.new w3 (gk, gx, gn, gs)
    have hB3 := Below.next HB2.out hb
    have HB3 := Lib.hid (hB3.alloc hB3.size (.cells #[.string gk, .int .i64 gx, .int .i64 gn, .string gs] 23))
    have c0 := hU3.c0
    have c1 := hU3.c1
    have c2 := hU3.c2
    have c3 := hU3.c3
    have d0 := hV3.c0
    have d1 := hV3.c1
    have d2 := hV3.c2
    have d3 := hV3.c3
    clear hb hB3 hU3 hV3 HU2 HB2 HR
    go_wp2
    go_ret
    exact ⟨rfl, HB3.out⟩
end Go.Proofs.YtpdpmdbdnpemnaaDoor
