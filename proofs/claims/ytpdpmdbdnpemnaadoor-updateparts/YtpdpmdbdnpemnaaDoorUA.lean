/- awake; Great. -/
import Derived.Test.YtpdpmdbdnpemnaaDoorUG
import Derived.Test.YtpdpmdbdnpemnaaDoorUB
import Derived.Deep.QuietTactic
import Derived.BigQuiet
namespace Go.Proofs.YtpdpmdbdnpemnaaDoor
open Go Go.RowKit
theorem fixa : mayE (⟨#[97]⟩, 1, 3, ⟨#[]⟩) = 0 := by decide
theorem fixb : putB (⟨#[97]⟩, 1, 3, ⟨#[]⟩) = ⟨#[1, 1, 97, 6]⟩ := by rfl
theorem fixc : getE ⟨#[1, 1, 97, 6]⟩ = 0 := by decide
theorem fixd : getU ⟨#[1, 1, 97, 6]⟩ = (⟨#[97]⟩, 1, 3, ⟨#[]⟩) := by decide
theorem fixe : getE ⟨#[5, 1, 107, 120]⟩ = 4 := by decide
theorem fixf : getU ⟨#[5, 1, 107, 120]⟩ = up0 := by decide
theorem fixg : mayE (⟨#[97]⟩, 0, 0, ⟨#[]⟩) = 5 := by decide
set_option maxHeartbeats 1000000 in
set_option maxRecDepth 100000 in
theorem awake_yes (w : World) (h : Wd w) : Calls Tryd.prog 9 #[] w fun e w' => e = .returned (.bool true) ∧ Below w.heap.size w w' := by
  have HP1 := Lib.hid (fun w h => uput_any (⟨#[97]⟩, 1, 3, ⟨#[]⟩) w h)
  have HG1 := Lib.hid (fun w h => uget_any ⟨#[1, 1, 97, 6]⟩ (by decide) w h)
  have HG2 := Lib.hid (fun w h => uget_any ⟨#[5, 1, 107, 120]⟩ (by decide) w h)
  have HP2 := Lib.hid (fun w h => uput_any (⟨#[97]⟩, 0, 0, ⟨#[]⟩) w h)
  rw [fixa, fixb] at HP1
  rw [fixc, fixd] at HG1
  rw [fixe, fixf] at HG2
  rw [fixg] at HP2
  generalize putB (⟨#[97]⟩, 0, 0, ⟨#[]⟩) = q at *
  simp only [uu, up0] at HP1 HG1 HG2 HP2
  have HD0 := Lib.hid (h.alloc (.cells #[.string ⟨#[97]⟩, .int .i64 1, .int .i64 3, .string ⟨#[]⟩] 23))
  have HB0 := Lib.hid (Joins.below_alloc1 w (.cells #[.string ⟨#[97]⟩, .int .i64 1, .int .i64 3, .string ⟨#[]⟩] 23))
  have HU0 := Lib.hid (Ub.new w (⟨#[97]⟩, 1, 3, ⟨#[]⟩))
  clear h
  go_enter Tryd.func9, Tryd.ntmps9
  go_wp2_with fail
  refine (HP1.out _ HD0.out).mono ?_
  rintro e w1 ⟨rfl, hb⟩
  have HU1 := Lib.hid (HU0.out.below hb HU0.out.lt)
  have HD1 := Lib.hid (HD0.out.below hb)
  have HB1 := Lib.hid (HB0.out.trans (hb.mono HB0.out.size))
  clear hb HU0 HD0 HB0 HP1
  go_wp2_with fail
  refine (HG1.out _ HD1.out).mono ?_
  rintro e w2 ⟨rfl, hb⟩
  have HU2 := Lib.hid ((HU1.out.below hb HU1.out.lt).alloc (.cells #[.string ⟨#[97]⟩, .int .i64 1, .int .i64 3, .string ⟨#[]⟩] 23))
  have HV2 := Lib.hid (Ub.new w2 (⟨#[97]⟩, 1, 3, ⟨#[]⟩))
  have HD2 := Lib.hid ((HD1.out.below hb).alloc (.cells #[.string ⟨#[97]⟩, .int .i64 1, .int .i64 3, .string ⟨#[]⟩] 23))
  have hB2 := HB1.out.trans (hb.mono HB1.out.size)
  have HB2 := Lib.hid (hB2.alloc hB2.size (.cells #[.string ⟨#[97]⟩, .int .i64 1, .int .i64 3, .string ⟨#[]⟩] 23))
  clear hb hB2 HU1 HD1 HB1 HG1
  go_wp2_with fail
  refine (HG2.out _ HD2.out).mono ?_
  rintro e w3 ⟨rfl, hb⟩
  have HU3 := Lib.hid ((HU2.out.below hb HU2.out.lt).alloc (.cells #[.string ⟨#[]⟩, .int .i64 0, .int .i64 0, .string ⟨#[]⟩] 23))
  have HV3 := Lib.hid ((HV2.out.below hb HV2.out.lt).alloc (.cells #[.string ⟨#[]⟩, .int .i64 0, .int .i64 0, .string ⟨#[]⟩] 23))
  have HD3 := Lib.hid ((HD2.out.below hb).alloc (.cells #[.string ⟨#[]⟩, .int .i64 0, .int .i64 0, .string ⟨#[]⟩] 23))
  have hB3 := HB2.out.trans (hb.mono HB2.out.size)
  have HB3 := Lib.hid (hB3.alloc hB3.size (.cells #[.string ⟨#[]⟩, .int .i64 0, .int .i64 0, .string ⟨#[]⟩] 23))
  clear hb hB3 HU2 HV2 HD2 HB2 HG2
  go_wp2_with fail
  refine (HP2.out _ HD3.out).mono ?_
  rintro e w4 ⟨rfl, hb⟩
  have hU4 := HU3.out.below hb HU3.out.lt
  have hV4 := HV3.out.below hb HV3.out.lt
  have HB4 := Lib.hid (HB3.out.trans (hb.mono HB3.out.size))
  have c0 := hU4.c0
  have c1 := hU4.c1
  have c2 := hU4.c2
  have c3 := hU4.c3
  have d0 := hV4.c0
  have d1 := hV4.c1
  have d2 := hV4.c2
  have d3 := hV4.c3
  clear hb hU4 hV4 HU3 HV3 HD3 HB3 HP2
  go_wp2
  go_ret
  exact ⟨rfl, HB4.out⟩
/-- Is an update more than is played? -/
def gU (u : Up) : Prop := 100 < u.1.size ∨ 1200 < u.2.2.2.size
theorem great_u_no (u : Up) (h : ¬ gU u) (w : World) : Calls Tryd.prog 10 #[uu u] w fun e w' => e = .returned (.bool false) ∧ Below w.heap.size w w' := by
  obtain ⟨key, x, n, s⟩ := u
  unfold gU at h
  simp only at h
  have q1 : decide ((100 : Int) < (key.size : Int)) = false := decide_eq_false (by omega)
  have q2 : decide ((1200 : Int) < (s.size : Int)) = false := decide_eq_false (by omega)
  unfold uu
  go_enter Tryd.func10, Tryd.ntmps10
  go_wp2
  go_ret
  exact ⟨rfl, Joins.below_alloc1 _ _⟩
theorem great_u_yes (u : Up) (h : gU u) (w : World) : Calls Tryd.prog 10 #[uu u] w fun e w' => e = .returned (.bool true) ∧ Below w.heap.size w w' := by
  obtain ⟨key, x, n, s⟩ := u
  unfold gU at h
  simp only at h
  unfold uu
  by_cases h1 : 100 < key.size
  · have q1 : decide ((100 : Int) < (key.size : Int)) = true := decide_eq_true (by omega)
    clear h
    go_enter Tryd.func10, Tryd.ntmps10
    go_wp2
    go_ret
    exact ⟨rfl, Joins.below_alloc1 _ _⟩
  · have q1 : decide ((100 : Int) < (key.size : Int)) = false := decide_eq_false (by omega)
    have q2 : decide ((1200 : Int) < (s.size : Int)) = true := decide_eq_true (by omega)
    clear h
    go_enter Tryd.func10, Tryd.ntmps10
    go_wp2
    go_ret
    exact ⟨rfl, Joins.below_alloc1 _ _⟩
end Go.Proofs.YtpdpmdbdnpemnaaDoor
