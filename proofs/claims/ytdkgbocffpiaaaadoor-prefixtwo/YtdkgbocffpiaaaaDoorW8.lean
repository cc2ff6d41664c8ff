/- awake: the answers that the document fixes are given. -/
import Derived.Test.YtdkgbocffpiaaaaDoorW7
import Derived.Test.YtdkgbocffpiaaaaDoorW5
namespace Go.Proofs.YtdkgbocffpiaaaaDoor
open Go Go.RowKit
theorem fixPut37 : strOfNums (be 1 37) = ⟨#[37]⟩ := by rfl
theorem fixPut15293 : strOfNums (be 2 (16384 + 15293)) = ⟨#[123, 189]⟩ := by rfl
theorem fixGet1 : getS ⟨#[120, 123, 189]⟩ 1 = (15293, 3, 0) := by rfl
theorem fixGet2 : getS ⟨#[64, 37]⟩ 0 = (0, 0, 3) := by rfl
theorem fixGet3 : getS ⟨#[123]⟩ 0 = (0, 0, 2) := by rfl
theorem get_is (s : ByteArray) (a x y z : Int) (hm : s.size ≤ maxLen) (hg : getS s a = (x, y, z)) (w : World) (h : Wd w) : Calls Tryd.prog 16 #[.string s, .int .i64 a] w fun e w' => e = .returned (.tuple #[.int .u64 x, .int .i64 y, .int .i64 z]) ∧ w = w' := by
  have := get_any s a hm w h
  rw [hg] at this
  exact this
set_option maxHeartbeats 1000000 in
set_option maxRecDepth 100000 in
theorem awake_yes (w : World) (h : Wd w) : Calls Tryd.prog 13 #[] w fun e w' => e = .returned (.bool true) ∧ Below w.heap.size w w' := by
  go_enter Tryd.func13, Tryd.ntmps13
  go_wp2_with fail
  refine (put0 37 (by omega) (by omega) _ h).mono ?_
  rintro e w1 ⟨rfl, hb1⟩
  rw [fixPut37]
  have h1 := h.below hb1
  have HB1 := Lib.hid hb1
  clear hb1
  go_wp2_with fail
  refine (put1 15293 (by omega) (by omega) _ h1).mono ?_
  rintro e w2 ⟨rfl, hb2⟩
  rw [fixPut15293]
  have h2 := h1.below hb2
  have HB2 := Lib.hid (HB1.out.trans (hb2.mono HB1.out.size))
  clear hb2 h1 HB1
  go_wp2_with fail
  refine (get_is _ _ _ _ _ (by decide) fixGet1 _ h2).mono ?_
  rintro e w1 ⟨rfl, rfl⟩
  go_wp2_with fail
  refine (get_is _ _ _ _ _ (by decide) fixGet2 _ h2).mono ?_
  rintro e w1 ⟨rfl, rfl⟩
  go_wp2_with fail
  refine (get_is _ _ _ _ _ (by decide) fixGet3 _ h2).mono ?_
  rintro e w1 ⟨rfl, rfl⟩
  go_wp2_with fail
  refine (zig_yes (-3) (by omega) (by omega) _ h2).mono ?_
  rintro e w1 ⟨rfl, rfl⟩
  rw [show zigS (-3) = 5 from rfl]
  go_wp2_with fail
  refine (zag_yes 5 (by omega) (by omega) _ h2).mono ?_
  rintro e w1 ⟨rfl, rfl⟩
  rw [show zagS 5 = -3 from rfl]
  go_wp2_with fail
  refine (size1 64 (by omega) (by omega) _ h2).mono ?_
  rintro e w1 ⟨rfl, rfl⟩
  go_wp2
  go_ret
  exact ⟨rfl, HB2.out⟩
end Go.Proofs.YtdkgbocffpiaaaaDoor
