/- awake: the answers that the document fixes are given. -/
import Derived.Test.YtgeafheoaffooaaDoorM3
import Derived.Test.YtgeafheoaffooaaDoorQ2
namespace Go.Proofs.YtgeafheoaffooaaDoor
open Go Go.RowKit
def bEx : ByteArray := ⟨#[65, 44, 2, 97, 98]⟩
def bFive : ByteArray := ⟨#[5]⟩
theorem fix1 : wS ⟨#[]⟩ false (decide (okN 300)) (strOfNums (putS 300)) = ⟨#[65, 44]⟩ := by rfl
theorem fix2 : wS ⟨#[65, 44]⟩ false true (strOfNums (putS ((⟨#[97, 98]⟩ : ByteArray).size : Int)) ++ ⟨#[97, 98]⟩) = bEx := by rfl
theorem fix3 : numV bEx 0 0 300 = 300 ∧ rawA bEx 0 0 = 2 ∧ numE bEx 0 0 300 = 0 := by decide
theorem fix4 : txtV bEx 2 0 2 = ⟨#[97, 98]⟩ ∧ txtA bEx 2 0 2 = 5 ∧ txtE bEx 2 0 2 = 0 := by decide
theorem fix5 : endE bEx 5 0 = 0 := by decide
theorem fix6 : numV bFive 0 0 4 = 0 ∧ rawA bFive 0 0 = 1 ∧ numE bFive 0 0 4 = 1 := by decide
theorem fix7 : numV bFive 1 1 9 = 0 := by decide
set_option maxHeartbeats 1000000 in
set_option maxRecDepth 100000 in
theorem awake_yes (w : World) (h : Wd w) : Calls Tryd.prog 9 #[] w fun e w' => e = .returned (.bool true) ∧ Below w.heap.size w w' := by
  have hpos := h.pos
  go_enter Tryd.func9, Tryd.ntmps9
  go_wp2_with fail
  have hb0 : Below w.heap.size w (w.alloc (.cells #[.slice none 0 0, .bool false] 44)) := (Below.refl _ _).alloc (Nat.le_refl _) _
  have hw0 := wr_new w
  have hd0 := h.below hb0
  refine (wnum_any _ _ _ _ _ 300 (by decide) (by decide) (by decide) (fun e => by cases e) _ hd0 hw0).mono ?_
  rintro e w1 ⟨rfl, ⟨v1, hw1⟩, hf1⟩
  rw [fix1] at hw1
  rw [show (false || !decide (okN 300)) = false by decide] at hw1
  have hd1 := hd0.fr hf1 (by omega) (by omega)
  have HB1 := Lib.hid (Fr.below hb0 hf1 (Nat.le_refl _) (by omega))
  have HW1 := Lib.hid hw1
  clear hb0 hw0 hd0 hw1 hf1
  go_wp2_with fail
  refine (wtxt_any _ _ _ _ ⟨#[97, 98]⟩ _ (by decide) (by decide) (fun e => by cases e) _ hd1 HW1.out).mono ?_
  rintro e w2 ⟨rfl, ⟨v2, hw2⟩, hf2⟩
  rw [fix2] at hw2
  have hd2 := hd1.fr hf2 (by omega) (by omega)
  have HB2 := Lib.hid (Fr.below HB1.out hf2 (Nat.le_refl _) (by omega))
  have HW2 := Lib.hid hw2
  clear hw2 hf2 hd1 HB1 HW1
  go_wp2_with fail
  refine (bytes_live _ _ _ _ _ HW2.out).mono ?_
  rintro e w3 ⟨rfl, rfl⟩
  clear HW2
  go_wp2_with fail
  refine (read_any bEx (by decide) _).mono ?_
  rintro e w3 ⟨b, hb, rfl, hr3, hb3⟩
  have hd3 := hd2.below hb3
  have HB3 := Lib.hid (HB2.out.trans (hb3.mono HB2.out.size))
  have hbw : w.heap.size ≤ b := Nat.le_trans HB2.out.size hb
  have HR3 := Lib.hid hr3
  clear hb3 hr3 hd2 HB2 hb
  go_wp2_with fail
  refine (num_any bEx 0 0 300 b (by decide) (by decide) (by decide) (by decide) _ hd3 HR3.out).mono ?_
  rintro e w4 ⟨rfl, hr4, hg4⟩
  rw [fix3.1]
  rw [fix3.2.1, fix3.2.2] at hr4
  have hd4 := hd3.grown hg4 (pos0 (by omega))
  have HB4 := Lib.hid (HB3.out.grown hg4 HB3.out.size (fun k e => by simp at e; omega))
  have HR4 := Lib.hid hr4
  clear hr4 hg4 hd3 HB3 HR3
  go_wp2_with fail
  refine (txt_any bEx 2 0 2 b (by decide) (by decide) (by decide) (by decide) _ hd4 HR4.out).mono ?_
  rintro e w5 ⟨rfl, hr5, hg5⟩
  rw [fix4.1]
  rw [fix4.2.1, fix4.2.2] at hr5
  have hd5 := hd4.grown hg5 (pos0 (by omega))
  have HB5 := Lib.hid (HB4.out.grown hg5 HB4.out.size (fun k e => by simp at e; omega))
  have HR5 := Lib.hid hr5
  clear hr5 hg5 hd4 HB4 HR4
  go_wp2_with fail
  refine (end_any bEx 5 0 b _ HR5.out).mono ?_
  rintro e w6 ⟨rfl, hr6, hg6⟩
  rw [fix5]
  have hd6 := hd5.grown hg6 (pos0 (by omega))
  have HB6 := Lib.hid (HB5.out.grown hg6 HB5.out.size (fun k e => by simp at e; omega))
  clear hr6 hg6 hd5 HB5 HR5
  go_wp2_with fail
  refine (read_any bFive (by decide) _).mono ?_
  rintro e w7 ⟨q, hq, rfl, hr7, hb7⟩
  have hd7 := hd6.below hb7
  have HB7 := Lib.hid (HB6.out.trans (hb7.mono HB6.out.size))
  have hqw : w.heap.size ≤ q := Nat.le_trans HB6.out.size hq
  have HR7 := Lib.hid hr7
  clear hb7 hr7 hd6 HB6 hq
  go_wp2_with fail
  refine (num_any bFive 0 0 4 q (by decide) (by decide) (by decide) (by decide) _ hd7 HR7.out).mono ?_
  rintro e w8 ⟨rfl, hr8, hg8⟩
  rw [fix6.1]
  rw [fix6.2.1, fix6.2.2] at hr8
  have hd8 := hd7.grown hg8 (pos0 (by omega))
  have HB8 := Lib.hid (HB7.out.grown hg8 HB7.out.size (fun k e => by simp at e; omega))
  have HR8 := Lib.hid hr8
  clear hr8 hg8 hd7 HB7 HR7
  unfold bEx
  go_wp2_with fail
  refine (err_any q _ _ _ HR8.out).mono ?_
  rintro e w9 ⟨rfl, rfl⟩
  go_wp2_with fail
  refine (num_any bFive 1 1 9 q (by decide) (by decide) (by decide) (by decide) _ hd8 HR8.out).mono ?_
  rintro e w9 ⟨rfl, hr9, hg9⟩
  rw [fix7]
  have HB9 := Lib.hid (HB8.out.grown hg9 HB8.out.size (fun k e => by simp at e; omega))
  clear hr9 hg9 hd8 HB8 HR8
  go_wp2
  go_ret
  exact ⟨rfl, HB9.out⟩
end Go.Proofs.YtgeafheoaffooaaDoor
