/- awake: the answers that the document fixes are given. -/
import Derived.Test.YtimilojognidlaaV7
import Derived.Test.YtimilojognidlaaV4
namespace Go.Proofs.Ytimilojognidlaa
open Go Go.RowKit
theorem isUs_three {w : World} {b : Nat} {t : TypeId} {u v x : Up} (h : w.heap[b]? = some (.cells #[.string u.1, .int .i64 u.2.1, .int .i64 u.2.2.1, .string u.2.2.2, .string v.1, .int .i64 v.2.1, .int .i64 v.2.2.1, .string v.2.2.2, .string x.1, .int .i64 x.2.1, .int .i64 x.2.2.1, .string x.2.2.2] t (0, 0))) : IsUs w (some ⟨b, 0, none⟩) 3 [u, v, x] :=
  ⟨rfl, fun _ => ⟨b, 0, rfl, four fun i hi => by
    have hi3 : i < 3 := hi
    rcases (show i = 0 ∨ i = 1 ∨ i = 2 by omega) with rfl | rfl | rfl
    · exact ⟨cell_at h 0 _ rfl, cell_at h 1 _ rfl, cell_at h 2 _ rfl, cell_at h 3 _ rfl⟩
    · exact ⟨cell_at h 4 _ rfl, cell_at h 5 _ rfl, cell_at h 6 _ rfl, cell_at h 7 _ rfl⟩
    · exact ⟨cell_at h 8 _ rfl, cell_at h 9 _ rfl, cell_at h 10 _ rfl, cell_at h 11 _ rfl⟩⟩⟩
theorem fixA : allV (0, 0, ⟨#[]⟩) [(⟨#[]⟩, 3, 3, ⟨#[]⟩), (⟨#[]⟩, 3, 4, ⟨#[]⟩), (⟨#[]⟩, 4, 0, ⟨#[120]⟩)] = (1, 7, ⟨#[]⟩) := by decide +kernel
theorem fixB : allV (1, 7, ⟨#[]⟩) [(⟨#[]⟩, 2, 0, ⟨#[97]⟩), (⟨#[]⟩, 4, 0, ⟨#[98]⟩), (⟨#[]⟩, 3, 1, ⟨#[]⟩)] = (2, 0, ⟨#[97, 98]⟩) := by rfl
theorem fixC : oneV (2, 0, ⟨#[97, 98]⟩) (⟨#[]⟩, 5, 0, ⟨#[]⟩) = (0, 0, ⟨#[]⟩) := by rfl
theorem fixD : mayE (⟨#[107]⟩, 1, 0, ⟨#[]⟩) = 0 := by decide
theorem fixE : mayE (⟨#[107]⟩, 0, 0, ⟨#[]⟩) = 5 := by decide
theorem sh3 {u v x : Up} (hu : Sh u.2.2.2) (hv : Sh v.2.2.2) (hx : Sh x.2.2.2) : ∀ y ∈ [u, v, x], Sh y.2.2.2 := by
  intro y hy; simp at hy; rcases hy with rfl | rfl | rfl <;> assumption
theorem callA (a : Option Addr) (cap : Nat) (w : World) (h : IsUs w a 3 [(⟨#[]⟩, 3, 3, ⟨#[]⟩), (⟨#[]⟩, 3, 4, ⟨#[]⟩), (⟨#[]⟩, 4, 0, ⟨#[120]⟩)]) : Calls Try.prog 16 #[.agg #[.int .i64 0, .int .i64 0, .string ⟨#[]⟩], .slice a 3 cap] w fun e w' => e = .returned (.agg #[.int .i64 1, .int .i64 7, .string ⟨#[]⟩]) ∧ Below w.heap.size w w' := by
  have := all_any (0, 0, ⟨#[]⟩) a 3 cap _ (by unfold Sh; decide) (sh3 (by unfold Sh; decide) (by unfold Sh; decide) (by unfold Sh; decide)) (by decide) w h
  rw [fixA] at this; exact this
theorem callB (a : Option Addr) (cap : Nat) (w : World) (h : IsUs w a 3 [(⟨#[]⟩, 2, 0, ⟨#[97]⟩), (⟨#[]⟩, 4, 0, ⟨#[98]⟩), (⟨#[]⟩, 3, 1, ⟨#[]⟩)]) : Calls Try.prog 16 #[.agg #[.int .i64 1, .int .i64 7, .string ⟨#[]⟩], .slice a 3 cap] w fun e w' => e = .returned (.agg #[.int .i64 2, .int .i64 0, .string ⟨#[97, 98]⟩]) ∧ Below w.heap.size w w' := by
  have := all_any (1, 7, ⟨#[]⟩) a 3 cap _ (by unfold Sh; decide) (sh3 (by unfold Sh; decide) (by unfold Sh; decide) (by unfold Sh; decide)) (by decide) w h
  rw [fixB] at this; exact this
theorem callC (w : World) : Calls Try.prog 11 #[.agg #[.int .i64 2, .int .i64 0, .string ⟨#[97, 98]⟩], .agg #[.string ⟨#[]⟩, .int .i64 5, .int .i64 0, .string ⟨#[]⟩]] w fun e w' => e = .returned (.agg #[.int .i64 0, .int .i64 0, .string ⟨#[]⟩]) ∧ Below w.heap.size w w' := by
  have := apply_any (2, 0, ⟨#[97, 98]⟩) (⟨#[]⟩, 5, 0, ⟨#[]⟩) (by unfold Sh; decide) (by unfold Sh; decide) w
  rw [fixC] at this; exact this
theorem callD (w : World) : Calls Try.prog 13 #[.agg #[.string ⟨#[107]⟩, .int .i64 1, .int .i64 0, .string ⟨#[]⟩]] w fun e w' => e = .returned (.int .i64 0) ∧ Below w.heap.size w w' := by
  have := may_any (⟨#[107]⟩, 1, 0, ⟨#[]⟩) w
  rw [fixD] at this; exact this
theorem callE (w : World) : Calls Try.prog 13 #[.agg #[.string ⟨#[107]⟩, .int .i64 0, .int .i64 0, .string ⟨#[]⟩]] w fun e w' => e = .returned (.int .i64 5) ∧ Below w.heap.size w w' := by
  have := may_any (⟨#[107]⟩, 0, 0, ⟨#[]⟩) w
  rw [fixE] at this; exact this
set_option maxHeartbeats 2000000 in
theorem awake_yes (w : World) : Calls Try.prog 8 #[] w fun e w' => e = .returned (.bool true) ∧ Below w.heap.size w w' := by
  go_enter Try.func8, Try.ntmps8
  go_wp2_with fail
  refine (callA _ 3 _ (isUs_three (t := 25) (heap_alloc_new _ _))).mono ?_
  rintro e w1 ⟨rfl, hb⟩
  have HB1 := Lib.hid ((Joins.below_alloc1 w _).trans (hb.mono (by simp)))
  clear hb
  go_wp2_with fail
  refine (callB _ 3 _ (isUs_three (t := 25) (new_at (by simp)))).mono ?_
  rintro e w2 ⟨rfl, hb⟩
  have h1 := kept_at (old_at (heap_alloc_new w1 _)) hb
  have a0 := cell_at h1 0 (.int .i64 1) rfl
  have a1 := cell_at h1 1 (.int .i64 7) rfl
  have a2 := cell_at h1 2 (.string ⟨#[]⟩) rfl
  have hs12 : w1.heap.size < w2.heap.size := (Array.getElem?_eq_some_iff.1 h1).1
  have HB2 := Lib.hid (HB1.out.trans ((Joins.below_alloc2 w1 _ _).mono HB1.out.size |>.trans (hb.mono (by have := HB1.out.size; simp; omega))))
  clear hb h1 HB1
  go_wp2_with fail
  refine (callC _).mono ?_
  rintro e w3 ⟨rfl, hb⟩
  have HB3 := Lib.hid (HB2.out.trans ((Joins.below_alloc1 w2 _).mono HB2.out.size |>.trans (hb.mono (by have := HB2.out.size; simp; omega))))
  clear hb HB2 a0 a1 a2 hs12
  go_wp2_with fail
  refine (callD _).mono ?_
  rintro e w4 ⟨rfl, hb⟩
  have HB4 := Lib.hid (HB3.out.trans (hb.mono HB3.out.size))
  clear hb HB3
  go_wp2_with fail
  refine (callE _).mono ?_
  rintro e w5 ⟨rfl, hb⟩
  have HB5 := Lib.hid (HB4.out.trans (hb.mono HB4.out.size))
  clear hb HB4
  go_wp2
  go_ret
  exact ⟨rfl, HB5.out⟩
end Go.Proofs.Ytimilojognidlaa
