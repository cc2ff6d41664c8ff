/- awake. -/
import Derived.Test.YtonjdpchocdghaaIB
namespace Go.Proofs.Ytonjdpchocdghaa
open Go Go.RowKit
set_option maxRecDepth 20000
def uK : Up := (⟨#[107]⟩, 5, 0, ⟨#[]⟩)
theorem uK_sm : Sm [uK] := ⟨by decide, fun i hi => by
  obtain rfl : i = 0 := by simpa using hi
  exact ⟨by decide, by decide⟩⟩
theorem Rb.left {w w' : World} {k : Nat} {o n : Int} {a : Option Addr} {l c : Nat} {F : Nat → Prop} (h : Rb w k o n a l c) (hl : Lv w w' F) (hk : ¬ F k) : Rb w' k o n a l c := (hl.block k h.lt hk).trans h
section
variable {B b : Nat} {F : Nat → Prop}
theorem aw1 (q : Nat) (w : World) (hu : IsUs w (some ⟨q, 0, none⟩) 1 [uK]) (hd : ¬ F q) (h : Jx 52 B w b F 3 2 []) :
    Calls Try.prog 12 #[.pointer (some ⟨b, 0, none⟩), .slice (some ⟨q, 0, none⟩) 1 1] w fun e w' => ∃ g F', e = .returned (.tuple #[.agg #[.int .i64 3, .int .i64 1, .slice (some ⟨g, 0, none⟩) 1 1], .int .i64 0]) ∧ Jx 52 B w' b F' 3 2 [[uK]] ∧ Lv w w' F ∧ (∀ k, F' k → F k ∨ w.heap.size ≤ k) := by
  refine (jadd_ok (uss := []) (by decide) (by decide) (some ⟨q, 0, none⟩) 1 1 [uK] (by decide) uK_sm w hu (fun g off e => by cases e; exact hd) h).mono ?_
  rintro e w1 ⟨g, F', rfl, x1, x2, x3, _⟩
  exact ⟨g, F', rfl, x1, x2, x3⟩
theorem aw2 (q : Nat) (w : World) (hu : IsUs w (some ⟨q, 0, none⟩) 1 [uK]) (hd : ¬ F q) (h : Jx 52 B w b F 3 2 [[uK]]) :
    Calls Try.prog 12 #[.pointer (some ⟨b, 0, none⟩), .slice (some ⟨q, 0, none⟩) 1 1] w fun e w' => ∃ g F', e = .returned (.tuple #[.agg #[.int .i64 3, .int .i64 2, .slice (some ⟨g, 0, none⟩) 1 1], .int .i64 0]) ∧ Jx 52 B w' b F' 3 2 [[uK], [uK]] ∧ Lv w w' F ∧ (∀ k, F' k → F k ∨ w.heap.size ≤ k) := by
  refine (jadd_ok (uss := [[uK]]) (by decide) (by decide) (some ⟨q, 0, none⟩) 1 1 [uK] (by decide) uK_sm w hu (fun g off e => by cases e; exact hd) h).mono ?_
  rintro e w1 ⟨g, F', rfl, x1, x2, x3, _⟩
  exact ⟨g, F', rfl, x1, x2, x3⟩
theorem aw3 (q : Nat) (w : World) (h : Jx 52 B w b F 3 2 [[uK], [uK]]) :
    Calls Try.prog 12 #[.pointer (some ⟨b, 0, none⟩), .slice (some ⟨q, 0, none⟩) 1 1] w fun e w' => e = .returned (.tuple #[.agg #[.int .i64 0, .int .i64 0, .slice none 0 0], .int .i64 8]) ∧ Below w.heap.size w w' :=
  jadd_full (uss := [[uK], [uK]]) (by decide) _ 1 1 w h
theorem aw4 (w : World) (h : Jx 52 B w b F 3 2 [[uK], [uK]]) :
    Calls Try.prog 16 #[.pointer (some ⟨b, 0, none⟩), .int .i64 1] w fun e w' => ∃ a l c, e = .returned (.tuple #[.agg #[.int .i64 3, .int .i64 2, .slice a l c], .bool true]) ∧ Below w.heap.size w w' := by
  refine (jat_in (uss := [[uK], [uK]]) 1 (by decide) w h).mono ?_
  rintro e w1 ⟨r, rfl, _, e1, e2, _, hb⟩
  obtain ⟨ro, rn, ra, rl, rc, rus⟩ := r
  simp only at e1 e2
  subst e1 e2
  exact ⟨ra, rl, rc, rfl, hb⟩
theorem aw5 (w : World) (h : Jx 52 B w b F 3 2 [[uK], [uK]]) :
    Calls Try.prog 16 #[.pointer (some ⟨b, 0, none⟩), .int .i64 2] w fun e w' => e = .returned (.tuple #[.agg #[.int .i64 0, .int .i64 0, .slice none 0 0], .bool false]) ∧ Below w.heap.size w w' :=
  jat_out (uss := [[uK], [uK]]) 2 (.inr (by decide)) w h
theorem aw6 (w : World) (h : Jx 52 B w b F 3 2 [[uK], [uK]]) :
    Calls Try.prog 15 #[.pointer (some ⟨b, 0, none⟩)] w fun e w' => e = .returned (.int .i64 2) ∧ w' = w :=
  jlen_any (uss := [[uK], [uK]]) w h
theorem aw7 (w : World) (h : Jx 52 B w b F 3 2 [[uK], [uK]]) :
    Calls Try.prog 18 #[.pointer (some ⟨b, 0, none⟩), .int .i64 1] w fun e w' => ∃ g, e = .returned (.slice (some ⟨g, 0, none⟩) 1 1) ∧ Below w.heap.size w w' := by
  refine (jfrom_any (uss := [[uK], [uK]]) 1 (by decide) w h).mono ?_
  rintro e w1 ⟨g, xs, rfl, _, _, _, _, hb⟩
  exact ⟨g, rfl, hb⟩
theorem jnew3 (B : Nat) (w : World) (hB : B ≤ w.heap.size) :
    Calls Try.prog 8 #[.int .i64 3, .int .i64 2] w fun e w' => e = .returned (.pointer (some ⟨w.heap.size, 0, none⟩)) ∧ Jx 52 B w' w.heap.size (Jf w.heap.size (.slice none 0 0) fun _ => False) 3 2 [] ∧ Below w.heap.size w w' := jnew_any 3 2 B w hB
end
set_option maxHeartbeats 8000000 in
theorem awake_any (w : World) : Calls Try.prog 10 #[] w fun e w' => e = .returned (.bool true) ∧ Below w.heap.size w w' := by
  go_enter Try.func10, Try.ntmps10
  go_wp2_with fail
  refine (jnew3 w.heap.size w (Nat.le_refl _)).mono ?_
  rintro e w1 ⟨rfl, hj, hb⟩
  have hj2 := hj.next (Joins.below_alloc1 w1 (.cells #[.string ⟨#[107]⟩, .int .i64 5, .int .i64 0, .string ⟨#[]⟩] 50))
  generalize hF : Jf w.heap.size (.slice none 0 0) (fun _ => False) = F at *
  have hu : IsUs (w1.alloc (.cells #[.string ⟨#[107]⟩, .int .i64 5, .int .i64 0, .string ⟨#[]⟩] 50)) (some ⟨w1.heap.size, 0, none⟩) 1 [uK] :=
    ⟨rfl, fun _ => ⟨w1.heap.size, 0, rfl, four fun i hi => by
      obtain rfl : i = 0 := by simpa using hi
      have h := heap_alloc_new w1 (.cells #[.string ⟨#[107]⟩, .int .i64 5, .int .i64 0, .string ⟨#[]⟩] 50)
      exact ⟨cell_at h 0 _ rfl, cell_at h 1 _ rfl, cell_at h 2 _ rfl, cell_at h 3 _ rfl⟩⟩⟩
  have hq : ¬ F w1.heap.size := fun hk => by have := (hj.foot _ hk).2; omega
  have HJ := Lib.hid hj2
  have HU := Lib.hid hu
  have HQ := Lib.hid hq
  have HB := Lib.hid (Below.step hb (.cells #[.string ⟨#[107]⟩, .int .i64 5, .int .i64 0, .string ⟨#[]⟩] 50) (Below.refl _ _))
  have HQL : Hid (w1.heap.size < (w1.alloc (.cells #[.string ⟨#[107]⟩, .int .i64 5, .int .i64 0, .string ⟨#[]⟩] 50)).heap.size) := Lib.hid (by simp)
  have HBL := Lib.hid (show w.heap.size ≤ w1.heap.size from hb.size)
  clear hj hj2 hu hq hb hF
  go_wp2_with fail
  generalize w1.heap.size = q at *
  refine (aw1 q _ HU.out HQ.out HJ.out).mono ?_
  rintro e w3 ⟨g1, F1, rfl, x1, x2, x3⟩
  have hq1 : ¬ F1 q := fun hk => by
    rcases x3 q hk with hk | hk
    · exact HQ.out hk
    · have := HQL.out; omega
  have hb3 := x2.below HB.out (fun k hk => (HJ.out.foot k hk).1) HB.out.size
  have hu3 := isUs_left HU.out x2 (fun g off e => by cases e; exact HQ.out)
  have hql := Nat.lt_of_lt_of_le HQL.out x2.size
  have hp1 : ¬ F1 w3.heap.size := fun hk => by have := (x1.foot _ hk).2; omega
  have HJ3 := Lib.hid (x1.next (Joins.below_alloc1 w3 (.cells #[.int .i64 3, .int .i64 1, .slice (some ⟨g1, 0, none⟩) 1 1] 32)))
  have HB3 := Lib.hid (Below.step hb3 (.cells #[.int .i64 3, .int .i64 1, .slice (some ⟨g1, 0, none⟩) 1 1] 32) (Below.refl _ _))
  have HU3 := Lib.hid (isUs_below hu3 (Joins.below_alloc1 w3 (.cells #[.int .i64 3, .int .i64 1, .slice (some ⟨g1, 0, none⟩) 1 1] 32)))
  have HR1 := Lib.hid (Rb.new w3 3 1 (some ⟨g1, 0, none⟩) 1 1)
  have HP1 := Lib.hid hp1
  have HQ1 := Lib.hid hq1
  have hsz3 : (w3.alloc (.cells #[.int .i64 3, .int .i64 1, .slice (some ⟨g1, 0, none⟩) 1 1] 32)).heap.size = w3.heap.size + 1 := by simp
  have HQL3 : Hid (q < (w3.alloc (.cells #[.int .i64 3, .int .i64 1, .slice (some ⟨g1, 0, none⟩) 1 1] 32)).heap.size) := Lib.hid (by omega)
  have HPL3 : Hid (w3.heap.size < (w3.alloc (.cells #[.int .i64 3, .int .i64 1, .slice (some ⟨g1, 0, none⟩) 1 1] 32)).heap.size) := Lib.hid (by omega)
  clear x1 x2 x3 hq1 hb3 hu3 hql hp1 hsz3 HJ HU HQ HB HQL
  go_wp2_with fail
  generalize w3.heap.size = p1 at *
  refine (aw2 q _ HU3.out HQ1.out HJ3.out).mono ?_
  rintro e w5 ⟨g2, F2, rfl, x1, x2, x3⟩
  have hp1 : ¬ F2 p1 := fun hk => by
    rcases x3 p1 hk with hk | hk
    · exact HP1.out hk
    · have := HPL3.out; omega
  have hb5 := x2.below HB3.out (fun k hk => (HJ3.out.foot k hk).1) HB3.out.size
  have HR1 := Lib.hid ((HR1.out.left x2 HP1.out).alloc (.cells #[.int .i64 3, .int .i64 2, .slice (some ⟨g2, 0, none⟩) 1 1] 32))
  have HJ5 := Lib.hid (x1.next (Joins.below_alloc1 w5 (.cells #[.int .i64 3, .int .i64 2, .slice (some ⟨g2, 0, none⟩) 1 1] 32)))
  have HB5 := Lib.hid (Below.step hb5 (.cells #[.int .i64 3, .int .i64 2, .slice (some ⟨g2, 0, none⟩) 1 1] 32) (Below.refl _ _))
  have HR2 := Lib.hid (Rb.new w5 3 2 (some ⟨g2, 0, none⟩) 1 1)
  clear x1 x2 x3 hb5 hp1 HJ3 HB3 HU3 HP1 HPL3 HQ1 HQL3
  go_wp2_with fail
  generalize w5.heap.size = p2 at *
  refine (aw3 q _ HJ5.out).mono ?_
  rintro e w7 ⟨rfl, hb⟩
  have HJ7 := Lib.hid ((HJ5.out.next hb).next (Joins.below_alloc1 w7 (.cells #[.int .i64 0, .int .i64 0, .slice none 0 0] 32)))
  have HB7 := Lib.hid (Below.step (Below.next HB5.out hb) (.cells #[.int .i64 0, .int .i64 0, .slice none 0 0] 32) (Below.refl _ _))
  have HR1 := Lib.hid ((HR1.out.next hb).alloc (.cells #[.int .i64 0, .int .i64 0, .slice none 0 0] 32))
  have HR2 := Lib.hid ((HR2.out.next hb).alloc (.cells #[.int .i64 0, .int .i64 0, .slice none 0 0] 32))
  clear hb HJ5 HB5
  go_wp2_with fail
  refine (aw4 _ HJ7.out).mono ?_
  rintro e w9 ⟨a4, l4, c4, rfl, hb⟩
  have HJ9 := Lib.hid ((HJ7.out.next hb).next (Joins.below_alloc1 w9 (.cells #[.int .i64 3, .int .i64 2, .slice a4 l4 c4] 32)))
  have HB9 := Lib.hid (Below.step (Below.next HB7.out hb) (.cells #[.int .i64 3, .int .i64 2, .slice a4 l4 c4] 32) (Below.refl _ _))
  have HR1 := Lib.hid ((HR1.out.next hb).alloc (.cells #[.int .i64 3, .int .i64 2, .slice a4 l4 c4] 32))
  have HR2 := Lib.hid ((HR2.out.next hb).alloc (.cells #[.int .i64 3, .int .i64 2, .slice a4 l4 c4] 32))
  have HR4 := Lib.hid (Rb.new w9 3 2 a4 l4 c4)
  clear hb HJ7 HB7
  go_wp2_with fail
  generalize w9.heap.size = p4 at *
  refine (aw5 _ HJ9.out).mono ?_
  rintro e w11 ⟨rfl, hb⟩
  have HJB := Lib.hid ((HJ9.out.next hb).next (Joins.below_alloc1 w11 (.cells #[.int .i64 0, .int .i64 0, .slice none 0 0] 32)))
  have HBB := Lib.hid (Below.step (Below.next HB9.out hb) (.cells #[.int .i64 0, .int .i64 0, .slice none 0 0] 32) (Below.refl _ _))
  have hr1 := (HR1.out.next hb).alloc (.cells #[.int .i64 0, .int .i64 0, .slice none 0 0] 32)
  have hr2 := (HR2.out.next hb).alloc (.cells #[.int .i64 0, .int .i64 0, .slice none 0 0] 32)
  have hr4 := (HR4.out.next hb).alloc (.cells #[.int .i64 0, .int .i64 0, .slice none 0 0] 32)
  have d0 := hr1.c0
  have d1 := hr1.c1
  have d2 := hr2.c1
  have d4 := hr4.c1
  clear hb HJ9 HB9 HR1 HR2 HR4 hr1 hr2 hr4
  go_wp2_with fail
  refine (aw6 _ HJB.out).mono ?_
  rintro e w12 ⟨rfl, rfl⟩
  go_wp2_with fail
  refine (aw7 _ HJB.out).mono ?_
  rintro e w13 ⟨g, rfl, hb⟩
  have HB := Lib.hid (Below.next HBB.out hb)
  clear hb d0 d1 d2 d4
  go_wp2
  go_ret
  exact ⟨rfl, HB.out⟩
end Go.Proofs.Ytonjdpchocdghaa
