/- The walk of ValueAll: no updates. -/
import Derived.Test.YtimilojognidlaaVX0
import Derived.Deep.RegionLawGrows
namespace Go.Proofs.Ytimilojognidlaa
open Go Go.RowKit
theorem v_kept {W wc : World} {b : Nat} {k n : Int} {s : ByteArray} (h : W.cell? ⟨b, 0, none⟩ = some (.int .i64 k) ∧ W.cell? ⟨b, 1, none⟩ = some (.int .i64 n) ∧ W.cell? ⟨b, 2, none⟩ = some (.string s)) (hb : Below W.heap.size W wc) :
    wc.cell? ⟨b, 0, none⟩ = some (.int .i64 k) ∧ wc.cell? ⟨b, 1, none⟩ = some (.int .i64 n) ∧ wc.cell? ⟨b, 2, none⟩ = some (.string s) := by
  have hl : b < W.heap.size := block_lt_of_cell h.1
  exact ⟨(hb.cell hl).trans h.1, (hb.cell hl).trans h.2.1, (hb.cell hl).trans h.2.2⟩
theorem v_alloc {W : World} {b : Nat} {k n : Int} {s : ByteArray} {o : Obj} (h : W.cell? ⟨b, 0, none⟩ = some (.int .i64 k) ∧ W.cell? ⟨b, 1, none⟩ = some (.int .i64 n) ∧ W.cell? ⟨b, 2, none⟩ = some (.string s)) :
    (W.alloc o).cell? ⟨b, 0, none⟩ = some (.int .i64 k) ∧ (W.alloc o).cell? ⟨b, 1, none⟩ = some (.int .i64 n) ∧ (W.alloc o).cell? ⟨b, 2, none⟩ = some (.string s) :=
  v_kept h (Joins.below_alloc1 W o)
theorem v_allocD {W : World} {b : Nat} {k n : Int} {s : ByteArray} {o : Obj} (h : W.cell? ⟨b, 0, none⟩ = some (.int .i64 k) ∧ W.cell? ⟨b, 1, none⟩ = some (.int .i64 n) ∧ W.cell? ⟨b, 2, none⟩ = some (.string s)) :
    (W.alloc o).drew.cell? ⟨b, 0, none⟩ = some (.int .i64 k) ∧ (W.alloc o).drew.cell? ⟨b, 1, none⟩ = some (.int .i64 n) ∧ (W.alloc o).drew.cell? ⟨b, 2, none⟩ = some (.string s) :=
  v_alloc h
theorem v_stepD {W : World} {b : Nat} {k n : Int} {s : ByteArray} {o : Obj} (h : W.drew.cell? ⟨b, 0, none⟩ = some (.int .i64 k) ∧ W.drew.cell? ⟨b, 1, none⟩ = some (.int .i64 n) ∧ W.drew.cell? ⟨b, 2, none⟩ = some (.string s)) :
    (W.alloc o).drew.cell? ⟨b, 0, none⟩ = some (.int .i64 k) ∧ (W.alloc o).drew.cell? ⟨b, 1, none⟩ = some (.int .i64 n) ∧ (W.alloc o).drew.cell? ⟨b, 2, none⟩ = some (.string s) :=
  v_alloc (W := W) h
theorem v_set3 {W : World} {b g : Nat} {k n : Int} {s : ByteArray} {x0 x1 x2 : Value} (h : W.cell? ⟨b, 0, none⟩ = some (.int .i64 k) ∧ W.cell? ⟨b, 1, none⟩ = some (.int .i64 n) ∧ W.cell? ⟨b, 2, none⟩ = some (.string s)) (hne : b ≠ g) :
    (((W.setCell ⟨g, 0, none⟩ x0).setCell ⟨g, 1, none⟩ x1).setCell ⟨g, 2, none⟩ x2).cell? ⟨b, 0, none⟩ = some (.int .i64 k) ∧ (((W.setCell ⟨g, 0, none⟩ x0).setCell ⟨g, 1, none⟩ x1).setCell ⟨g, 2, none⟩ x2).cell? ⟨b, 1, none⟩ = some (.int .i64 n) ∧ (((W.setCell ⟨g, 0, none⟩ x0).setCell ⟨g, 1, none⟩ x1).setCell ⟨g, 2, none⟩ x2).cell? ⟨b, 2, none⟩ = some (.string s) := by
  have e : (((W.setCell ⟨g, 0, none⟩ x0).setCell ⟨g, 1, none⟩ x1).setCell ⟨g, 2, none⟩ x2).heap[b]? = W.heap[b]? := by
    rw [Below.heap_setCell _ _ _ _ hne, Below.heap_setCell _ _ _ _ hne, Below.heap_setCell _ _ _ _ hne]
  exact ⟨(World.cell?_of_block (w := W) e).trans h.1, (World.cell?_of_block (w := W) e).trans h.2.1, (World.cell?_of_block (w := W) e).trans h.2.2⟩
theorem Below.far2 {w wy W wc : World} (h : Below w.heap.size w wy) (hb : Below W.heap.size W wc) (hW : Below wy.heap.size wy W) : Below w.heap.size w wc :=
  Below.next (Below.next h hW) hb
set_option maxHeartbeats 4000000 in
theorem all_zero_some (v : Vl) (ad : Addr) (cap : Nat) (hi : isV v) (w : World) : Calls Try.prog 5 #[vv v, .slice (some ad) 0 cap, .int .i64 0] w fun e w' => e = .returned (.bool true) ∧ Below w.heap.size w w' := by
  have hu : IsUs w (some ad) 0 [] := ⟨rfl, fun h => absurd h (by omega)⟩
  have hg : ¬ gAll 0 [] := by unfold gAll; rintro (h | ⟨i, h, _⟩) <;> omega
  have HI := fun w => Lib.hid (is_yes v hi w)
  have HG := fun w h => Lib.hid (greatAll_no (some ad) 0 cap [] hg w h)
  have HA := fun a cap w h => Lib.hid (all_any v a 0 cap [] (isV_sh hi) (fun _ h => by cases h) (by decide) w h)
  rw [show allV v [] = v from rfl] at HA
  have HU := Lib.hid hu
  clear hi hg hu
  obtain ⟨vk, vn, vs⟩ := v
  simp only [vv_eq] at *
  go_enter Try.func5, Try.ntmps5
  go_wp2_with fail
  refine (awake_yes _).mono ?_
  rintro e w1 ⟨rfl, hb⟩
  have h1 := one_v_kept (v := (vk, vn, vs)) hb
  obtain ⟨c0, c1, c2⟩ := Vb.c h1.1
  have H := Lib.hid h1
  clear hb h1
  go_wp2_with fail
  refine (HI _).out.mono ?_
  rintro e wx ⟨rfl, hb⟩
  have H2 := Lib.hid (one_v_next H.out hb rfl rfl rfl rfl)
  clear hb H c0 c1 c2
  go_wp2_with fail
  refine (HG _ (isUs_below HU.out H2.out.2)).out.mono ?_
  rintro e wy ⟨rfl, hb⟩
  have h3 := one_v_next H2.out hb rfl rfl rfl rfl
  obtain ⟨c0, c1, c2⟩ := Vb.c h3.1
  have hlt := h3.1.lt
  have H3 := Lib.hid h3
  clear hb H2 h3
  go_wp2_with fail
  go_rounds 1
  go_wp2_with fail
  go_region_held3 (fun w' => w'.cell? ⟨w.heap.size, 0, none⟩ = some (.int .i64 vk) ∧ w'.cell? ⟨w.heap.size, 1, none⟩ = some (.int .i64 vn) ∧ w'.cell? ⟨w.heap.size, 2, none⟩ = some (.string vs))
    (first
      | with_reducible assumption
      | with_reducible exact v_allocD ⟨c0, c1, c2⟩
      | with_reducible exact ⟨d0, d1, d2⟩
      | with_reducible exact v_stepD (by with_reducible assumption)
      | with_reducible exact v_alloc (by with_reducible assumption)
      | with_reducible exact v_alloc ⟨d0, d1, d2⟩
      | (refine v_set3 (by with_reducible assumption) ?_; omega))
    (first
      | (go_at_call 16
         refine (HA _ _ _ ⟨rfl, fun h => absurd h (by omega)⟩).out.mono ?_
         rintro e wc ⟨rfl, hb⟩
         have hc := fun (b i : Nat) (h : b < _) => hb.cell (p := ⟨b, i, none⟩) h
         have hf := fun (b i : Nat) (h : b < _) => hb.frozen (p := ⟨b, i, none⟩) h
         obtain ⟨d0, d1, d2⟩ := v_kept (b := w.heap.size) (k := vk) (n := vn) (s := vs) (by assumption) hb
         have HB := Lib.hid (Below.far2 H3.out.2 hb (by first | with_reducible exact (Joins.below_alloc2 wy _ _).drew | with_reducible exact (Joins.below_alloc3 wy _ _ _).drew))
         clear hb))
  all_goals (
    go_wp2
    go_ret
    first
      | exact ⟨rfl, HB.out.alloc HB.out.size _⟩
      | exact ⟨rfl, below_set3 HB.out (by omega) _ _ _⟩)
set_option maxHeartbeats 4000000 in
theorem all_zero_none (v : Vl) (hi : isV v) (w : World) : Calls Try.prog 5 #[vv v, .slice none 0 0, .int .i64 0] w fun e w' => e = .returned (.bool true) ∧ Below w.heap.size w w' := by
  have hu : IsUs w none 0 [] := ⟨rfl, fun h => absurd h (by omega)⟩
  have hg : ¬ gAll 0 [] := by unfold gAll; rintro (h | ⟨i, h, _⟩) <;> omega
  have HI := fun w => Lib.hid (is_yes v hi w)
  have HG := fun w h => Lib.hid (greatAll_no none 0 0 [] hg w h)
  have HA := fun a cap w h => Lib.hid (all_any v a 0 cap [] (isV_sh hi) (fun _ h => by cases h) (by decide) w h)
  rw [show allV v [] = v from rfl] at HA
  have HU := Lib.hid hu
  clear hi hg hu
  obtain ⟨vk, vn, vs⟩ := v
  simp only [vv_eq] at *
  go_enter Try.func5, Try.ntmps5
  go_wp2_with fail
  refine (awake_yes _).mono ?_
  rintro e w1 ⟨rfl, hb⟩
  have h1 := one_v_kept (v := (vk, vn, vs)) hb
  obtain ⟨c0, c1, c2⟩ := Vb.c h1.1
  have H := Lib.hid h1
  clear hb h1
  go_wp2_with fail
  refine (HI _).out.mono ?_
  rintro e wx ⟨rfl, hb⟩
  have H2 := Lib.hid (one_v_next H.out hb rfl rfl rfl rfl)
  clear hb H c0 c1 c2
  go_wp2_with fail
  refine (HG _ (isUs_below HU.out H2.out.2)).out.mono ?_
  rintro e wy ⟨rfl, hb⟩
  have h3 := one_v_next H2.out hb rfl rfl rfl rfl
  obtain ⟨c0, c1, c2⟩ := Vb.c h3.1
  have hlt := h3.1.lt
  have H3 := Lib.hid h3
  clear hb H2 h3
  go_wp2_with fail
  go_rounds 1
  go_wp2_with fail
  go_region_held3 (fun w' => w'.cell? ⟨w.heap.size, 0, none⟩ = some (.int .i64 vk) ∧ w'.cell? ⟨w.heap.size, 1, none⟩ = some (.int .i64 vn) ∧ w'.cell? ⟨w.heap.size, 2, none⟩ = some (.string vs))
    (first
      | with_reducible assumption
      | with_reducible exact v_allocD ⟨c0, c1, c2⟩
      | with_reducible exact ⟨d0, d1, d2⟩
      | with_reducible exact v_stepD (by with_reducible assumption)
      | with_reducible exact v_alloc (by with_reducible assumption)
      | with_reducible exact v_alloc ⟨d0, d1, d2⟩
      | (refine v_set3 (by with_reducible assumption) ?_; omega))
    (first
      | (go_at_call 16
         refine (HA _ _ _ ⟨rfl, fun h => absurd h (by omega)⟩).out.mono ?_
         rintro e wc ⟨rfl, hb⟩
         have hc := fun (b i : Nat) (h : b < _) => hb.cell (p := ⟨b, i, none⟩) h
         have hf := fun (b i : Nat) (h : b < _) => hb.frozen (p := ⟨b, i, none⟩) h
         obtain ⟨d0, d1, d2⟩ := v_kept (b := w.heap.size) (k := vk) (n := vn) (s := vs) (by assumption) hb
         have HB := Lib.hid (Below.far2 H3.out.2 hb (by first | with_reducible exact (Joins.below_alloc2 wy _ _).drew | with_reducible exact (Joins.below_alloc3 wy _ _ _).drew))
         clear hb))
  all_goals (
    go_wp2
    go_ret
    first
      | exact ⟨rfl, HB.out.alloc HB.out.size _⟩
      | exact ⟨rfl, below_set3 HB.out (by omega) _ _ _⟩)
theorem all_zero (v : Vl) (a : Option Addr) (cap : Nat) (hn : a = none → cap = 0) (hi : isV v) (w : World) : Calls Try.prog 5 #[vv v, .slice a 0 cap, .int .i64 0] w fun e w' => e = .returned (.bool true) ∧ Below w.heap.size w w' := by
  cases a with
  | none =>
    obtain rfl := hn rfl
    exact all_zero_none v hi w
  | some ad => exact all_zero_some v ad cap hi w
end Go.Proofs.Ytimilojognidlaa
