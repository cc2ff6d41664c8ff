/- The walk of ValueMay. -/
import Derived.Test.YtimilojognidlaaV5
import Derived.Test.YtimilojognidlaaV8
import Derived.Deep.RegionHeld3
namespace Go.Proofs.Ytimilojognidlaa
open Go Go.RowKit
theorem Ub.c {w : World} {b : Nat} {key : ByteArray} {x n : Int} {s : ByteArray} (h : Ub w b (key, x, n, s)) : w.cell? ⟨b, 0, none⟩ = some (.string key) ∧ w.cell? ⟨b, 1, none⟩ = some (.int .i64 x) ∧ w.cell? ⟨b, 2, none⟩ = some (.int .i64 n) ∧ w.cell? ⟨b, 3, none⟩ = some (.string s) :=
  ⟨cell_at h 0 _ rfl, cell_at h 1 _ rfl, cell_at h 2 _ rfl, cell_at h 3 _ rfl⟩
theorem Vb.c {w : World} {b : Nat} {k n : Int} {s : ByteArray} (h : Vb w b (k, n, s)) : w.cell? ⟨b, 0, none⟩ = some (.int .i64 k) ∧ w.cell? ⟨b, 1, none⟩ = some (.int .i64 n) ∧ w.cell? ⟨b, 2, none⟩ = some (.string s) :=
  ⟨cell_at h 0 _ rfl, cell_at h 1 _ rfl, cell_at h 2 _ rfl⟩
theorem Below.next {w w1 w2 : World} (h : Below w.heap.size w w1) (hb : Below w1.heap.size w1 w2) : Below w.heap.size w w2 := h.trans (hb.mono h.size)
theorem Below.far {w w1 W w2 : World} (hb : Below W.heap.size W w2) (h : Below w.heap.size w w1) (e1 : W.os = w1.os) (e2 : W.tape = w1.tape) (e3 : W.output = w1.output) (e4 : W.heap = w1.heap) : Below w.heap.size w w2 := Below.next (w1 := W) ⟨e1.trans h.os, e2.trans h.tape, e3.trans h.output, by rw [e4]; exact h.size, fun k hk => by rw [e4]; exact h.block k hk⟩ hb
set_option maxHeartbeats 4000000 in
theorem walkMay (u : Up) (w : World) : Calls Try.prog 4 #[uu u] w fun e w' => e = .returned (.bool true) ∧ Below w.heap.size w w' := by
  have HM := fun w => Lib.hid (may_any u w)
  have HR := fun w => Lib.hid (rmay_any u w)
  generalize mayE u = r at *
  have HG1 := fun h w => Lib.hid (great_u_yes u h w)
  have HG2 := fun h w => Lib.hid (great_u_no u h w)
  generalize hg : gU u = g at *
  clear hg
  obtain ⟨key, x, n, s⟩ := u
  simp only [uu] at *
  by_cases hgg : g
  · have HG := HG1 hgg
    clear HG1 HG2 HM HR hgg
    go_enter Try.func4, Try.ntmps4
    go_wp2_with fail
    refine (awake_yes _).mono ?_
    rintro e w1 ⟨rfl, hb⟩
    obtain ⟨c0, c1, c2, c3⟩ := Ub.c (Ub.kept (heap_alloc_new w (.cells #[.string key, .int .i64 x, .int .i64 n, .string s] 25)) hb rfl)
    have HB1 := Lib.hid ((Joins.below_alloc1 w _).trans (hb.mono (by simp)))
    clear hb
    go_wp2_with fail
    refine (HG _).out.mono ?_
    rintro e w2 ⟨rfl, hb⟩
    have HB2 := Lib.hid (Below.next HB1.out hb)
    clear hb HB1 c0 c1 c2 c3
    go_wp2_with fail
    refine (awake_yes _).mono ?_
    rintro e w3 ⟨rfl, hb⟩
    have HB3 := Lib.hid (Below.next HB2.out hb)
    clear hb HB2
    go_wp2
    go_ret
    exact ⟨rfl, HB3.out⟩
  · have HG := HG2 hgg
    clear HG1 HG2 hgg
    go_enter Try.func4, Try.ntmps4
    go_wp2_with fail
    refine (awake_yes _).mono ?_
    rintro e w1 ⟨rfl, hb⟩
    have hu1 := Ub.kept (heap_alloc_new w (.cells #[.string key, .int .i64 x, .int .i64 n, .string s] 25)) hb rfl (v := (key, x, n, s))
    obtain ⟨c0, c1, c2, c3⟩ := Ub.c hu1
    have HB1 := Lib.hid ((Joins.below_alloc1 w _).trans (hb.mono (by simp)))
    have HU1 := Lib.hid hu1
    clear hb hu1
    go_wp2_with fail
    refine (HG _).out.mono ?_
    rintro e w2 ⟨rfl, hb⟩
    have hu2 := HU1.out.kept hb rfl
    have hc2 := Ub.c hu2
    have HS2 := Lib.hid (And.intro hu2 (Below.next HB1.out hb))
    clear hb HB1 c0 c1 c2 c3 HU1 hu2
    obtain ⟨c0, c1, c2, c3⟩ := hc2
    go_wp2_with fail
    go_region_held3 (fun w' => w'.cell? ⟨w.heap.size, 0, none⟩ = some (.string key) ∧ w'.cell? ⟨w.heap.size, 1, none⟩ = some (.int .i64 x) ∧ w'.cell? ⟨w.heap.size, 2, none⟩ = some (.int .i64 n) ∧ w'.cell? ⟨w.heap.size, 3, none⟩ = some (.string s))
      (first | exact ⟨c0, c1, c2, c3⟩ | exact ⟨d0, d1, d2, d3⟩ | exact ⟨e0, e1, e2, e3⟩)
      (first
        | (go_at_call 13
           refine (HM _).out.mono ?_
           rintro e w3 ⟨rfl, hb⟩
           have hu3 := HS2.out.1.kept hb rfl
           obtain ⟨d0, d1, d2, d3⟩ := Ub.c hu3
           have HS3 := Lib.hid (And.intro hu3 (Below.far hb HS2.out.2 rfl rfl rfl rfl))
           clear hb hu3)
        | (go_at_call 14
           refine (HR _).out.mono ?_
           rintro e w4 ⟨rfl, hb⟩
           have hu4 := HS3.out.1.kept hb rfl
           obtain ⟨e0, e1, e2, e3⟩ := Ub.c hu4
           have HS4 := Lib.hid (And.intro hu4 (Below.far hb HS3.out.2 rfl rfl rfl rfl))
           clear hb hu4))
    go_wp2
    go_ret
    exact ⟨rfl, HS4.out.2⟩
end Go.Proofs.Ytimilojognidlaa
