/- The walk of ValueApplies. -/
import Derived.Test.YtimilojognidlaaV6
import Derived.Test.YtimilojognidlaaV9
import Derived.Test.YtimilojognidlaaFV
namespace Go.Proofs.Ytimilojognidlaa
open Go Go.RowKit
theorem wrap_in64 {n : Int} (h : In64 n) : wrap64 n = n := by
  obtain ⟨h1, h2⟩ := h
  unfold wrap64; omega
theorem isV_sh {v : Vl} (h : isV v) : Sh v.2.2 := by
  have := h.2
  show v.2.2.size ≤ 100000
  omega
theorem gU_sh {u : Up} (h : ¬ gU u) : Sh u.2.2.2 := by
  unfold gU at h
  show u.2.2.2.size ≤ 100000
  omega
/-- Behind awake: a value and an update that lie in the two first blocks. -/
theorem two_kept {w w1 : World} {v : Vl} {u : Up} (hb : Below ((w.alloc (.cells #[.int .i64 v.1, .int .i64 v.2.1, .string v.2.2] 23)).alloc (.cells #[.string u.1, .int .i64 u.2.1, .int .i64 u.2.2.1, .string u.2.2.2] 25)).heap.size ((w.alloc (.cells #[.int .i64 v.1, .int .i64 v.2.1, .string v.2.2] 23)).alloc (.cells #[.string u.1, .int .i64 u.2.1, .int .i64 u.2.2.1, .string u.2.2.2] 25)) w1) :
    Vb w1 w.heap.size v ∧ Ub w1 (w.heap.size + 1) u ∧ Below w.heap.size w w1 :=
  ⟨kept_at (old_at (heap_alloc_new w _)) hb, kept_at (new_at (by simp)) hb, (Joins.below_alloc2 w _ _).trans (hb.mono (by simp; omega))⟩
theorem two_next {w W w1 w2 : World} {v : Vl} {u : Up} {b c : Nat} (h : Vb w1 b v ∧ Ub w1 c u ∧ Below w.heap.size w w1) (hb : Below W.heap.size W w2) (e1 : W.os = w1.os) (e2 : W.tape = w1.tape) (e3 : W.output = w1.output) (e4 : W.heap = w1.heap) : Vb w2 b v ∧ Ub w2 c u ∧ Below w.heap.size w w2 :=
  ⟨h.1.kept hb e4, h.2.1.kept hb e4, Below.far hb h.2.2 e1 e2 e3 e4⟩
set_option maxHeartbeats 4000000 in
theorem walkApplies (v : Vl) (u : Up) (hin : In64 u.2.2.1) (w : World) : Calls Try.prog 3 #[vv v, uu u] w fun e w' => e = .returned (.bool true) ∧ Below w.heap.size w w' := by
  by_cases hi : isV v
  · have HI := fun w => Lib.hid (is_yes v hi w)
    by_cases hg : gU u
    · have HG := fun w => Lib.hid (great_u_yes u hg w)
      clear hi hg hin
      obtain ⟨vk, vn, vs⟩ := v
      obtain ⟨key, x, n, s⟩ := u
      simp only [vv_eq, uu] at *
      go_enter Try.func3, Try.ntmps3
      go_wp2_with fail
      refine (awake_yes _).mono ?_
      rintro e w1 ⟨rfl, hb⟩
      have h1 := two_kept (v := (vk, vn, vs)) (u := (key, x, n, s)) hb
      obtain ⟨c0, c1, c2⟩ := Vb.c h1.1
      have H1 := Lib.hid h1
      clear hb h1
      go_wp2_with fail
      refine (HI _).out.mono ?_
      rintro e w2 ⟨rfl, hb⟩
      have h2 := two_next H1.out hb rfl rfl rfl rfl
      obtain ⟨d0, d1, d2, d3⟩ := Ub.c h2.2.1
      have H2 := Lib.hid h2
      clear hb h2 H1 c0 c1 c2
      go_wp2_with fail
      refine (HG _).out.mono ?_
      rintro e w3 ⟨rfl, hb⟩
      have H3 := Lib.hid (two_next H2.out hb rfl rfl rfl rfl)
      clear hb H2 d0 d1 d2 d3
      go_wp2_with fail
      refine (awake_yes _).mono ?_
      rintro e w4 ⟨rfl, hb⟩
      have H4 := Lib.hid (two_next H3.out hb rfl rfl rfl rfl)
      clear hb H3
      go_wp2
      go_ret
      exact ⟨rfl, H4.out.2.2⟩
    · have HG := fun w => Lib.hid (great_u_no u hg w)
      have HA := fun w => Lib.hid (apply_any v u (isV_sh hi) (gU_sh hg) w)
      have HR := fun w => Lib.hid (ref_any v u hi.1 (isV_sh hi) (wrap_in64 hin) w)
      clear hi hg hin
      generalize oneV v u = r at *
      obtain ⟨rk, rn, rs⟩ := r
      obtain ⟨vk, vn, vs⟩ := v
      obtain ⟨key, x, n, s⟩ := u
      simp only [vv_eq, uu] at *
      go_enter Try.func3, Try.ntmps3
      go_wp2_with fail
      refine (awake_yes _).mono ?_
      rintro e w1 ⟨rfl, hb⟩
      have h1 := two_kept (v := (vk, vn, vs)) (u := (key, x, n, s)) hb
      obtain ⟨c0, c1, c2⟩ := Vb.c h1.1
      have H1 := Lib.hid h1
      clear hb h1
      go_wp2_with fail
      refine (HI _).out.mono ?_
      rintro e w2 ⟨rfl, hb⟩
      have h2 := two_next H1.out hb rfl rfl rfl rfl
      obtain ⟨d0, d1, d2, d3⟩ := Ub.c h2.2.1
      have H2 := Lib.hid h2
      clear hb h2 H1 c0 c1 c2
      go_wp2_with fail
      refine (HG _).out.mono ?_
      rintro e w3 ⟨rfl, hb⟩
      have h3 := two_next H2.out hb rfl rfl rfl rfl
      clear hb H2 d0 d1 d2 d3
      obtain ⟨c0, c1, c2⟩ := Vb.c h3.1
      obtain ⟨d0, d1, d2, d3⟩ := Ub.c h3.2.1
      have H3 := Lib.hid h3
      clear h3
      go_wp2_with fail
      go_region_held3 (fun w' => w'.cell? ⟨w.heap.size, 0, none⟩ = some (.int .i64 vk) ∧ w'.cell? ⟨w.heap.size, 1, none⟩ = some (.int .i64 vn) ∧ w'.cell? ⟨w.heap.size, 2, none⟩ = some (.string vs) ∧ w'.cell? ⟨w.heap.size + 1, 0, none⟩ = some (.string key) ∧ w'.cell? ⟨w.heap.size + 1, 1, none⟩ = some (.int .i64 x) ∧ w'.cell? ⟨w.heap.size + 1, 2, none⟩ = some (.int .i64 n) ∧ w'.cell? ⟨w.heap.size + 1, 3, none⟩ = some (.string s))
        (first | exact ⟨c0, c1, c2, d0, d1, d2, d3⟩ | exact ⟨i0, i1, i2, j0, j1, j2, j3⟩ | exact ⟨p0, p1, p2, q0, q1, q2, q3⟩)
        (first
          | (go_at_call 11
             refine (HA _).out.mono ?_
             rintro e w4 ⟨rfl, hb⟩
             have h4 := two_next H3.out hb rfl rfl rfl rfl
             obtain ⟨i0, i1, i2⟩ := Vb.c h4.1
             obtain ⟨j0, j1, j2, j3⟩ := Ub.c h4.2.1
             have H4 := Lib.hid h4
             clear hb h4)
          | (go_at_call 12
             refine (HR _).out.mono ?_
             rintro e w5 ⟨rfl, hb⟩
             have h5 := two_next H4.out hb rfl rfl rfl rfl
             obtain ⟨p0, p1, p2⟩ := Vb.c h5.1
             obtain ⟨q0, q1, q2, q3⟩ := Ub.c h5.2.1
             have H5 := Lib.hid h5
             clear hb h5))
      go_wp2
      go_ret
      exact ⟨rfl, H5.out.2.2⟩
  · have HI := fun w => Lib.hid (is_no v hi w)
    clear hi hin
    obtain ⟨vk, vn, vs⟩ := v
    obtain ⟨key, x, n, s⟩ := u
    simp only [vv_eq, uu] at *
    go_enter Try.func3, Try.ntmps3
    go_wp2_with fail
    refine (awake_yes _).mono ?_
    rintro e w1 ⟨rfl, hb⟩
    have h1 := two_kept (v := (vk, vn, vs)) (u := (key, x, n, s)) hb
    obtain ⟨c0, c1, c2⟩ := Vb.c h1.1
    have H1 := Lib.hid h1
    clear hb h1
    go_wp2_with fail
    refine (HI _).out.mono ?_
    rintro e w2 ⟨rfl, hb⟩
    have H2 := Lib.hid (two_next H1.out hb rfl rfl rfl rfl)
    clear hb H1 c0 c1 c2
    go_wp2_with fail
    refine (awake_yes _).mono ?_
    rintro e w4 ⟨rfl, hb⟩
    have H4 := Lib.hid (two_next H2.out hb rfl rfl rfl rfl)
    clear hb H2
    go_wp2
    go_ret
    exact ⟨rfl, H4.out.2.2⟩
end Go.Proofs.Ytimilojognidlaa
