/- The walk of ValueLast. -/
import Derived.Test.YtimilojognidlaaVA
namespace Go.Proofs.Ytimilojognidlaa
open Go Go.RowKit
/-- What a set, a text or a delete makes, of whatever value. -/
def lastV (u : Up) : Vl := if u.2.1 = 1 then numV u.2.2.1 else if u.2.1 = 2 then txtV u.2.2.2 else noneV
theorem one_last (v : Vl) (u : Up) (h : u.2.1 = 1 ∨ u.2.1 = 2 ∨ u.2.1 = 5) : oneV v u = lastV u := by
  unfold oneV madeV lastV
  rcases h with h | h | h <;> simp [h]
theorem last_sh (u : Up) (h : Sh u.2.2.2) : Sh (lastV u).2.2 := by
  unfold lastV; split
  · show (0 : Nat) ≤ _; omega
  split
  · exact h
  · show (0 : Nat) ≤ _; omega
theorem three_kept {w w1 : World} {v x : Vl} {u : Up} (hb : Below (((w.alloc (.cells #[.int .i64 v.1, .int .i64 v.2.1, .string v.2.2] 23)).alloc (.cells #[.int .i64 x.1, .int .i64 x.2.1, .string x.2.2] 23)).alloc (.cells #[.string u.1, .int .i64 u.2.1, .int .i64 u.2.2.1, .string u.2.2.2] 25)).heap.size (((w.alloc (.cells #[.int .i64 v.1, .int .i64 v.2.1, .string v.2.2] 23)).alloc (.cells #[.int .i64 x.1, .int .i64 x.2.1, .string x.2.2] 23)).alloc (.cells #[.string u.1, .int .i64 u.2.1, .int .i64 u.2.2.1, .string u.2.2.2] 25)) w1) :
    Vb w1 w.heap.size v ∧ Vb w1 (w.heap.size + 1) x ∧ Ub w1 (w.heap.size + 1 + 1) u ∧ Below w.heap.size w w1 :=
  ⟨kept_at (old_at (old_at (heap_alloc_new w _))) hb, kept_at (old_at (new_at (by simp))) hb, kept_at (new_at (by simp)) hb, (Joins.below_alloc3 w _ _ _).trans (hb.mono (by simp; omega))⟩
theorem three_next {w W w1 w2 : World} {v x : Vl} {u : Up} {b c d : Nat} (h : Vb w1 b v ∧ Vb w1 c x ∧ Ub w1 d u ∧ Below w.heap.size w w1) (hb : Below W.heap.size W w2) (e1 : W.os = w1.os) (e2 : W.tape = w1.tape) (e3 : W.output = w1.output) (e4 : W.heap = w1.heap) : Vb w2 b v ∧ Vb w2 c x ∧ Ub w2 d u ∧ Below w.heap.size w w2 :=
  ⟨h.1.kept hb e4, h.2.1.kept hb e4, h.2.2.1.kept hb e4, Below.far hb h.2.2.2 e1 e2 e3 e4⟩
set_option maxHeartbeats 4000000 in
theorem last_v (v y : Vl) (u : Up) (hi : ¬ isV v) (w : World) : Calls Try.prog 6 #[vv v, vv y, uu u] w fun e w' => e = .returned (.bool true) ∧ Below w.heap.size w w' := by
  have HI := fun w => Lib.hid (is_no v hi w)
  clear hi
  obtain ⟨vk, vn, vs⟩ := v
  obtain ⟨yk, yn, ys⟩ := y
  obtain ⟨key, x, n, s⟩ := u
  simp only [vv_eq, uu] at *
  go_enter Try.func6, Try.ntmps6
  go_wp2_with fail
  refine (awake_yes _).mono ?_
  rintro e w1 ⟨rfl, hb⟩
  have h1 := three_kept (v := (vk, vn, vs)) (x := (yk, yn, ys)) (u := (key, x, n, s)) hb
  obtain ⟨c0, c1, c2⟩ := Vb.c h1.1
  have H := Lib.hid h1
  clear hb h1
  go_wp2_with fail
  refine (HI _).out.mono ?_
  rintro e wx ⟨rfl, hb⟩
  have hx := three_next H.out hb rfl rfl rfl rfl
  clear H c0 c1 c2
  have H := Lib.hid hx
  clear hb hx
  go_wp2_with fail
  refine (awake_yes _).mono ?_
  rintro e wz ⟨rfl, hb⟩
  have HZ := Lib.hid (three_next H.out hb rfl rfl rfl rfl)
  clear hb
  go_wp2
  go_ret
  exact ⟨rfl, HZ.out.2.2.2⟩
set_option maxHeartbeats 4000000 in
theorem last_y (v y : Vl) (u : Up) (hi : isV v) (hj : ¬ isV y) (w : World) : Calls Try.prog 6 #[vv v, vv y, uu u] w fun e w' => e = .returned (.bool true) ∧ Below w.heap.size w w' := by
  have HI := fun w => Lib.hid (is_yes v hi w)
  have HJ := fun w => Lib.hid (is_no y hj w)
  clear hi hj
  obtain ⟨vk, vn, vs⟩ := v
  obtain ⟨yk, yn, ys⟩ := y
  obtain ⟨key, x, n, s⟩ := u
  simp only [vv_eq, uu] at *
  go_enter Try.func6, Try.ntmps6
  go_wp2_with fail
  refine (awake_yes _).mono ?_
  rintro e w1 ⟨rfl, hb⟩
  have h1 := three_kept (v := (vk, vn, vs)) (x := (yk, yn, ys)) (u := (key, x, n, s)) hb
  obtain ⟨c0, c1, c2⟩ := Vb.c h1.1
  have H := Lib.hid h1
  clear hb h1
  go_wp2_with fail
  refine (HI _).out.mono ?_
  rintro e wx ⟨rfl, hb⟩
  have hx := three_next H.out hb rfl rfl rfl rfl
  clear H c0 c1 c2
  obtain ⟨c0, c1, c2⟩ := Vb.c hx.2.1
  have H := Lib.hid hx
  clear hb hx
  go_wp2_with fail
  refine (HJ _).out.mono ?_
  rintro e wx ⟨rfl, hb⟩
  have hx := three_next H.out hb rfl rfl rfl rfl
  clear H c0 c1 c2
  have H := Lib.hid hx
  clear hb hx
  go_wp2_with fail
  refine (awake_yes _).mono ?_
  rintro e wz ⟨rfl, hb⟩
  have HZ := Lib.hid (three_next H.out hb rfl rfl rfl rfl)
  clear hb
  go_wp2
  go_ret
  exact ⟨rfl, HZ.out.2.2.2⟩
set_option maxHeartbeats 4000000 in
theorem last_g (v y : Vl) (u : Up) (hi : isV v) (hj : isV y) (hg : gU u) (w : World) : Calls Try.prog 6 #[vv v, vv y, uu u] w fun e w' => e = .returned (.bool true) ∧ Below w.heap.size w w' := by
  have HI := fun w => Lib.hid (is_yes v hi w)
  have HJ := fun w => Lib.hid (is_yes y hj w)
  have HG := fun w => Lib.hid (great_u_yes u hg w)
  clear hi hj hg
  obtain ⟨vk, vn, vs⟩ := v
  obtain ⟨yk, yn, ys⟩ := y
  obtain ⟨key, x, n, s⟩ := u
  simp only [vv_eq, uu] at *
  go_enter Try.func6, Try.ntmps6
  go_wp2_with fail
  refine (awake_yes _).mono ?_
  rintro e w1 ⟨rfl, hb⟩
  have h1 := three_kept (v := (vk, vn, vs)) (x := (yk, yn, ys)) (u := (key, x, n, s)) hb
  obtain ⟨c0, c1, c2⟩ := Vb.c h1.1
  have H := Lib.hid h1
  clear hb h1
  go_wp2_with fail
  refine (HI _).out.mono ?_
  rintro e wx ⟨rfl, hb⟩
  have hx := three_next H.out hb rfl rfl rfl rfl
  clear H c0 c1 c2
  obtain ⟨c0, c1, c2⟩ := Vb.c hx.2.1
  have H := Lib.hid hx
  clear hb hx
  go_wp2_with fail
  refine (HJ _).out.mono ?_
  rintro e wx ⟨rfl, hb⟩
  have hx := three_next H.out hb rfl rfl rfl rfl
  clear H c0 c1 c2
  obtain ⟨c0, c1, c2, c3⟩ := Ub.c hx.2.2.1
  have H := Lib.hid hx
  clear hb hx
  go_wp2_with fail
  refine (HG _).out.mono ?_
  rintro e wx ⟨rfl, hb⟩
  have hx := three_next H.out hb rfl rfl rfl rfl
  clear H c0 c1 c2 c3
  have H := Lib.hid hx
  clear hb hx
  go_wp2_with fail
  refine (awake_yes _).mono ?_
  rintro e wz ⟨rfl, hb⟩
  have HZ := Lib.hid (three_next H.out hb rfl rfl rfl rfl)
  clear hb
  go_wp2
  go_ret
  exact ⟨rfl, HZ.out.2.2.2⟩
set_option maxHeartbeats 4000000 in
theorem last_k (v y : Vl) (u : Up) (hi : isV v) (hj : isV y) (hg : ¬ gU u) (h1 : ¬ u.2.1 = 1) (h2 : ¬ u.2.1 = 2) (h5 : ¬ u.2.1 = 5) (w : World) : Calls Try.prog 6 #[vv v, vv y, uu u] w fun e w' => e = .returned (.bool true) ∧ Below w.heap.size w w' := by
  have HI := fun w => Lib.hid (is_yes v hi w)
  have HJ := fun w => Lib.hid (is_yes y hj w)
  have HG := fun w => Lib.hid (great_u_no u hg w)
  have g1 : (u.2.1 != 1) = true := bne_iff_ne.2 h1
  have g2 : (u.2.1 != 2) = true := bne_iff_ne.2 h2
  have g5 : (u.2.1 != 5) = true := bne_iff_ne.2 h5
  clear hi hj hg h1 h2 h5
  obtain ⟨vk, vn, vs⟩ := v
  obtain ⟨yk, yn, ys⟩ := y
  obtain ⟨key, x, n, s⟩ := u
  simp only [vv_eq, uu] at *
  go_enter Try.func6, Try.ntmps6
  go_wp2_with fail
  refine (awake_yes _).mono ?_
  rintro e w1 ⟨rfl, hb⟩
  have h1 := three_kept (v := (vk, vn, vs)) (x := (yk, yn, ys)) (u := (key, x, n, s)) hb
  obtain ⟨c0, c1, c2⟩ := Vb.c h1.1
  have H := Lib.hid h1
  clear hb h1
  go_wp2_with fail
  refine (HI _).out.mono ?_
  rintro e wx ⟨rfl, hb⟩
  have hx := three_next H.out hb rfl rfl rfl rfl
  clear H c0 c1 c2
  obtain ⟨c0, c1, c2⟩ := Vb.c hx.2.1
  have H := Lib.hid hx
  clear hb hx
  go_wp2_with fail
  refine (HJ _).out.mono ?_
  rintro e wx ⟨rfl, hb⟩
  have hx := three_next H.out hb rfl rfl rfl rfl
  clear H c0 c1 c2
  obtain ⟨c0, c1, c2, c3⟩ := Ub.c hx.2.2.1
  have H := Lib.hid hx
  clear hb hx
  go_wp2_with fail
  refine (HG _).out.mono ?_
  rintro e wx ⟨rfl, hb⟩
  have hx := three_next H.out hb rfl rfl rfl rfl
  clear H c0 c1 c2 c3
  obtain ⟨c0, c1, c2, c3⟩ := Ub.c hx.2.2.1
  have H := Lib.hid hx
  clear hb hx
  go_wp2_with fail
  refine (awake_yes _).mono ?_
  rintro e wz ⟨rfl, hb⟩
  have HZ := Lib.hid (three_next H.out hb rfl rfl rfl rfl)
  clear hb
  go_wp2
  go_ret
  exact ⟨rfl, HZ.out.2.2.2⟩
set_option maxHeartbeats 8000000 in
theorem last_1 (v y : Vl) (u : Up) (hi : isV v) (hj : isV y) (hg : ¬ gU u) (h : u.2.1 = 1) (w : World) : Calls Try.prog 6 #[vv v, vv y, uu u] w fun e w' => e = .returned (.bool true) ∧ Below w.heap.size w w' := by
  have HI := fun w => Lib.hid (is_yes v hi w)
  have HJ := fun w => Lib.hid (is_yes y hj w)
  have HG := fun w => Lib.hid (great_u_no u hg w)
  have HA := fun a (h : Sh a.2.2) w => Lib.hid (apply_any a u h (gU_sh hg) w)
  have hk : ∀ a, oneV a u = lastV u := fun a => one_last a u (by omega)
  simp only [hk] at HA
  have hr := last_sh u (gU_sh hg)
  have hv := isV_sh hi
  have hy := isV_sh hj
  clear hi hj hg hk
  generalize lastV u = r at *
  obtain ⟨rk, rn, rs⟩ := r
  obtain ⟨vk, vn, vs⟩ := v
  obtain ⟨yk, yn, ys⟩ := y
  obtain ⟨key, x, n, s⟩ := u
  simp only at h hv hy hr
  subst h
  have HAV := HA (vk, vn, vs) hv
  have HAY := HA (yk, yn, ys) hy
  have HAR := HA (rk, rn, rs) hr
  clear HA hv hy hr
  simp only [vv_eq, uu] at *
  go_enter Try.func6, Try.ntmps6
  go_wp2_with fail
  refine (awake_yes _).mono ?_
  rintro e w1 ⟨rfl, hb⟩
  have h1 := three_kept (v := (vk, vn, vs)) (x := (yk, yn, ys)) (u := (key, 1, n, s)) hb
  obtain ⟨c0, c1, c2⟩ := Vb.c h1.1
  have H := Lib.hid h1
  clear hb h1
  go_wp2_with fail
  refine (HI _).out.mono ?_
  rintro e wx ⟨rfl, hb⟩
  have hx := three_next H.out hb rfl rfl rfl rfl
  clear H c0 c1 c2
  obtain ⟨c0, c1, c2⟩ := Vb.c hx.2.1
  have H := Lib.hid hx
  clear hb hx
  go_wp2_with fail
  refine (HJ _).out.mono ?_
  rintro e wx ⟨rfl, hb⟩
  have hx := three_next H.out hb rfl rfl rfl rfl
  clear H c0 c1 c2
  obtain ⟨c0, c1, c2, c3⟩ := Ub.c hx.2.2.1
  have H := Lib.hid hx
  clear hb hx
  go_wp2_with fail
  refine (HG _).out.mono ?_
  rintro e wx ⟨rfl, hb⟩
  have hx := three_next H.out hb rfl rfl rfl rfl
  clear H c0 c1 c2 c3
  obtain ⟨c0, c1, c2⟩ := Vb.c hx.1
  obtain ⟨d0, d1, d2⟩ := Vb.c hx.2.1
  obtain ⟨e0, e1, e2, e3⟩ := Ub.c hx.2.2.1
  have H := Lib.hid hx
  clear hb hx
  go_wp2_with fail
  go_region_held3 (fun w' => w'.cell? ⟨w.heap.size, 0, none⟩ = some (.int .i64 vk) ∧ w'.cell? ⟨w.heap.size, 1, none⟩ = some (.int .i64 vn) ∧ w'.cell? ⟨w.heap.size, 2, none⟩ = some (.string vs) ∧ w'.cell? ⟨w.heap.size + 1, 0, none⟩ = some (.int .i64 yk) ∧ w'.cell? ⟨w.heap.size + 1, 1, none⟩ = some (.int .i64 yn) ∧ w'.cell? ⟨w.heap.size + 1, 2, none⟩ = some (.string ys) ∧ w'.cell? ⟨w.heap.size + 1 + 1, 0, none⟩ = some (.string key) ∧ w'.cell? ⟨w.heap.size + 1 + 1, 1, none⟩ = some (.int .i64 1) ∧ w'.cell? ⟨w.heap.size + 1 + 1, 2, none⟩ = some (.int .i64 n) ∧ w'.cell? ⟨w.heap.size + 1 + 1, 3, none⟩ = some (.string s))
    (first | exact ⟨c0, c1, c2, d0, d1, d2, e0, e1, e2, e3⟩)
    (first
      | (go_at_call 11
         first
           | refine (HAV _).out.mono ?_
           | refine (HAY _).out.mono ?_
           | refine (HAR _).out.mono ?_
         rintro e wx ⟨rfl, hb⟩
         have hx := three_next H.out hb rfl rfl rfl rfl
         obtain ⟨c0, c1, c2⟩ := Vb.c hx.1
         obtain ⟨d0, d1, d2⟩ := Vb.c hx.2.1
         obtain ⟨e0, e1, e2, e3⟩ := Ub.c hx.2.2.1
         have H := Lib.hid hx
         clear hb hx))
  go_wp2
  go_ret
  exact ⟨rfl, H.out.2.2.2⟩
set_option maxHeartbeats 8000000 in
theorem last_2 (v y : Vl) (u : Up) (hi : isV v) (hj : isV y) (hg : ¬ gU u) (h : u.2.1 = 2) (w : World) : Calls Try.prog 6 #[vv v, vv y, uu u] w fun e w' => e = .returned (.bool true) ∧ Below w.heap.size w w' := by
  have HI := fun w => Lib.hid (is_yes v hi w)
  have HJ := fun w => Lib.hid (is_yes y hj w)
  have HG := fun w => Lib.hid (great_u_no u hg w)
  have HA := fun a (h : Sh a.2.2) w => Lib.hid (apply_any a u h (gU_sh hg) w)
  have hk : ∀ a, oneV a u = lastV u := fun a => one_last a u (by omega)
  simp only [hk] at HA
  have hr := last_sh u (gU_sh hg)
  have hv := isV_sh hi
  have hy := isV_sh hj
  clear hi hj hg hk
  generalize lastV u = r at *
  obtain ⟨rk, rn, rs⟩ := r
  obtain ⟨vk, vn, vs⟩ := v
  obtain ⟨yk, yn, ys⟩ := y
  obtain ⟨key, x, n, s⟩ := u
  simp only at h hv hy hr
  subst h
  have HAV := HA (vk, vn, vs) hv
  have HAY := HA (yk, yn, ys) hy
  have HAR := HA (rk, rn, rs) hr
  clear HA hv hy hr
  simp only [vv_eq, uu] at *
  go_enter Try.func6, Try.ntmps6
  go_wp2_with fail
  refine (awake_yes _).mono ?_
  rintro e w1 ⟨rfl, hb⟩
  have h1 := three_kept (v := (vk, vn, vs)) (x := (yk, yn, ys)) (u := (key, 2, n, s)) hb
  obtain ⟨c0, c1, c2⟩ := Vb.c h1.1
  have H := Lib.hid h1
  clear hb h1
  go_wp2_with fail
  refine (HI _).out.mono ?_
  rintro e wx ⟨rfl, hb⟩
  have hx := three_next H.out hb rfl rfl rfl rfl
  clear H c0 c1 c2
  obtain ⟨c0, c1, c2⟩ := Vb.c hx.2.1
  have H := Lib.hid hx
  clear hb hx
  go_wp2_with fail
  refine (HJ _).out.mono ?_
  rintro e wx ⟨rfl, hb⟩
  have hx := three_next H.out hb rfl rfl rfl rfl
  clear H c0 c1 c2
  obtain ⟨c0, c1, c2, c3⟩ := Ub.c hx.2.2.1
  have H := Lib.hid hx
  clear hb hx
  go_wp2_with fail
  refine (HG _).out.mono ?_
  rintro e wx ⟨rfl, hb⟩
  have hx := three_next H.out hb rfl rfl rfl rfl
  clear H c0 c1 c2 c3
  obtain ⟨c0, c1, c2⟩ := Vb.c hx.1
  obtain ⟨d0, d1, d2⟩ := Vb.c hx.2.1
  obtain ⟨e0, e1, e2, e3⟩ := Ub.c hx.2.2.1
  have H := Lib.hid hx
  clear hb hx
  go_wp2_with fail
  go_region_held3 (fun w' => w'.cell? ⟨w.heap.size, 0, none⟩ = some (.int .i64 vk) ∧ w'.cell? ⟨w.heap.size, 1, none⟩ = some (.int .i64 vn) ∧ w'.cell? ⟨w.heap.size, 2, none⟩ = some (.string vs) ∧ w'.cell? ⟨w.heap.size + 1, 0, none⟩ = some (.int .i64 yk) ∧ w'.cell? ⟨w.heap.size + 1, 1, none⟩ = some (.int .i64 yn) ∧ w'.cell? ⟨w.heap.size + 1, 2, none⟩ = some (.string ys) ∧ w'.cell? ⟨w.heap.size + 1 + 1, 0, none⟩ = some (.string key) ∧ w'.cell? ⟨w.heap.size + 1 + 1, 1, none⟩ = some (.int .i64 2) ∧ w'.cell? ⟨w.heap.size + 1 + 1, 2, none⟩ = some (.int .i64 n) ∧ w'.cell? ⟨w.heap.size + 1 + 1, 3, none⟩ = some (.string s))
    (first | exact ⟨c0, c1, c2, d0, d1, d2, e0, e1, e2, e3⟩)
    (first
      | (go_at_call 11
         first
           | refine (HAV _).out.mono ?_
           | refine (HAY _).out.mono ?_
           | refine (HAR _).out.mono ?_
         rintro e wx ⟨rfl, hb⟩
         have hx := three_next H.out hb rfl rfl rfl rfl
         obtain ⟨c0, c1, c2⟩ := Vb.c hx.1
         obtain ⟨d0, d1, d2⟩ := Vb.c hx.2.1
         obtain ⟨e0, e1, e2, e3⟩ := Ub.c hx.2.2.1
         have H := Lib.hid hx
         clear hb hx))
  go_wp2
  go_ret
  exact ⟨rfl, H.out.2.2.2⟩
set_option maxHeartbeats 8000000 in
theorem last_5 (v y : Vl) (u : Up) (hi : isV v) (hj : isV y) (hg : ¬ gU u) (h : u.2.1 = 5) (w : World) : Calls Try.prog 6 #[vv v, vv y, uu u] w fun e w' => e = .returned (.bool true) ∧ Below w.heap.size w w' := by
  have HI := fun w => Lib.hid (is_yes v hi w)
  have HJ := fun w => Lib.hid (is_yes y hj w)
  have HG := fun w => Lib.hid (great_u_no u hg w)
  have HA := fun a (h : Sh a.2.2) w => Lib.hid (apply_any a u h (gU_sh hg) w)
  have hk : ∀ a, oneV a u = lastV u := fun a => one_last a u (by omega)
  simp only [hk] at HA
  have hr := last_sh u (gU_sh hg)
  have hv := isV_sh hi
  have hy := isV_sh hj
  clear hi hj hg hk
  generalize lastV u = r at *
  obtain ⟨rk, rn, rs⟩ := r
  obtain ⟨vk, vn, vs⟩ := v
  obtain ⟨yk, yn, ys⟩ := y
  obtain ⟨key, x, n, s⟩ := u
  simp only at h hv hy hr
  subst h
  have HAV := HA (vk, vn, vs) hv
  have HAY := HA (yk, yn, ys) hy
  have HAR := HA (rk, rn, rs) hr
  clear HA hv hy hr
  simp only [vv_eq, uu] at *
  go_enter Try.func6, Try.ntmps6
  go_wp2_with fail
  refine (awake_yes _).mono ?_
  rintro e w1 ⟨rfl, hb⟩
  have h1 := three_kept (v := (vk, vn, vs)) (x := (yk, yn, ys)) (u := (key, 5, n, s)) hb
  obtain ⟨c0, c1, c2⟩ := Vb.c h1.1
  have H := Lib.hid h1
  clear hb h1
  go_wp2_with fail
  refine (HI _).out.mono ?_
  rintro e wx ⟨rfl, hb⟩
  have hx := three_next H.out hb rfl rfl rfl rfl
  clear H c0 c1 c2
  obtain ⟨c0, c1, c2⟩ := Vb.c hx.2.1
  have H := Lib.hid hx
  clear hb hx
  go_wp2_with fail
  refine (HJ _).out.mono ?_
  rintro e wx ⟨rfl, hb⟩
  have hx := three_next H.out hb rfl rfl rfl rfl
  clear H c0 c1 c2
  obtain ⟨c0, c1, c2, c3⟩ := Ub.c hx.2.2.1
  have H := Lib.hid hx
  clear hb hx
  go_wp2_with fail
  refine (HG _).out.mono ?_
  rintro e wx ⟨rfl, hb⟩
  have hx := three_next H.out hb rfl rfl rfl rfl
  clear H c0 c1 c2 c3
  obtain ⟨c0, c1, c2⟩ := Vb.c hx.1
  obtain ⟨d0, d1, d2⟩ := Vb.c hx.2.1
  obtain ⟨e0, e1, e2, e3⟩ := Ub.c hx.2.2.1
  have H := Lib.hid hx
  clear hb hx
  go_wp2_with fail
  go_region_held3 (fun w' => w'.cell? ⟨w.heap.size, 0, none⟩ = some (.int .i64 vk) ∧ w'.cell? ⟨w.heap.size, 1, none⟩ = some (.int .i64 vn) ∧ w'.cell? ⟨w.heap.size, 2, none⟩ = some (.string vs) ∧ w'.cell? ⟨w.heap.size + 1, 0, none⟩ = some (.int .i64 yk) ∧ w'.cell? ⟨w.heap.size + 1, 1, none⟩ = some (.int .i64 yn) ∧ w'.cell? ⟨w.heap.size + 1, 2, none⟩ = some (.string ys) ∧ w'.cell? ⟨w.heap.size + 1 + 1, 0, none⟩ = some (.string key) ∧ w'.cell? ⟨w.heap.size + 1 + 1, 1, none⟩ = some (.int .i64 5) ∧ w'.cell? ⟨w.heap.size + 1 + 1, 2, none⟩ = some (.int .i64 n) ∧ w'.cell? ⟨w.heap.size + 1 + 1, 3, none⟩ = some (.string s))
    (first | exact ⟨c0, c1, c2, d0, d1, d2, e0, e1, e2, e3⟩)
    (first
      | (go_at_call 11
         first
           | refine (HAV _).out.mono ?_
           | refine (HAY _).out.mono ?_
           | refine (HAR _).out.mono ?_
         rintro e wx ⟨rfl, hb⟩
         have hx := three_next H.out hb rfl rfl rfl rfl
         obtain ⟨c0, c1, c2⟩ := Vb.c hx.1
         obtain ⟨d0, d1, d2⟩ := Vb.c hx.2.1
         obtain ⟨e0, e1, e2, e3⟩ := Ub.c hx.2.2.1
         have H := Lib.hid hx
         clear hb hx))
  go_wp2
  go_ret
  exact ⟨rfl, H.out.2.2.2⟩
theorem walkLast (v y : Vl) (u : Up) (w : World) : Calls Try.prog 6 #[vv v, vv y, uu u] w fun e w' => e = .returned (.bool true) ∧ Below w.heap.size w w' := by
  by_cases hi : isV v
  · by_cases hj : isV y
    · by_cases hg : gU u
      · exact last_g v y u hi hj hg w
      by_cases h1 : u.2.1 = 1
      · exact last_1 v y u hi hj hg h1 w
      by_cases h2 : u.2.1 = 2
      · exact last_2 v y u hi hj hg h2 w
      by_cases h5 : u.2.1 = 5
      · exact last_5 v y u hi hj hg h5 w
      exact last_k v y u hi hj hg h1 h2 h5 w
    · exact last_y v y u hi hj w
  · exact last_v v y u hi w
end Go.Proofs.Ytimilojognidlaa
