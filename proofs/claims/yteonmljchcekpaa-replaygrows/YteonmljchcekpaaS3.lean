/- Do. -/
import Derived.Test.YteonmljchcekpaaS2
namespace Go.Proofs.Yteonmljchcekpaa
open Go Go.RowKit Go.Maps
set_option maxRecDepth 20000
theorem doF_put {f : Fn} {u : Up} (h : mayE u = 0) : putF f (ky u.1) (oneV (f (ky u.1)) u) = doF f u := by
  funext x
  by_cases e : x = ky u.1
  · subst e; simp [putF, doF, h]
  · simp [putF, doF, e]
/-- The update's box, the store, behind a call that makes memory. -/
theorem do_arm {w W w1 : World} {b m n : Nat} {f : Fn} {u : Up} {B : Nat} (h : St w b m n f) (hu : Ub w B u) (hb : Below W.heap.size W w1) (hW : W.heap = w.heap) : St w1 b m n f ∧ Ub w1 B u :=
  ⟨(h.same hW).below hb, hu.kept hb hW⟩
theorem do_end {w w1 : World} {b m n : Nat} {f g : Fn} {u : Up} {B : Nat} (h : St w b m n f) (hu : Ub w B u) (h1 : St w1 b m (n + 1) g) (hg : w.grownBy w1 (some m)) : w1.cell? ⟨b, 0, none⟩ = some (.map (some m)) ∧ Ub w1 B u := by
  refine ⟨h1.c, (hg.block B hu.lt fun e => ?_).trans hu⟩
  obtain ⟨_, D, ⟨es, clock, hm, _⟩, _⟩ := h
  injection e with e
  subst e
  unfold Ub at hu
  rw [hu] at hm; cases hm
set_option maxHeartbeats 1000000 in
theorem do_no (b m n : Nat) (f : Fn) (u : Up) (hm : ¬ mayE u = 0) (w : World) (h : St w b m n f) :
    Calls Try.prog 23 #[.pointer (some ⟨b, 0, none⟩), uu u] w fun e w' => e = .returned (.int .i64 (mayE u)) ∧ St w' b m n f ∧ w.grownBy w' (some m) := by
  have HM := fun w => Lib.hid (may_any u w)
  have hq : (mayE u == 0) = false := beq_false_of_ne hm
  have HS := Lib.hid h
  clear h hm
  generalize mayE u = r at *
  obtain ⟨key, x, q, s⟩ := u
  simp only [uu] at *
  go_enter Try.func23, Try.ntmps23
  go_wp2_with fail
  refine (HM _).out.mono ?_
  rintro e w1 ⟨rfl, hb⟩
  have HB := Lib.hid hb
  clear hb HM
  go_wp2
  go_ret
  exact ⟨rfl, (HS.out.alloc _).below HB.out, gtrans (World.grownBy_alloc w _ _) (grown_of _ HB.out)⟩
set_option maxHeartbeats 4000000 in
theorem do_yes (b m n : Nat) (f : Fn) (u : Up) (hm : mayE u = 0) (hk : u.1.size ≤ 1000) (hn : n < 1000000) (hu : Sh u.2.2.2) (hf : Sh (f (ky u.1)).2.2) (w : World) (h : St w b m n f) :
    Calls Try.prog 23 #[.pointer (some ⟨b, 0, none⟩), uu u] w fun e w' => e = .returned (.int .i64 0) ∧ St w' b m (n + 1) (doF f u) ∧ w.grownBy w' (some m) := by
  have HM := fun w => Lib.hid (may_any u w)
  rw [hm] at HM
  have HA := fun w => Lib.hid (apply_any (f (ky u.1)) u hf hu w)
  have HP := fun w h => Lib.hid (put_any b m n f u.1 hk hn (oneV (f (ky u.1)) u) (gd_one _ _ hf hu) w h)
  rw [doF_put hm] at HP
  have HL := fun W (h : St W b m n f) => Lib.hid (h.look u.1 hk)
  have HS := Lib.hid h
  clear h hm hf hu hk hn
  generalize doF f u = g at *
  generalize oneV (f (ky u.1)) u = r at *
  generalize f (ky u.1) = v at *
  obtain ⟨rk, rn, rs⟩ := r
  obtain ⟨vk, vn, vs⟩ := v
  obtain ⟨key, x, q, s⟩ := u
  simp only [uu, vv_eq] at *
  go_enter Try.func23, Try.ntmps23
  go_wp2_with fail
  refine (HM _).out.mono ?_
  rintro e w1 ⟨rfl, hb⟩
  have h1 := do_arm (u := (key, x, q, s)) (B := w.heap.size) (HS.out.alloc (.cells #[.string key, .int .i64 x, .int .i64 q, .string s] 42)) (new_at rfl) hb rfl
  have HG1 := Lib.hid (gtrans (World.grownBy_alloc w (.cells #[.string key, .int .i64 x, .int .i64 q, .string s] 42) (some m)) (grown_of (some m) hb))
  have c := h1.1.c
  obtain ⟨d0, d1, d2, d3⟩ := Ub.c h1.2
  have hl := (HL _ (h1.1.same (w' := w1.drew) rfl)).out
  have hl' := (HL _ h1.1).out
  have H1 := Lib.hid h1
  clear hb h1 HM HL
  go_wp2_with fail
  go_region_held3 (fun w' => w'.cell? ⟨b, 0, none⟩ = some (.map (some m)) ∧ w'.cell? ⟨w.heap.size, 0, none⟩ = some (.string key) ∧ w'.cell? ⟨w.heap.size, 1, none⟩ = some (.int .i64 x) ∧ w'.cell? ⟨w.heap.size, 2, none⟩ = some (.int .i64 q) ∧ w'.cell? ⟨w.heap.size, 3, none⟩ = some (.string s))
    (first | exact ⟨c, d0, d1, d2, d3⟩)
    (first
      | (go_at_call 37
         refine (HA _).out.mono ?_
         rintro e w2 ⟨rfl, hb⟩
         have h2 := do_arm H1.out.1 H1.out.2 hb rfl
         have c := h2.1.c
         obtain ⟨d0, d1, d2, d3⟩ := Ub.c h2.2
         have HG2 := Lib.hid (grown_of (some m) hb)
         have H2 := Lib.hid h2
         clear hb h2)
      | (go_at_call 36
         refine (HP _ H2.out.1).out.mono ?_
         rintro e w3 ⟨rfl, h3, hg3⟩
         have h4 := do_end H2.out.1 H2.out.2 h3 hg3
         have c := h4.1
         obtain ⟨d0, d1, d2, d3⟩ := Ub.c h4.2
         have HG3 := Lib.hid hg3
         have H3 := Lib.hid h3
         clear h3 hg3 h4))
  go_wp2
  go_ret
  exact ⟨rfl, H3.out, gtrans (gtrans HG1.out (undrew HG2.out)) HG3.out⟩
/-- Do: told why not, or done. -/
theorem do_any (b m n : Nat) (f : Fn) (u : Up) (hk : u.1.size ≤ 1000) (hn : n < 1000000) (hu : Sh u.2.2.2) (hf : ∀ k, Gd (f k)) (w : World) (h : St w b m n f) :
    Calls Try.prog 23 #[.pointer (some ⟨b, 0, none⟩), uu u] w fun e w' => e = .returned (.int .i64 (mayE u)) ∧ St w' b m (n + 1) (doF f u) ∧ w.grownBy w' (some m) := by
  by_cases e : mayE u = 0
  · rw [e]
    exact do_yes b m n f u e hk hn hu (hf _).2.2 w h
  · rw [doF_refused e]
    exact (do_no b m n f u e w h).mono fun x w' hx => ⟨hx.1, hx.2.1.mono (Nat.le_succ _), hx.2.2⟩
end Go.Proofs.Yteonmljchcekpaa
