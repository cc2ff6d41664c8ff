/- Apply; Great. -/
import Derived.Test.YteonmljchcekpaaV3
namespace Go.Proofs.Yteonmljchcekpaa
open Go Go.RowKit
theorem four {w : World} {b off : Nat} {us : List Up} (h : ∀ i, i < us.length → w.cell? ⟨b, off + i * 4, none⟩ = some (.string (us.getD i up0).1) ∧ w.cell? ⟨b, off + i * 4 + 1, none⟩ = some (.int .i64 (us.getD i up0).2.1) ∧ w.cell? ⟨b, off + i * 4 + 2, none⟩ = some (.int .i64 (us.getD i up0).2.2.1) ∧ w.cell? ⟨b, off + i * 4 + 3, none⟩ = some (.string (us.getD i up0).2.2.2)) : Us w b off us :=
  ⟨fun i hi => (h i hi).1, fun i hi => (h i hi).2.1, fun i hi => (h i hi).2.2.1, fun i hi => (h i hi).2.2.2⟩
/-- A row that was just laid. -/
theorem isUs_one {w : World} {b : Nat} {t : TypeId} {u : Up} (h : w.heap[b]? = some (.cells #[.string u.1, .int .i64 u.2.1, .int .i64 u.2.2.1, .string u.2.2.2] t (0, 0))) : IsUs w (some ⟨b, 0, none⟩) 1 [u] :=
  ⟨rfl, fun _ => ⟨b, 0, rfl, four fun i hi => by
    obtain rfl : i = 0 := by simpa using hi
    exact ⟨cell_at h 0 _ rfl, cell_at h 1 _ rfl, cell_at h 2 _ rfl, cell_at h 3 _ rfl⟩⟩⟩
theorem new_at {W : World} {o : Obj} {n : Nat} (h : W.heap.size = n) : (W.alloc o).heap[n]? = some o := h ▸ heap_alloc_new W o
theorem old_at {W : World} {o x : Obj} {n : Nat} (h : W.heap[n]? = some x) : (W.alloc o).heap[n]? = some x := (Below.heap_alloc _ _ _ (Array.getElem?_eq_some_iff.1 h).1).trans h
theorem kept_at {W w1 : World} {x : Obj} {n : Nat} (h : W.heap[n]? = some x) (hb : Below W.heap.size W w1) : w1.heap[n]? = some x := (hb.block n (Array.getElem?_eq_some_iff.1 h).1).trans h
set_option maxHeartbeats 1000000 in
theorem apply_any (v : Vl) (u : Up) (hv : Sh v.2.2) (hu : Sh u.2.2.2) (w : World) :
    Calls Try.prog 37 #[vv v, uu u] w fun e w' => e = .returned (vv (oneV v u)) ∧ Below w.heap.size w w' := by
  have HA := fun a len cap w h => Lib.hid (all_any v a len cap [u] hv (fun x hx => by simp at hx; subst hx; exact hu) (by have := h.size; simp at this; omega) w h)
  rw [show allV v [u] = oneV v u from rfl] at HA
  obtain ⟨vk, vn, vs⟩ := v
  obtain ⟨key, ux, um, ut⟩ := u
  generalize oneV (vk, vn, vs) (key, ux, um, ut) = r at *
  obtain ⟨rk, rn, rs⟩ := r
  simp only [vv_eq, uu] at HA ⊢
  clear hv hu
  go_enter Try.func37, Try.ntmps37
  go_wp2_with fail
  refine (HA _ 1 1 _ (isUs_one (t := 42) (new_at (by simp)))).out.mono ?_
  rintro e w1 ⟨rfl, hb⟩
  have hr := kept_at (old_at (new_at (n := w.heap.size + 1 + 1) (by simp))) hb
  have HB := Lib.hid ((below_a4 w _ _ _ _).trans (hb.mono (by simp; omega)))
  have c0 := cell_at hr 0 (.int .i64 0) rfl
  have c1 := cell_at hr 1 (.int .i64 0) rfl
  have c2 := cell_at hr 2 (.string ⟨#[]⟩) rfl
  have f0 := unfrozen_at hr 0
  have f1 := unfrozen_at hr 1
  have f2 := unfrozen_at hr 2
  clear hb hr HA
  go_wp2
  refine bodyPost_ret (v := .agg #[.int .i64 rk, .int .i64 rn, .string rs]) (by simp [results, Try.results37, go_sem, c0, c1, c2]) rfl ⟨rfl, ?_⟩
  exact below_set3 HB.out (by omega) _ _ _
/-- Is an update more than is played? -/
def gU (u : Up) : Prop := 100 < u.1.size ∨ 1200 < u.2.2.2.size
theorem great_u_no (u : Up) (h : ¬ gU u) (w : World) : Calls Try.prog 38 #[uu u] w fun e w' => e = .returned (.bool false) ∧ Below w.heap.size w w' := by
  obtain ⟨key, x, n, s⟩ := u
  unfold gU at h
  simp only at h
  have q1 : decide ((100 : Int) < (key.size : Int)) = false := decide_eq_false (by omega)
  have q2 : decide ((1200 : Int) < (s.size : Int)) = false := decide_eq_false (by omega)
  unfold uu
  go_enter Try.func38, Try.ntmps38
  go_wp2
  go_ret
  exact ⟨rfl, Joins.below_alloc1 _ _⟩
theorem great_u_yes (u : Up) (h : gU u) (w : World) : Calls Try.prog 38 #[uu u] w fun e w' => e = .returned (.bool true) ∧ Below w.heap.size w w' := by
  obtain ⟨key, x, n, s⟩ := u
  unfold gU at h
  simp only at h
  unfold uu
  by_cases h1 : 100 < key.size
  · have q1 : decide ((100 : Int) < (key.size : Int)) = true := decide_eq_true (by omega)
    clear h
    go_enter Try.func38, Try.ntmps38
    go_wp2
    go_ret
    exact ⟨rfl, Joins.below_alloc1 _ _⟩
  · have q1 : decide ((100 : Int) < (key.size : Int)) = false := decide_eq_false (by omega)
    have q2 : decide ((1200 : Int) < (s.size : Int)) = true := decide_eq_true (by omega)
    clear h
    go_enter Try.func38, Try.ntmps38
    go_wp2
    go_ret
    exact ⟨rfl, Joins.below_alloc1 _ _⟩
end Go.Proofs.Yteonmljchcekpaa
