/- ValueSteady: what its calls make; the ways out. -/
import Derived.Test.YtimilojognidlaaVA
import Derived.Deep.QuietTactic
import Derived.BigQuiet
namespace Go.Proofs.Ytimilojognidlaa
open Go Go.RowKit
theorem isUs_two {w : World} {b : Nat} {t : TypeId} {u v : Up} (h : w.heap[b]? = some (.cells #[.string u.1, .int .i64 u.2.1, .int .i64 u.2.2.1, .string u.2.2.2, .string v.1, .int .i64 v.2.1, .int .i64 v.2.2.1, .string v.2.2.2] t (0, 0))) : IsUs w (some ⟨b, 0, none⟩) 2 [u, v] :=
  ⟨rfl, fun _ => ⟨b, 0, rfl, four fun i hi => by
    have hi2 : i < 2 := hi
    rcases (show i = 0 ∨ i = 1 by omega) with rfl | rfl
    · exact ⟨cell_at h 0 _ rfl, cell_at h 1 _ rfl, cell_at h 2 _ rfl, cell_at h 3 _ rfl⟩
    · exact ⟨cell_at h 4 _ rfl, cell_at h 5 _ rfl, cell_at h 6 _ rfl, cell_at h 7 _ rfl⟩⟩⟩
def addU (n : Int) : Up := (emp, 3, n, emp)
def appU (s : ByteArray) : Up := (emp, 4, 0, s)
theorem one_add (n a : Int) : oneV (1, n, emp) (addU a) = (1, wrap64 (n + a), emp) := by simp [oneV, madeV, bareV, addV, numV, addU]
theorem one_app (s t : ByteArray) (n : Int) (h : s.size + t.size ≤ 1024) : oneV (2, n, s) (appU t) = (2, 0, s ++ t) := by
  have h' : ¬ 1024 < s.size + t.size := by omega
  simp [oneV, madeV, bareV, appV, txtV, appU, h']
theorem one_num_app (n : Int) (t : ByteArray) : oneV (1, n, emp) (appU t) = (1, n, emp) := by simp [oneV, madeV, bareV, appV, numV, appU]
theorem one_txt_add (s : ByteArray) (n a : Int) : oneV (2, n, s) (addU a) = (2, 0, s) := by simp [oneV, madeV, bareV, addV, txtV, addU]
theorem wrap_swap (n a b : Int) : wrap64 (wrap64 (n + b) + a) = wrap64 (wrap64 (n + a) + b) := by unfold wrap64; omega
theorem wrap_join (n a b : Int) : wrap64 (n + wrap64 (a + b)) = wrap64 (wrap64 (n + a) + b) := by unfold wrap64; omega
theorem sh_emp : Sh emp := by show (0 : Nat) ≤ _; omega
theorem callXY (n a b : Int) (ad : Option Addr) (c : Nat) (w : World) (h : IsUs w ad 2 [addU a, addU b] ∨ IsUs w ad 2 [addU b, addU a]) :
    Calls Try.prog 16 #[.agg #[.int .i64 1, .int .i64 n, .string ⟨#[]⟩], .slice ad 2 c] w fun e w' => e = .returned (.agg #[.int .i64 1, .int .i64 (wrap64 (wrap64 (n + a) + b)), .string ⟨#[]⟩]) ∧ Below w.heap.size w w' := by
  have hs : ∀ a b : Int, ∀ u ∈ [addU a, addU b], Sh u.2.2.2 := by
    intro a b u hu; simp at hu; rcases hu with rfl | rfl <;> exact sh_emp
  rcases h with h | h
  · have := all_any (1, n, emp) ad 2 c _ sh_emp (hs a b) (by decide) w h
    rw [show allV (1, n, emp) [addU a, addU b] = (1, wrap64 (wrap64 (n + a) + b), emp) by simp [allV, one_add]] at this
    exact this
  · have := all_any (1, n, emp) ad 2 c _ sh_emp (hs b a) (by decide) w h
    rw [show allV (1, n, emp) [addU b, addU a] = (1, wrap64 (wrap64 (n + a) + b), emp) by simp [allV, one_add, wrap_swap]] at this
    exact this
theorem callT (s0 s1 s2 : ByteArray) (h0 : s0.size ≤ 300) (h1 : s1.size ≤ 300) (h2 : s2.size ≤ 300) (ad : Option Addr) (c : Nat) (w : World) (h : IsUs w ad 2 [appU s1, appU s2]) :
    Calls Try.prog 16 #[.agg #[.int .i64 2, .int .i64 0, .string s0], .slice ad 2 c] w fun e w' => e = .returned (.agg #[.int .i64 2, .int .i64 0, .string (s0 ++ (s1 ++ s2))]) ∧ Below w.heap.size w w' := by
  have hs : ∀ u ∈ [appU s1, appU s2], Sh u.2.2.2 := by
    intro u hu; simp at hu; rcases hu with rfl | rfl
    · show s1.size ≤ 100000; omega
    · show s2.size ≤ 100000; omega
  have := all_any (2, 0, s0) ad 2 c _ (show s0.size ≤ 100000 by omega) hs (by decide) w h
  rw [show allV (2, 0, s0) [appU s1, appU s2] = (2, 0, s0 ++ (s1 ++ s2)) by
    show oneV (oneV (2, 0, s0) (appU s1)) (appU s2) = _
    rw [one_app s0 s1 0 (by omega), one_app (s0 ++ s1) s2 0 (by rw [ByteArray.size_append]; omega), ByteArray.append_assoc]] at this
  exact this
theorem applyAB (n a b : Int) (w : World) :
    Calls Try.prog 11 #[.agg #[.int .i64 1, .int .i64 n, .string ⟨#[]⟩], .agg #[.string ⟨#[]⟩, .int .i64 3, .int .i64 (wrap64 (a + b)), .string ⟨#[]⟩]] w fun e w' => e = .returned (.agg #[.int .i64 1, .int .i64 (wrap64 (wrap64 (n + a) + b)), .string ⟨#[]⟩]) ∧ Below w.heap.size w w' := by
  have := apply_any (1, n, emp) (addU (wrap64 (a + b))) sh_emp sh_emp w
  rw [one_add, wrap_join] at this
  exact this
theorem applyT (s0 s1 s2 : ByteArray) (h0 : s0.size ≤ 300) (h1 : s1.size ≤ 300) (h2 : s2.size ≤ 300) (w : World) :
    Calls Try.prog 11 #[.agg #[.int .i64 2, .int .i64 0, .string s0], .agg #[.string ⟨#[]⟩, .int .i64 4, .int .i64 0, .string (s1 ++ s2)]] w fun e w' => e = .returned (.agg #[.int .i64 2, .int .i64 0, .string (s0 ++ (s1 ++ s2))]) ∧ Below w.heap.size w w' := by
  have hz : (s1 ++ s2).size = s1.size + s2.size := ByteArray.size_append
  have := apply_any (2, 0, s0) (appU (s1 ++ s2)) (show s0.size ≤ 100000 by omega) (show (s1 ++ s2).size ≤ 100000 by omega) w
  rw [one_app s0 (s1 ++ s2) 0 (by omega)] at this
  exact this
theorem applyN (n : Int) (s1 : ByteArray) (h1 : s1.size ≤ 300) (w : World) :
    Calls Try.prog 11 #[.agg #[.int .i64 1, .int .i64 n, .string ⟨#[]⟩], .agg #[.string ⟨#[]⟩, .int .i64 4, .int .i64 0, .string s1]] w fun e w' => e = .returned (.agg #[.int .i64 1, .int .i64 n, .string ⟨#[]⟩]) ∧ Below w.heap.size w w' := by
  have := apply_any (1, n, emp) (appU s1) sh_emp (show s1.size ≤ 100000 by omega) w
  rw [one_num_app] at this
  exact this
theorem applyX (s0 : ByteArray) (a : Int) (h0 : s0.size ≤ 300) (w : World) :
    Calls Try.prog 11 #[.agg #[.int .i64 2, .int .i64 0, .string s0], .agg #[.string ⟨#[]⟩, .int .i64 3, .int .i64 a, .string ⟨#[]⟩]] w fun e w' => e = .returned (.agg #[.int .i64 2, .int .i64 0, .string s0]) ∧ Below w.heap.size w w' := by
  have := apply_any (2, 0, s0) (addU a) (show s0.size ≤ 100000 by omega) sh_emp w
  rw [one_txt_add] at this
  exact this
/-- The texts lie in block b. -/
def Sb (w : World) (b : Nat) (s0 s1 s2 : ByteArray) : Prop := w.heap[b]? = some (.cells #[.string s0, .string s1, .string s2] 40 (0, 0))
theorem Sb.c {w : World} {b : Nat} {s0 s1 s2 : ByteArray} (h : Sb w b s0 s1 s2) : w.cell? ⟨b, 0, none⟩ = some (.string s0) ∧ w.cell? ⟨b, 1, none⟩ = some (.string s1) ∧ w.cell? ⟨b, 2, none⟩ = some (.string s2) :=
  ⟨cell_at h 0 _ rfl, cell_at h 1 _ rfl, cell_at h 2 _ rfl⟩
theorem kept_of {W w1 : World} {x : Obj} {n : Nat} (hb : Below W.heap.size W w1) (h : W.heap[n]? = some x) : w1.heap[n]? = some x := kept_at h hb
theorem size_one (w : World) (o : Obj) : (w.alloc o).heap.size = w.heap.size + 1 := by simp
/-- Behind awake: the texts lie in the second block. -/
theorem texts_kept {w w1 : World} {o : Obj} {s0 s1 s2 : ByteArray} {nq : Nat} (hb : Below (((w.alloc o).alloc (.cells #[.string s0, .string s1, .string s2] 40)).drewN nq).heap.size (((w.alloc o).alloc (.cells #[.string s0, .string s1, .string s2] 40)).drewN nq) w1) : Sb w1 (w.heap.size + 1) s0 s1 s2 ∧ Below w.heap.size w w1 :=
  ⟨kept_of hb (new_at (W := w.alloc o) (size_one w o)), Below.next (Below.next (w1 := (w.alloc o).alloc _) (Joins.below_alloc2 w o _) (Joins.below_draws _ _ nq)) hb⟩
set_option maxHeartbeats 4000000 in
theorem steady_out (n a b : Int) (s0 s1 s2 : ByteArray) (h : 300 < s0.size ∨ 300 < s1.size ∨ 300 < s2.size) (w : World) :
    Calls Try.prog 7 #[.agg #[.int .i64 n, .int .i64 a, .int .i64 b], .agg #[.string s0, .string s1, .string s2]] w fun e w' => e = .returned (.bool true) ∧ Below w.heap.size w w' := by
  have hw : ∀ (z0 z1 z2 : Bool), decide ((300 : Int) < (s0.size : Int)) = z0 → decide ((300 : Int) < (s1.size : Int)) = z1 → decide ((300 : Int) < (s2.size : Int)) = z2 → (z0 || (z1 || z2)) = true →
      Calls Try.prog 7 #[.agg #[.int .i64 n, .int .i64 a, .int .i64 b], .agg #[.string s0, .string s1, .string s2]] w fun e w' => e = .returned (.bool true) ∧ Below w.heap.size w w' := by
    intro z0 z1 z2 q0 q1 q2 hz
    clear h
    cases z0 <;> cases z1 <;> cases z2 <;> first | (cases hz; done) | skip
    all_goals (
      clear hz
      go_enter Try.func7, Try.ntmps7
      go_wp2_with fail
      go_quiet (fail)
      go_wp2_with fail
      refine (awake_yes _).mono ?_
      rintro e w1 ⟨rfl, hb⟩
      have h1 := texts_kept hb
      obtain ⟨c0, c1, c2⟩ := Sb.c h1.1
      have HB1 := Lib.hid h1.2
      clear hb h1
      go_wp2_with fail
      refine (awake_yes _).mono ?_
      rintro e w2 ⟨rfl, hb⟩
      have HB2 := Lib.hid (Below.next HB1.out hb)
      clear hb HB1
      go_wp2
      go_ret
      exact ⟨rfl, HB2.out⟩)
  exact hw _ _ _ rfl rfl rfl (by
    rcases h with h | h | h
    · simp [show ((300 : Int) < (s0.size : Int)) by omega]
    · simp [show ((300 : Int) < (s1.size : Int)) by omega]
    · simp [show ((300 : Int) < (s2.size : Int)) by omega])
end Go.Proofs.Ytimilojognidlaa
