/- made. -/
import Derived.Test.YteonmljchcekpaaV1
namespace Go.Proofs.Yteonmljchcekpaa
open Go Go.RowKit
theorem behind3 {w w1 : World} {o1 o2 : Obj} {xs : Array Value} {t : TypeId} (hb : Below ((((w.alloc o1).alloc o2).alloc (.cells xs t))).heap.size (((w.alloc o1).alloc o2).alloc (.cells xs t)) w1) : w1.heap[w.heap.size + 1 + 1]? = some (.cells xs t (0, 0)) ∧ Below w.heap.size w w1 := by
  have hs : (((w.alloc o1).alloc o2).alloc (.cells xs t)).heap.size = w.heap.size + 1 + 1 + 1 := by simp
  refine ⟨?_, (Joins.below_alloc3 w o1 o2 _).trans (hb.mono (by omega))⟩
  rw [hb.block _ (by omega)]
  have h := heap_alloc_new ((w.alloc o1).alloc o2) (.cells xs t)
  have hs2 : ((w.alloc o1).alloc o2).heap.size = w.heap.size + 1 + 1 := by simp
  rw [hs2] at h
  exact h
/-- What a block of cells tells of a cell. -/
theorem cell_at {w : World} {b : Nat} {xs : Array Value} {t : TypeId} (h : w.heap[b]? = some (.cells xs t (0, 0))) (i : Nat) (v : Value) (hv : xs[i]? = some v) : w.cell? ⟨b, i, none⟩ = some v := by simp [World.cell?, h, hv]
theorem unfrozen_at {w : World} {b : Nat} {xs : Array Value} {t : TypeId} (h : w.heap[b]? = some (.cells xs t (0, 0))) (i : Nat) : w.frozen? ⟨b, i, none⟩ = false := by simp [World.frozen?, h]
theorem below_set3 {w w1 : World} {b : Nat} (h : Below w.heap.size w w1) (hb : w.heap.size ≤ b) (v0 v1 v2 : Value) : Below w.heap.size w (((w1.setCell ⟨b, 0, none⟩ v0).setCell ⟨b, 1, none⟩ v1).setCell ⟨b, 2, none⟩ v2) := ((h.setCell hb _).setCell hb _).setCell hb _
theorem made_3 (k n : Int) (s : ByteArray) (key : ByteArray) (m : Int) (t : ByteArray) (w : World) : Calls Try.prog 59 #[vv (k, n, s), uu (key, 3, m, t)] w fun e w' => e = .returned (vv (addV (k, n, s) m)) ∧ Below w.heap.size w w' := by
  have HA := fun w => Lib.hid (added_any (k, n, s) m w)
  generalize addV (k, n, s) m = r at *
  obtain ⟨rk, rn, rs⟩ := r
  simp only [vv_eq, uu] at HA ⊢
  go_enter Try.func59, Try.ntmps59
  go_wp2_with fail
  refine (HA _).out.mono ?_
  rintro e w1 ⟨rfl, hb⟩
  obtain ⟨hr, hb2⟩ := behind3 hb
  have c0 := cell_at hr 0 (.int .i64 0) rfl
  have c1 := cell_at hr 1 (.int .i64 0) rfl
  have c2 := cell_at hr 2 (.string ⟨#[]⟩) rfl
  have f0 := unfrozen_at hr 0
  have f1 := unfrozen_at hr 1
  have f2 := unfrozen_at hr 2
  have HB := Lib.hid hb2
  clear hb hr hb2 HA
  go_wp2
  refine bodyPost_ret (v := .agg #[.int .i64 rk, .int .i64 rn, .string rs]) (by simp [results, Try.results59, go_sem, c0, c1, c2]) rfl ⟨rfl, ?_⟩
  exact below_set3 HB.out (by omega) _ _ _
theorem made_4 (k n : Int) (s : ByteArray) (key : ByteArray) (m : Int) (t : ByteArray) (hs : Sh s) (ht : Sh t) (w : World) : Calls Try.prog 59 #[vv (k, n, s), uu (key, 4, m, t)] w fun e w' => e = .returned (vv (appV (k, n, s) t)) ∧ Below w.heap.size w w' := by
  have HA := fun w => Lib.hid (app_any (k, n, s) t hs ht w)
  generalize appV (k, n, s) t = r at *
  obtain ⟨rk, rn, rs⟩ := r
  simp only [vv_eq, uu] at HA ⊢
  go_enter Try.func59, Try.ntmps59
  go_wp2_with fail
  refine (HA _).out.mono ?_
  rintro e w1 ⟨rfl, hb⟩
  obtain ⟨hr, hb2⟩ := behind3 hb
  have c0 := cell_at hr 0 (.int .i64 0) rfl
  have c1 := cell_at hr 1 (.int .i64 0) rfl
  have c2 := cell_at hr 2 (.string ⟨#[]⟩) rfl
  have f0 := unfrozen_at hr 0
  have f1 := unfrozen_at hr 1
  have f2 := unfrozen_at hr 2
  have HB := Lib.hid hb2
  clear hb hr hb2 HA
  go_wp2
  refine bodyPost_ret (v := .agg #[.int .i64 rk, .int .i64 rn, .string rs]) (by simp [results, Try.results59, go_sem, c0, c1, c2]) rfl ⟨rfl, ?_⟩
  exact below_set3 HB.out (by omega) _ _ _
theorem made_1 (k n : Int) (s : ByteArray) (key : ByteArray) (m : Int) (t : ByteArray) (w : World) : Calls Try.prog 59 #[.agg #[.int .i64 k, .int .i64 n, .string s], .agg #[.string key, .int .i64 1, .int .i64 m, .string t]] w fun e w' => e = .returned (.agg #[.int .i64 1, .int .i64 m, .string ⟨#[]⟩]) ∧ Below w.heap.size w w' := by
  go_enter Try.func59, Try.ntmps59
  go_wp2_with fail
  refine (number_any m _).mono ?_
  rintro e w1 ⟨rfl, rfl⟩
  go_wp2
  refine bodyPost_ret (v := .agg #[.int .i64 1, .int .i64 m, .string ⟨#[]⟩]) (by simp [results, Try.results59, go_sem]) rfl ⟨rfl, ?_⟩
  exact below_a4 _ _ _ _ _
theorem made_2 (k n : Int) (s : ByteArray) (key : ByteArray) (m : Int) (t : ByteArray) (w : World) : Calls Try.prog 59 #[.agg #[.int .i64 k, .int .i64 n, .string s], .agg #[.string key, .int .i64 2, .int .i64 m, .string t]] w fun e w' => e = .returned (.agg #[.int .i64 2, .int .i64 0, .string t]) ∧ Below w.heap.size w w' := by
  go_enter Try.func59, Try.ntmps59
  go_wp2_with fail
  refine (text_any t _).mono ?_
  rintro e w1 ⟨rfl, rfl⟩
  go_wp2
  refine bodyPost_ret (v := .agg #[.int .i64 2, .int .i64 0, .string t]) (by simp [results, Try.results59, go_sem]) rfl ⟨rfl, ?_⟩
  exact below_a4 _ _ _ _ _
theorem made_5 (k n : Int) (s : ByteArray) (key : ByteArray) (m : Int) (t : ByteArray) (w : World) : Calls Try.prog 59 #[.agg #[.int .i64 k, .int .i64 n, .string s], .agg #[.string key, .int .i64 5, .int .i64 m, .string t]] w fun e w' => e = .returned (.agg #[.int .i64 0, .int .i64 0, .string ⟨#[]⟩]) ∧ Below w.heap.size w w' := by
  go_enter Try.func59, Try.ntmps59
  go_wp2
  refine bodyPost_ret (v := .agg #[.int .i64 0, .int .i64 0, .string ⟨#[]⟩]) (by simp [results, Try.results59, go_sem]) rfl ⟨rfl, ?_⟩
  exact Joins.below_alloc3 _ _ _ _
theorem made_0 (k n : Int) (s : ByteArray) (key : ByteArray) (m : Int) (t : ByteArray) (x : Int) (h1 : ¬ x = 1) (h2 : ¬ x = 2) (h3 : ¬ x = 3) (h4 : ¬ x = 4) (h5 : ¬ x = 5) (w : World) : Calls Try.prog 59 #[.agg #[.int .i64 k, .int .i64 n, .string s], .agg #[.string key, .int .i64 x, .int .i64 m, .string t]] w fun e w' => e = .returned (.agg #[.int .i64 k, .int .i64 n, .string s]) ∧ Below w.heap.size w w' := by
  go_enter Try.func59, Try.ntmps59
  go_wp2
  refine bodyPost_ret (v := .agg #[.int .i64 k, .int .i64 n, .string s]) (by simp [results, Try.results59, go_sem]) rfl ⟨rfl, ?_⟩
  exact Joins.below_alloc3 _ _ _ _
theorem made_any (v : Vl) (u : Up) (hs : Sh v.2.2) (ht : Sh u.2.2.2) (w : World) : Calls Try.prog 59 #[vv v, uu u] w fun e w' => e = .returned (vv (madeV v u)) ∧ Below w.heap.size w w' := by
  obtain ⟨k, n, s⟩ := v
  obtain ⟨key, x, m, t⟩ := u
  by_cases h1 : x = 1
  · subst h1; exact made_1 k n s key m t w
  by_cases h2 : x = 2
  · subst h2; exact made_2 k n s key m t w
  by_cases h3 : x = 3
  · subst h3; exact made_3 k n s key m t w
  by_cases h4 : x = 4
  · subst h4; exact made_4 k n s key m t hs ht w
  by_cases h5 : x = 5
  · subst h5; exact made_5 k n s key m t w
  have e : madeV (k, n, s) (key, x, m, t) = (k, n, s) := by simp [madeV, h1, h2, h3, h4, h5]
  rw [e]; exact made_0 k n s key m t x h1 h2 h3 h4 h5 w
end Go.Proofs.Yteonmljchcekpaa
