import Derived.Test.YtbbgibekplfacaaDoorI5
import Derived.Test.YtbbgibekplfacaaDoorU5
import Derived.Test.YtbbgibekplfacaaDoorProg
import Derived.WalkKit
import Derived.Lib.Hide
import Derived.Handy
import Derived.Lib.SmallJoins
import Derived.Laws.StructEq
import Derived.Laws.NewDeep
import Derived.Test.YtbbgibekplfacaaDoorSH
import Derived.Deep.RegionWith
/- Plain: values, updates, and what an update makes of a value. -/
namespace Go.Proofs.YtbbgibekplfacaaDoor.Y
open Go Go.RowKit
/-- A value: its kind, its number, its text. -/
abbrev Vl := Int × Int × ByteArray
def emp : ByteArray := ⟨#[]⟩
def vv (v : Vl) : Value := .agg #[.int .i64 v.1, .int .i64 v.2.1, .string v.2.2]
def numV (n : Int) : Vl := (1, n, emp)
def txtV (s : ByteArray) : Vl := (2, 0, s)
def noneV : Vl := (0, 0, emp)
def bareV (v : Vl) : Vl := if v.1 = 1 then numV v.2.1 else if v.1 = 2 then txtV v.2.2 else noneV
def addV (v : Vl) (n : Int) : Vl := if v.1 = 2 then v else numV (wrap64 (v.2.1 + n))
def appV (v : Vl) (s : ByteArray) : Vl := if v.1 = 0 then txtV s else if v.1 = 1 ∨ 1024 < v.2.2.size + s.size then v else txtV (v.2.2 ++ s)
def madeV (v : Vl) (u : Up) : Vl :=
  if u.2.1 = 1 then numV u.2.2.1 else if u.2.1 = 2 then txtV u.2.2.2 else if u.2.1 = 3 then addV v u.2.2.1 else if u.2.1 = 4 then appV v u.2.2.2 else if u.2.1 = 5 then noneV else v
/-- What one update makes. -/
def oneV (v : Vl) (u : Up) : Vl := madeV (bareV v) u
/-- What updates make, one by one. -/
def allV (v : Vl) (us : List Up) : Vl := us.foldl oneV v
/-- Its text isn't longer than is played. -/
def Sh (s : ByteArray) : Prop := s.size ≤ 100000
theorem bare_sh (v : Vl) (h : Sh v.2.2) : Sh (bareV v).2.2 := by
  unfold bareV; split
  · show (0 : Nat) ≤ _; omega
  · split
    · exact h
    · show (0 : Nat) ≤ _; omega
theorem made_sh (v : Vl) (u : Up) (h : Sh v.2.2) (k : Sh u.2.2.2) : Sh (madeV v u).2.2 := by
  have z : ∀ n, Sh (numV n).2.2 := fun n => by show (0 : Nat) ≤ _; omega
  unfold madeV; split
  · exact z _
  split
  · exact k
  split
  · unfold addV; split
    · exact h
    · exact z _
  split
  · unfold appV; split
    · exact k
    split
    · exact h
    · rename_i hh
      show (v.2.2 ++ u.2.2.2).size ≤ 100000
      rw [ByteArray.size_append]; omega
  split
  · show (0 : Nat) ≤ _; omega
  · exact h
theorem one_sh (v : Vl) (u : Up) (h : Sh v.2.2) (k : Sh u.2.2.2) : Sh (oneV v u).2.2 := made_sh _ _ (bare_sh _ h) k
theorem allV_step (v : Vl) (us : List Up) (k : Nat) (h : k < us.length) (d : Up) : allV v (us.take (k + 1)) = oneV (allV v (us.take k)) (us.getD k d) := by
  unfold allV
  rw [List.take_add_one, List.foldl_append]
  simp [List.getD_eq_getElem?_getD, h]
theorem allV_sh (us : List Up) (hu : ∀ u ∈ us, Sh u.2.2.2) : ∀ v : Vl, Sh v.2.2 → Sh (allV v us).2.2 := by
  induction us with
  | nil => exact fun v h => h
  | cons u us ih => exact fun v h => ih (fun x hx => hu x (List.mem_cons_of_mem _ hx)) _ (one_sh _ _ h (hu u List.mem_cons_self))
end Go.Proofs.YtbbgibekplfacaaDoor.Y
/- number, text, bare, added, appended, made. -/
namespace Go.Proofs.YtbbgibekplfacaaDoor.Y
open Go Go.RowKit
theorem number_any (n : Int) (w : World) : Calls Tryd.prog 101 #[.int .i64 n] w fun e w' => e = .returned (.agg #[.int .i64 1, .int .i64 n, .string ⟨#[]⟩]) ∧ w' = w.alloc (.cells #[.int .i64 1, .int .i64 n, .string ⟨#[]⟩] 49) := by
  go_enter Tryd.func101, Tryd.ntmps101
  go_wp2
  refine bodyPost_ret (v := .agg #[.int .i64 1, .int .i64 n, .string ⟨#[]⟩]) (by simp [results, Tryd.results101, go_sem]) rfl ⟨rfl, rfl⟩
theorem text_any (s : ByteArray) (w : World) : Calls Tryd.prog 102 #[.string s] w fun e w' => e = .returned (.agg #[.int .i64 2, .int .i64 0, .string s]) ∧ w' = w.alloc (.cells #[.int .i64 2, .int .i64 0, .string s] 49) := by
  go_enter Tryd.func102, Tryd.ntmps102
  go_wp2
  refine bodyPost_ret (v := .agg #[.int .i64 2, .int .i64 0, .string s]) (by simp [results, Tryd.results102, go_sem]) rfl ⟨rfl, rfl⟩
theorem below_a4 (w : World) (o1 o2 o3 o4 : Obj) : Below w.heap.size w ((((w.alloc o1).alloc o2).alloc o3).alloc o4) := (Joins.below_alloc3 w o1 o2 o3).alloc (by simp; omega) o4
theorem bare_1 (n : Int) (s : ByteArray) (w : World) : Calls Tryd.prog 93 #[.agg #[.int .i64 1, .int .i64 n, .string s]] w fun e w' => e = .returned (.agg #[.int .i64 1, .int .i64 n, .string ⟨#[]⟩]) ∧ Below w.heap.size w w' := by
  go_enter Tryd.func93, Tryd.ntmps93
  go_wp2_with fail
  refine (number_any n _).mono ?_
  rintro e w1 ⟨rfl, rfl⟩
  go_wp2
  refine bodyPost_ret (v := .agg #[.int .i64 1, .int .i64 n, .string ⟨#[]⟩]) (by simp [results, Tryd.results93, go_sem]) rfl ⟨rfl, ?_⟩
  exact Joins.below_alloc3 _ _ _ _
theorem bare_2 (n : Int) (s : ByteArray) (w : World) : Calls Tryd.prog 93 #[.agg #[.int .i64 2, .int .i64 n, .string s]] w fun e w' => e = .returned (.agg #[.int .i64 2, .int .i64 0, .string s]) ∧ Below w.heap.size w w' := by
  go_enter Tryd.func93, Tryd.ntmps93
  go_wp2_with fail
  refine (text_any s _).mono ?_
  rintro e w1 ⟨rfl, rfl⟩
  go_wp2
  refine bodyPost_ret (v := .agg #[.int .i64 2, .int .i64 0, .string s]) (by simp [results, Tryd.results93, go_sem]) rfl ⟨rfl, ?_⟩
  exact Joins.below_alloc3 _ _ _ _
theorem bare_0 (k n : Int) (s : ByteArray) (w : World) (h1 : ¬ k = 1) (h2 : ¬ k = 2) : Calls Tryd.prog 93 #[.agg #[.int .i64 k, .int .i64 n, .string s]] w fun e w' => e = .returned (.agg #[.int .i64 0, .int .i64 0, .string ⟨#[]⟩]) ∧ Below w.heap.size w w' := by
  go_enter Tryd.func93, Tryd.ntmps93
  go_wp2
  refine bodyPost_ret (v := .agg #[.int .i64 0, .int .i64 0, .string ⟨#[]⟩]) (by simp [results, Tryd.results93, go_sem]) rfl ⟨rfl, ?_⟩
  exact Joins.below_alloc2 _ _ _
theorem added_2 (n m : Int) (s : ByteArray) (w : World) : Calls Tryd.prog 103 #[.agg #[.int .i64 2, .int .i64 n, .string s], .int .i64 m] w fun e w' => e = .returned (.agg #[.int .i64 2, .int .i64 n, .string s]) ∧ Below w.heap.size w w' := by
  go_enter Tryd.func103, Tryd.ntmps103
  go_wp2
  refine bodyPost_ret (v := .agg #[.int .i64 2, .int .i64 n, .string s]) (by simp [results, Tryd.results103, go_sem]) rfl ⟨rfl, ?_⟩
  exact Joins.below_alloc2 _ _ _
theorem added_1 (k n m : Int) (s : ByteArray) (w : World) (h : ¬ k = 2) : Calls Tryd.prog 103 #[.agg #[.int .i64 k, .int .i64 n, .string s], .int .i64 m] w fun e w' => e = .returned (.agg #[.int .i64 1, .int .i64 (wrap64 (n + m)), .string ⟨#[]⟩]) ∧ Below w.heap.size w w' := by
  go_enter Tryd.func103, Tryd.ntmps103
  go_wp2_with fail
  refine (number_any (wrap64 (n + m)) _).mono ?_
  rintro e w1 ⟨rfl, rfl⟩
  go_wp2
  refine bodyPost_ret (v := .agg #[.int .i64 1, .int .i64 (wrap64 (n + m)), .string ⟨#[]⟩]) (by simp [results, Tryd.results103, go_sem]) rfl ⟨rfl, ?_⟩
  exact Joins.below_alloc3 _ _ _ _
theorem app_0 (n : Int) (s t : ByteArray) (w : World) : Calls Tryd.prog 104 #[.agg #[.int .i64 0, .int .i64 n, .string s], .string t] w fun e w' => e = .returned (.agg #[.int .i64 2, .int .i64 0, .string t]) ∧ Below w.heap.size w w' := by
  go_enter Tryd.func104, Tryd.ntmps104
  go_wp2_with fail
  refine (text_any t _).mono ?_
  rintro e w1 ⟨rfl, rfl⟩
  go_wp2
  refine bodyPost_ret (v := .agg #[.int .i64 2, .int .i64 0, .string t]) (by simp [results, Tryd.results104, go_sem]) rfl ⟨rfl, ?_⟩
  exact Joins.below_alloc3 _ _ _ _
theorem app_1 (n : Int) (s t : ByteArray) (w : World) : Calls Tryd.prog 104 #[.agg #[.int .i64 1, .int .i64 n, .string s], .string t] w fun e w' => e = .returned (.agg #[.int .i64 1, .int .i64 n, .string s]) ∧ Below w.heap.size w w' := by
  go_enter Tryd.func104, Tryd.ntmps104
  go_wp2
  refine bodyPost_ret (v := .agg #[.int .i64 1, .int .i64 n, .string s]) (by simp [results, Tryd.results104, go_sem]) rfl ⟨rfl, ?_⟩
  exact Joins.below_alloc2 _ _ _
theorem app_full (k n : Int) (s t : ByteArray) (w : World) (h0 : ¬ k = 0) (h1 : ¬ k = 1) (hs : s.size ≤ 100000) (ht : t.size ≤ 100000) (hf : 1024 < s.size + t.size) : Calls Tryd.prog 104 #[.agg #[.int .i64 k, .int .i64 n, .string s], .string t] w fun e w' => e = .returned (.agg #[.int .i64 k, .int .i64 n, .string s]) ∧ Below w.heap.size w w' := by
  go_enter Tryd.func104, Tryd.ntmps104
  go_wp2
  refine bodyPost_ret (v := .agg #[.int .i64 k, .int .i64 n, .string s]) (by simp [results, Tryd.results104, go_sem]) rfl ⟨rfl, ?_⟩
  exact Joins.below_alloc2 _ _ _
theorem app_room (k n : Int) (s t : ByteArray) (w : World) (h0 : ¬ k = 0) (h1 : ¬ k = 1) (hs : s.size ≤ 100000) (ht : t.size ≤ 100000) (hf : s.size + t.size ≤ 1024) : Calls Tryd.prog 104 #[.agg #[.int .i64 k, .int .i64 n, .string s], .string t] w fun e w' => e = .returned (.agg #[.int .i64 2, .int .i64 0, .string (s ++ t)]) ∧ Below w.heap.size w w' := by
  have hd : decide ((1024 : Int) < (s.size : Int) + (t.size : Int)) = false := decide_eq_false (by omega)
  have hk : (k == 1) = false := by simpa using h1
  go_enter Tryd.func104, Tryd.ntmps104
  go_wp2_with fail
  refine (text_any (s ++ t) _).mono ?_
  rintro e w1 ⟨rfl, rfl⟩
  go_wp2
  refine bodyPost_ret (v := .agg #[.int .i64 2, .int .i64 0, .string (s ++ t)]) (by simp [results, Tryd.results104, go_sem]) rfl ⟨rfl, ?_⟩
  exact Joins.below_alloc3 _ _ _ _
theorem vv_eq (k n : Int) (s : ByteArray) : vv (k, n, s) = .agg #[.int .i64 k, .int .i64 n, .string s] := rfl
theorem bare_any (v : Vl) (w : World) : Calls Tryd.prog 93 #[vv v] w fun e w' => e = .returned (vv (bareV v)) ∧ Below w.heap.size w w' := by
  obtain ⟨k, n, s⟩ := v
  by_cases h1 : k = 1
  · subst h1; exact bare_1 n s w
  by_cases h2 : k = 2
  · subst h2; exact bare_2 n s w
  have e : bareV (k, n, s) = noneV := by simp [bareV, h1, h2]
  rw [e]; exact bare_0 k n s w h1 h2
theorem added_any (v : Vl) (m : Int) (w : World) : Calls Tryd.prog 103 #[vv v, .int .i64 m] w fun e w' => e = .returned (vv (addV v m)) ∧ Below w.heap.size w w' := by
  obtain ⟨k, n, s⟩ := v
  by_cases h1 : k = 2
  · subst h1; exact added_2 n m s w
  have e : addV (k, n, s) m = numV (wrap64 (n + m)) := by simp [addV, h1]
  rw [e]; exact added_1 k n m s w h1
theorem app_any (v : Vl) (t : ByteArray) (hs : Sh v.2.2) (ht : Sh t) (w : World) : Calls Tryd.prog 104 #[vv v, .string t] w fun e w' => e = .returned (vv (appV v t)) ∧ Below w.heap.size w w' := by
  obtain ⟨k, n, s⟩ := v
  by_cases h0 : k = 0
  · subst h0; exact app_0 n s t w
  by_cases h1 : k = 1
  · subst h1; exact app_1 n s t w
  by_cases hf : 1024 < s.size + t.size
  · have e : appV (k, n, s) t = (k, n, s) := by simp [appV, h0, hf]
    rw [e]; exact app_full k n s t w h0 h1 hs ht hf
  · have e : appV (k, n, s) t = txtV (s ++ t) := by simp [appV, h0, h1, hf]
    rw [e]; exact app_room k n s t w h0 h1 hs ht (by omega)
end Go.Proofs.YtbbgibekplfacaaDoor.Y
/- made. -/
namespace Go.Proofs.YtbbgibekplfacaaDoor.Y
open Go Go.RowKit
theorem behind3 {w w1 : World} {o1 o2 : Obj} {xs : Array Value} {t : TypeId} (hb : Below ((((w.alloc o1).alloc o2).alloc (.cells xs t))).heap.size (((w.alloc o1).alloc o2).alloc (.cells xs t)) w1) : w1.heap[w.heap.size + 1 + 1]? = some (.cells xs t (0, 0)) ∧ Below w.heap.size w w1 := by
  have hs : (((w.alloc o1).alloc o2).alloc (.cells xs t)).heap.size = w.heap.size + 1 + 1 + 1 := by simp
  refine ⟨?_, (Joins.below_alloc3 w o1 o2 _).trans (hb.mono (by omega))⟩
  rw [hb.block _ (by omega)]
  have h := heap_alloc_new ((w.alloc o1).alloc o2) (.cells xs t)
  have hs2 : ((w.alloc o1).alloc o2).heap.size = w.heap.size + 1 + 1 := by simp
  rw [hs2] at h
  exact h
theorem unfrozen_at {w : World} {b : Nat} {xs : Array Value} {t : TypeId} (h : w.heap[b]? = some (.cells xs t (0, 0))) (i : Nat) : w.frozen? ⟨b, i, none⟩ = false := by simp [World.frozen?, h]
theorem made_3 (k n : Int) (s : ByteArray) (key : ByteArray) (m : Int) (t : ByteArray) (w : World) : Calls Tryd.prog 92 #[vv (k, n, s), uu (key, 3, m, t)] w fun e w' => e = .returned (vv (addV (k, n, s) m)) ∧ Below w.heap.size w w' := by
  have HA := fun w => Lib.hid (added_any (k, n, s) m w)
  generalize addV (k, n, s) m = r at *
  obtain ⟨rk, rn, rs⟩ := r
  simp only [vv_eq, uu] at HA ⊢
  go_enter Tryd.func92, Tryd.ntmps92
  go_wp2_with fail
  refine (HA _).out.mono ?_
  rintro e w1 ⟨rfl, hb⟩
  obtain ⟨hr, hb2⟩ := behind3 hb
  have c0 := cell_at hr 0 (.int .i64 0) rfl
  have c1 := cell_at hr 1 (.int .i64 0) rfl
  have c2 := cell_at hr 2 (.string ⟨#[]⟩) rfl
  have f0 := unfrozen_at hr 0
  have f1 := unfrozen_at hr 1
  have f2 := unfrozen_at hr 2
  have HB := Lib.hid hb2
  clear hb hr hb2 HA
  go_wp2
  refine bodyPost_ret (v := .agg #[.int .i64 rk, .int .i64 rn, .string rs]) (by simp [results, Tryd.results92, go_sem, c0, c1, c2]) rfl ⟨rfl, ?_⟩
  exact below_set3 HB.out (by omega) _ _ _
theorem made_4 (k n : Int) (s : ByteArray) (key : ByteArray) (m : Int) (t : ByteArray) (hs : Sh s) (ht : Sh t) (w : World) : Calls Tryd.prog 92 #[vv (k, n, s), uu (key, 4, m, t)] w fun e w' => e = .returned (vv (appV (k, n, s) t)) ∧ Below w.heap.size w w' := by
  have HA := fun w => Lib.hid (app_any (k, n, s) t hs ht w)
  generalize appV (k, n, s) t = r at *
  obtain ⟨rk, rn, rs⟩ := r
  simp only [vv_eq, uu] at HA ⊢
  go_enter Tryd.func92, Tryd.ntmps92
  go_wp2_with fail
  refine (HA _).out.mono ?_
  rintro e w1 ⟨rfl, hb⟩
  obtain ⟨hr, hb2⟩ := behind3 hb
  have c0 := cell_at hr 0 (.int .i64 0) rfl
  have c1 := cell_at hr 1 (.int .i64 0) rfl
  have c2 := cell_at hr 2 (.string ⟨#[]⟩) rfl
  have f0 := unfrozen_at hr 0
  have f1 := unfrozen_at hr 1
  have f2 := unfrozen_at hr 2
  have HB := Lib.hid hb2
  clear hb hr hb2 HA
  go_wp2
  refine bodyPost_ret (v := .agg #[.int .i64 rk, .int .i64 rn, .string rs]) (by simp [results, Tryd.results92, go_sem, c0, c1, c2]) rfl ⟨rfl, ?_⟩
  exact below_set3 HB.out (by omega) _ _ _
theorem made_1 (k n : Int) (s : ByteArray) (key : ByteArray) (m : Int) (t : ByteArray) (w : World) : Calls Tryd.prog 92 #[.agg #[.int .i64 k, .int .i64 n, .string s], .agg #[.string key, .int .i64 1, .int .i64 m, .string t]] w fun e w' => e = .returned (.agg #[.int .i64 1, .int .i64 m, .string ⟨#[]⟩]) ∧ Below w.heap.size w w' := by
  go_enter Tryd.func92, Tryd.ntmps92
  go_wp2_with fail
  refine (number_any m _).mono ?_
  rintro e w1 ⟨rfl, rfl⟩
  go_wp2
  refine bodyPost_ret (v := .agg #[.int .i64 1, .int .i64 m, .string ⟨#[]⟩]) (by simp [results, Tryd.results92, go_sem]) rfl ⟨rfl, ?_⟩
  exact below_a4 _ _ _ _ _
theorem made_2 (k n : Int) (s : ByteArray) (key : ByteArray) (m : Int) (t : ByteArray) (w : World) : Calls Tryd.prog 92 #[.agg #[.int .i64 k, .int .i64 n, .string s], .agg #[.string key, .int .i64 2, .int .i64 m, .string t]] w fun e w' => e = .returned (.agg #[.int .i64 2, .int .i64 0, .string t]) ∧ Below w.heap.size w w' := by
  go_enter Tryd.func92, Tryd.ntmps92
  go_wp2_with fail
  refine (text_any t _).mono ?_
  rintro e w1 ⟨rfl, rfl⟩
  go_wp2
  refine bodyPost_ret (v := .agg #[.int .i64 2, .int .i64 0, .string t]) (by simp [results, Tryd.results92, go_sem]) rfl ⟨rfl, ?_⟩
  exact below_a4 _ _ _ _ _
theorem made_5 (k n : Int) (s : ByteArray) (key : ByteArray) (m : Int) (t : ByteArray) (w : World) : Calls Tryd.prog 92 #[.agg #[.int .i64 k, .int .i64 n, .string s], .agg #[.string key, .int .i64 5, .int .i64 m, .string t]] w fun e w' => e = .returned (.agg #[.int .i64 0, .int .i64 0, .string ⟨#[]⟩]) ∧ Below w.heap.size w w' := by
  go_enter Tryd.func92, Tryd.ntmps92
  go_wp2
  refine bodyPost_ret (v := .agg #[.int .i64 0, .int .i64 0, .string ⟨#[]⟩]) (by simp [results, Tryd.results92, go_sem]) rfl ⟨rfl, ?_⟩
  exact Joins.below_alloc3 _ _ _ _
theorem made_0 (k n : Int) (s : ByteArray) (key : ByteArray) (m : Int) (t : ByteArray) (x : Int) (h1 : ¬ x = 1) (h2 : ¬ x = 2) (h3 : ¬ x = 3) (h4 : ¬ x = 4) (h5 : ¬ x = 5) (w : World) : Calls Tryd.prog 92 #[.agg #[.int .i64 k, .int .i64 n, .string s], .agg #[.string key, .int .i64 x, .int .i64 m, .string t]] w fun e w' => e = .returned (.agg #[.int .i64 k, .int .i64 n, .string s]) ∧ Below w.heap.size w w' := by
  go_enter Tryd.func92, Tryd.ntmps92
  go_wp2
  refine bodyPost_ret (v := .agg #[.int .i64 k, .int .i64 n, .string s]) (by simp [results, Tryd.results92, go_sem]) rfl ⟨rfl, ?_⟩
  exact Joins.below_alloc3 _ _ _ _
theorem made_any (v : Vl) (u : Up) (hs : Sh v.2.2) (ht : Sh u.2.2.2) (w : World) : Calls Tryd.prog 92 #[vv v, uu u] w fun e w' => e = .returned (vv (madeV v u)) ∧ Below w.heap.size w w' := by
  obtain ⟨k, n, s⟩ := v
  obtain ⟨key, x, m, t⟩ := u
  by_cases h1 : x = 1
  · subst h1; exact made_1 k n s key m t w
  by_cases h2 : x = 2
  · subst h2; exact made_2 k n s key m t w
  by_cases h3 : x = 3
  · subst h3; exact made_3 k n s key m t w
  by_cases h4 : x = 4
  · subst h4; exact made_4 k n s key m t hs ht w
  by_cases h5 : x = 5
  · subst h5; exact made_5 k n s key m t w
  have e : madeV (k, n, s) (key, x, m, t) = (k, n, s) := by simp [madeV, h1, h2, h3, h4, h5]
  rw [e]; exact made_0 k n s key m t x h1 h2 h3 h4 h5 w
end Go.Proofs.YtbbgibekplfacaaDoor.Y
/- strings.Clone hands its text back. -/
namespace Go.Proofs.YtbbgibekplfacaaDoor.Y
open Go Go.RowKit
end Go.Proofs.YtbbgibekplfacaaDoor.Y
/- All: the loop over updates. -/
namespace Go.Proofs.YtbbgibekplfacaaDoor.Y
open Go Go.RowKit
/-- A value lies in block b. -/
def Vb (w : World) (b : Nat) (v : Vl) : Prop := w.heap[b]? = some (.cells #[.int .i64 v.1, .int .i64 v.2.1, .string v.2.2] 49 (0, 0))
theorem Vb.below {w w' : World} {B b v} (h : Vb w b v) (hb : Below B w w') (hl : b < B) : Vb w' b v := (hb.block b hl).trans h
theorem Vb.lt {w : World} {b v} (h : Vb w b v) : b < w.heap.size := (Array.getElem?_eq_some_iff.1 h).1
theorem Vb.other {w : World} {b b' v} (h : Vb w b v) (hne : b ≠ b') (x0 x1 x2 : Value) : Vb (((w.setCell ⟨b', 0, none⟩ x0).setCell ⟨b', 1, none⟩ x1).setCell ⟨b', 2, none⟩ x2) b v := by
  unfold Vb
  rw [Below.heap_setCell _ _ _ _ hne, Below.heap_setCell _ _ _ _ hne, Below.heap_setCell _ _ _ _ hne]
  exact h
theorem Vb.set {w : World} {b v} (h : Vb w b v) (k n : Int) (s : ByteArray) : Vb (((w.setCell ⟨b, 0, none⟩ (.int .i64 k)).setCell ⟨b, 1, none⟩ (.int .i64 n)).setCell ⟨b, 2, none⟩ (.string s)) b (k, n, s) := by
  unfold Vb at *; simp [World.setCell, Array.getElem?_modify, h]
theorem Vb.kept {w0 W w1 : World} {b v} (h : Vb w0 b v) (hb : Below W.heap.size W w1) (he : W.heap = w0.heap) : Vb w1 b v :=
  (hb.block b (by rw [he]; exact h.lt)).trans (by rw [he]; exact h)
theorem Ub.kept {w0 W w1 : World} {b v} (h : Ub w0 b v) (hb : Below W.heap.size W w1) (he : W.heap = w0.heap) : Ub w1 b v :=
  (hb.block b (by rw [he]; exact h.lt)).trans (by rw [he]; exact h)
theorem Vb.alloc {w : World} {b v} (h : Vb w b v) (o : Obj) : Vb (w.alloc o) b v := (Below.heap_alloc _ _ _ h.lt).trans h
theorem arm1 {w wr w1 : World} {v x : Vl} {key : ByteArray} {ux um : Int} {ut : ByteArray} {b r : Nat} (hv : Vb wr b v) (hr : Vb wr r x) (hbel : Below w.heap.size w wr)
    (hb1 : Below (wr.alloc (.cells #[.string key, .int .i64 ux, .int .i64 um, .string ut] 32)).drew.heap.size (wr.alloc (.cells #[.string key, .int .i64 ux, .int .i64 um, .string ut] 32)).drew w1) :
    Vb w1 b v ∧ Vb w1 r x ∧ Ub w1 wr.heap.size (key, ux, um, ut) ∧ Below w.heap.size w w1 := by
  have hs : (wr.alloc (.cells #[.string key, .int .i64 ux, .int .i64 um, .string ut] 32)).drew.heap.size = wr.heap.size + 1 := by simp
  refine ⟨(hv.alloc _).kept hb1 rfl, (hr.alloc _).kept hb1 rfl, Ub.kept (heap_alloc_new wr _) hb1 rfl, ?_⟩
  have := hbel.size
  exact ((hbel.alloc hbel.size _).drew).trans (hb1.mono (by rw [hs]; omega))
theorem arm2 {w w1 w2 : World} {v x : Vl} {b r : Nat} (hv : Vb w1 b v) (hr : Vb w1 r x) (hbel : Below w.heap.size w w1) (hb2 : Below w1.heap.size w1 w2) :
    Vb w2 b v ∧ Vb w2 r x ∧ Below w.heap.size w w2 :=
  ⟨hv.kept hb2 rfl, hr.kept hb2 rfl, hbel.trans (hb2.mono hbel.size)⟩
set_option maxHeartbeats 4000000 in
theorem all_any (v : Vl) (a : Option Addr) (len cap : Nat) (us : List Up) (hv : Sh v.2.2) (hu : ∀ u ∈ us, Sh u.2.2.2) (hl : len ≤ 1000) (w : World) (h : IsUs w a len us) :
    Calls Tryd.prog 84 #[vv v, .slice a len cap] w fun e w' => e = .returned (vv (allV v us)) ∧ Below w.heap.size w w' := by
  have H := Lib.hid h
  have HU := Lib.hid hu
  have HV := Lib.hid hv
  clear h hu hv
  obtain ⟨k0, n0, s0⟩ := v
  rw [vv_eq]
  go_enter Tryd.func84, Tryd.ntmps84
  go_wp2_with fail
  go_loopw [9] (fun v9 wr => ∃ k : Nat, k ≤ len ∧ v9 = .int .i64 k ∧ Vb wr w.heap.size (allV (k0, n0, s0) (us.take k)) ∧ Vb wr (w.heap.size + 1) (0, 0, ⟨#[]⟩) ∧ Below w.heap.size w wr) (fun v9 _ => len - (intOf v9).toNat)
  case atStart =>
    refine ⟨0, Nat.zero_le _, rfl, ?_, ?_, Joins.below_alloc2 _ _ _⟩
    · exact (Below.heap_alloc _ _ _ (by simp)).trans (heap_alloc_new _ _)
    · have e := heap_alloc_new (w.alloc (.cells #[.int .i64 k0, .int .i64 n0, .string s0] 49)) (.cells #[.int .i64 0, .int .i64 0, .string ⟨#[]⟩] 49)
      have hs : (w.alloc (.cells #[.int .i64 k0, .int .i64 n0, .string s0] 49)).heap.size = w.heap.size + 1 := by simp
      rw [hs] at e
      exact e
  case round =>
    obtain ⟨k, hk, rfl, hvb, hrb, hbel⟩ := hrel
    have hH : w.heap.size + 1 < wr.heap.size := hrb.lt
    have hvs : Sh (allV (k0, n0, s0) (us.take k)).2.2 := allV_sh _ (fun u hx => HU.out u (List.mem_of_mem_take hx)) _ HV.out
    by_cases hlt : k < len
    · have hfl := H.out.size
      have HNX := Lib.hid (allV_step (k0, n0, s0) us k (by omega) up0)
      have hus : Sh (us.getD k up0).2.2.2 := HU.out _ (by
        have hkl : k < us.length := by omega
        have e : us.getD k up0 = us[k] := by simp [List.getD_eq_getElem?_getD, hkl]
        rw [e]; exact List.getElem_mem _)
      have HBA := fun w => Lib.hid (bare_any (allV (k0, n0, s0) (us.take k)) w)
      have HMA := fun w => Lib.hid (made_any (bareV (allV (k0, n0, s0) (us.take k))) (us.getD k up0) (bare_sh _ hvs) hus w)
      obtain ⟨b, off, rfl, hf⟩ := H.out.lies (by omega)
      have hb := hf.lt (by omega)
      have c0 : wr.cell? ⟨b, off + k * 4, none⟩ = some (.string (us.getD k up0).1) := (hbel.cell hb).trans (hf.key k (by omega))
      have c1 : wr.cell? ⟨b, off + k * 4 + 1, none⟩ = some (.int .i64 (us.getD k up0).2.1) := (hbel.cell hb).trans (hf.k k (by omega))
      have c2 : wr.cell? ⟨b, off + k * 4 + 2, none⟩ = some (.int .i64 (us.getD k up0).2.2.1) := (hbel.cell hb).trans (hf.n k (by omega))
      have c3 : wr.cell? ⟨b, off + k * 4 + 3, none⟩ = some (.string (us.getD k up0).2.2.2) := (hbel.cell hb).trans (hf.t k (by omega))
      clear hf hb hfl hvs hus H
      have hone : oneV (allV (k0, n0, s0) (us.take k)) (us.getD k up0) = madeV (bareV (allV (k0, n0, s0) (us.take k))) (us.getD k up0) := rfl
      rw [hone] at HNX
      clear hone
      generalize madeV (bareV (allV (k0, n0, s0) (us.take k))) (us.getD k up0) = r at *
      generalize bareV (allV (k0, n0, s0) (us.take k)) = y at *
      generalize allV (k0, n0, s0) (us.take k) = v at *
      generalize us.getD k up0 = u at *
      obtain ⟨rk, rn, rs⟩ := r
      obtain ⟨yk, yn, ys⟩ := y
      obtain ⟨vk, vn, vs⟩ := v
      obtain ⟨key, ux, um, ut⟩ := u
      simp only [vv_eq, uu] at HBA HMA c0 c1 c2 c3
      have d0 := cell_at hvb 0 (.int .i64 vk) rfl
      have d1 := cell_at hvb 1 (.int .i64 vn) rfl
      have d2 := cell_at hvb 2 (.string vs) rfl
      have HVB := Lib.hid hvb
      have HRB := Lib.hid hrb
      have HBEL := Lib.hid hbel
      clear hvb hrb hbel
      have hH0 : w.heap.size < wr.heap.size := by omega
      go_wp2_with fail
      go_region_with (first
        | (go_at_call 93
           refine (HBA _).out.mono ?_
           rintro e w1 ⟨rfl, hb1⟩
           obtain ⟨hv1, hr1, hu1, hB1⟩ := arm1 HVB.out HRB.out HBEL.out hb1
           have e0 := cell_at hu1 0 (.string key) rfl
           have e1 := cell_at hu1 1 (.int .i64 ux) rfl
           have e2 := cell_at hu1 2 (.int .i64 um) rfl
           have e3 := cell_at hu1 3 (.string ut) rfl
           have HB1 := Lib.hid hB1
           have HV1 := Lib.hid hv1
           have HR1 := Lib.hid hr1
           clear hb1 hv1 hr1 hu1 hB1)
        | (go_at_call 92
           refine (HMA _).out.mono ?_
           rintro e w2 ⟨rfl, hb2⟩
           obtain ⟨hv2, hr2, hB2⟩ := arm2 HV1.out HR1.out HB1.out hb2
           have g0 := cell_at hv2 0 (.int .i64 vk) rfl
           have g1 := cell_at hv2 1 (.int .i64 vn) rfl
           have g2 := cell_at hv2 2 (.string vs) rfl
           have f0 := unfrozen_at hv2 0
           have f1 := unfrozen_at hv2 1
           have f2 := unfrozen_at hv2 2
           have HV2 := Lib.hid hv2
           have HR2 := Lib.hid hr2
           have HB2 := Lib.hid hB2
           clear hb2 hv2 hr2 hB2))
      all_goals (
        go_wp2_with fail
        go_roundw
        case rel =>
          refine ⟨k + 1, by omega, by go_num, ?_, HR2.out.other (by omega) _ _ _, below_set3 HB2.out (Nat.le_refl _) _ _ _⟩
          rw [HNX.out]; exact HV2.out.set _ _ _
        case measure => simp [intOf]; omega)
    · obtain rfl : k = len := by omega
      have e : us.take k = us := List.take_of_length_le (by rw [H.out.size]; exact Nat.le_refl _)
      rw [e] at hvb hvs
      clear e H HU HV
      obtain ⟨⟨rk, rn, rs⟩, HEQ⟩ : ∃ r, Hid (allV (k0, n0, s0) us = r) := ⟨_, Lib.hid rfl⟩
      rw [HEQ.out] at hvb hvs
      have d2 := cell_at hvb 2 (.string rs) rfl
      have HVB := Lib.hid hvb
      have HRB := Lib.hid hrb
      have HBEL := Lib.hid hbel
      have HC := fun w => Lib.hid (clone_any rs (by have : rs.size ≤ 100000 := hvs; omega) w)
      clear hvb hrb hbel hvs
      go_wp2_with fail
      refine (HC _).out.mono ?_
      rintro e w1 ⟨rfl, hb1⟩
      obtain ⟨hv2, hr2, hB2⟩ := arm2 HVB.out HRB.out HBEL.out hb1
      have g0 := cell_at hv2 0 (.int .i64 rk) rfl
      have g1 := cell_at hv2 1 (.int .i64 rn) rfl
      have g2 := cell_at hv2 2 (.string rs) rfl
      have f2 := unfrozen_at hv2 2
      have j0 := cell_at hr2 0 (.int .i64 0) rfl
      have j1 := cell_at hr2 1 (.int .i64 0) rfl
      have j2 := cell_at hr2 2 (.string ⟨#[]⟩) rfl
      have p0 := unfrozen_at hr2 0
      have p1 := unfrozen_at hr2 1
      have p2 := unfrozen_at hr2 2
      have HB2 := Lib.hid hB2
      clear hv2 hr2 hB2 hb1 HC HVB HRB HBEL d2
      go_wp2
      refine bodyPost_ret (v := .agg #[.int .i64 rk, .int .i64 rn, .string rs]) (by simp [results, Tryd.results84, go_sem, j0, j1, j2]) rfl ⟨by rw [HEQ.out]; rfl, ?_⟩
      exact below_set3 (HB2.out.setCell (Nat.le_refl _) _) (by omega) _ _ _
end Go.Proofs.YtbbgibekplfacaaDoor.Y
