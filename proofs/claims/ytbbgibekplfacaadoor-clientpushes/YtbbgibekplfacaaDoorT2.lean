import Derived.Test.YtbbgibekplfacaaDoorT1
import Derived.Maps.OwnSet
import Derived.Sort.KeysCollected
import Derived.Deep.RegionHeld3
/- Apply; Great. -/
namespace Go.Proofs.YtbbgibekplfacaaDoor.Y
open Go Go.RowKit
/-- A row that was just laid. -/
theorem isUs_one {w : World} {b : Nat} {t : TypeId} {u : Up} (h : w.heap[b]? = some (.cells #[.string u.1, .int .i64 u.2.1, .int .i64 u.2.2.1, .string u.2.2.2] t (0, 0))) : IsUs w (some ⟨b, 0, none⟩) 1 [u] :=
  ⟨rfl, fun _ => ⟨b, 0, rfl, four fun i hi => by
    obtain rfl : i = 0 := by simpa using hi
    exact ⟨cell_at h 0 _ rfl, cell_at h 1 _ rfl, cell_at h 2 _ rfl, cell_at h 3 _ rfl⟩⟩⟩
theorem old_at {W : World} {o x : Obj} {n : Nat} (h : W.heap[n]? = some x) : (W.alloc o).heap[n]? = some x := (Below.heap_alloc _ _ _ (Array.getElem?_eq_some_iff.1 h).1).trans h
theorem kept_at {W w1 : World} {x : Obj} {n : Nat} (h : W.heap[n]? = some x) (hb : Below W.heap.size W w1) : w1.heap[n]? = some x := (hb.block n (Array.getElem?_eq_some_iff.1 h).1).trans h
set_option maxHeartbeats 1000000 in
theorem apply_any (v : Vl) (u : Up) (hv : Sh v.2.2) (hu : Sh u.2.2.2) (w : World) :
    Calls Tryd.prog 74 #[vv v, uu u] w fun e w' => e = .returned (vv (oneV v u)) ∧ Below w.heap.size w w' := by
  have HA := fun a len cap w h => Lib.hid (all_any v a len cap [u] hv (fun x hx => by simp at hx; subst hx; exact hu) (by have := h.size; simp at this; omega) w h)
  rw [show allV v [u] = oneV v u from rfl] at HA
  obtain ⟨vk, vn, vs⟩ := v
  obtain ⟨key, ux, um, ut⟩ := u
  generalize oneV (vk, vn, vs) (key, ux, um, ut) = r at *
  obtain ⟨rk, rn, rs⟩ := r
  simp only [vv_eq, uu] at HA ⊢
  clear hv hu
  go_enter Tryd.func74, Tryd.ntmps74
  go_wp2_with fail
  refine (HA _ 1 1 _ (isUs_one (t := 32) (new_at (by simp)))).out.mono ?_
  rintro e w1 ⟨rfl, hb⟩
  have hr := kept_at (old_at (new_at (n := w.heap.size + 1 + 1) (by simp))) hb
  have HB := Lib.hid ((below_a4 w _ _ _ _).trans (hb.mono (by simp; omega)))
  have c0 := cell_at hr 0 (.int .i64 0) rfl
  have c1 := cell_at hr 1 (.int .i64 0) rfl
  have c2 := cell_at hr 2 (.string ⟨#[]⟩) rfl
  have f0 := unfrozen_at hr 0
  have f1 := unfrozen_at hr 1
  have f2 := unfrozen_at hr 2
  clear hb hr HA
  go_wp2
  refine bodyPost_ret (v := .agg #[.int .i64 rk, .int .i64 rn, .string rs]) (by simp [results, Tryd.results74, go_sem, c0, c1, c2]) rfl ⟨rfl, ?_⟩
  exact below_set3 HB.out (by omega) _ _ _
end Go.Proofs.YtbbgibekplfacaaDoor.Y
/- Plain: what a store holds behind updates, and which keys. -/
namespace Go.Proofs.YtbbgibekplfacaaDoor.Y
open Go Go.RowKit
/-- A key, as the list of its bytes. -/
abbrev Ky := List UInt8
def ky (s : ByteArray) : Ky := s.data.toList
theorem ky_inj {s t : ByteArray} (h : ky s = ky t) : s = t := by
  obtain ⟨⟨a⟩⟩ := s
  obtain ⟨⟨b⟩⟩ := t
  have e : a = b := h
  rw [e]
/-- Which value each key has. -/
abbrev Fn := Ky → Vl
/-- What an update makes of it. -/
def doF (f : Fn) (u : Up) : Fn := fun k => if k = ky u.1 ∧ mayE u = 0 then oneV (f k) u else f k
def f0 : Fn := fun _ => noneV
/-- Which value each key has behind updates. -/
def stF (us : List Up) : Fn := us.foldl doF f0
theorem stF_take (us : List Up) (k : Nat) (h : k < us.length) (d : Up) : stF (us.take (k + 1)) = doF (stF (us.take k)) (us.getD k d) := by
  unfold stF
  rw [List.take_add_one, List.foldl_append]
  simp [List.getD_eq_getElem?_getD, h]
theorem stF_snoc (us : List Up) (u : Up) : stF (us ++ [u]) = doF (stF us) u := by simp [stF, List.foldl_append]
/-- A value that a store may hold, or none. -/
def Gd (v : Vl) : Prop := (v.1 = 0 → v = noneV) ∧ (v.1 = 0 ∨ v.1 = 1 ∨ v.1 = 2) ∧ Sh v.2.2
theorem gd_none : Gd noneV := ⟨fun _ => rfl, .inl rfl, by show (0 : Nat) ≤ _; omega⟩
theorem gd_num (n : Int) : Gd (numV n) := ⟨fun h => by simp [numV] at h, .inr (.inl rfl), by show (0 : Nat) ≤ _; omega⟩
theorem gd_txt (s : ByteArray) (h : Sh s) : Gd (txtV s) := ⟨fun h => by simp [txtV] at h, .inr (.inr rfl), h⟩
theorem gd_bare (v : Vl) (h : Sh v.2.2) : Gd (bareV v) := by
  unfold bareV; split
  · exact gd_num _
  split
  · exact gd_txt _ h
  · exact gd_none
theorem gd_one (v : Vl) (u : Up) (h : Sh v.2.2) (k : Sh u.2.2.2) : Gd (oneV v u) := by
  have hb := gd_bare v h
  unfold oneV
  generalize bareV v = y at hb
  unfold madeV; split
  · exact gd_num _
  split
  · exact gd_txt _ k
  split
  · unfold addV; split
    · exact hb
    · exact gd_num _
  split
  · unfold appV; split
    · exact gd_txt _ k
    split
    · exact hb
    · rename_i hh
      refine gd_txt _ ?_
      show (y.2.2 ++ u.2.2.2).size ≤ 100000
      rw [ByteArray.size_append]; omega
  split
  · exact gd_none
  · exact hb
theorem gd_do {f : Fn} {u : Up} (hf : ∀ k, Gd (f k)) (hu : Sh u.2.2.2) : ∀ k, Gd (doF f u k) := fun k => by
  unfold doF; split
  · exact gd_one _ _ (hf k).2.2 hu
  · exact hf k
theorem gd_fold (us : List Up) (hu : ∀ u ∈ us, Sh u.2.2.2) : ∀ f : Fn, (∀ k, Gd (f k)) → ∀ k, Gd (us.foldl doF f k) := by
  induction us with
  | nil => exact fun f hf => hf
  | cons u us ih => exact fun f hf => ih (fun x hx => hu x (List.mem_cons_of_mem _ hx)) _ (gd_do hf (hu u List.mem_cons_self))
theorem gd_st (us : List Up) (hu : ∀ u ∈ us, Sh u.2.2.2) (k : Ky) : Gd (stF us k) := gd_fold us hu f0 (fun _ => gd_none) k
/-- The keys that have a value, rising. -/
def KeyL (f : Fn) (ss : List Ky) : Prop := ss.Pairwise (fun a b => a < b) ∧ ∀ k, k ∈ ss ↔ (f k).1 ≠ 0
theorem lt_le {a b : Ky} (h : a < b) : a ≤ b := List.le_of_lt h
theorem sorted_nodup {ss : List Ky} (h : ss.Pairwise (fun a b => a < b)) : ss.Nodup := h.imp fun {a b} hab e => by subst e; exact List.lt_irrefl _ hab
theorem sorted_eq {ss ts : List Ky} (h : ss.Pairwise (fun a b => a < b)) (k : ts.Pairwise (fun a b => a < b)) (he : ∀ x, x ∈ ss ↔ x ∈ ts) : ss = ts :=
  List.Perm.eq_of_pairwise (le := fun a b => a ≤ b) (fun _ _ _ _ h1 h2 => List.le_antisymm h1 h2) (h.imp lt_le) (k.imp lt_le) ((List.perm_ext_iff_of_nodup (sorted_nodup h) (sorted_nodup k)).2 he)
theorem KeyL.eq {f : Fn} {ss ts : List Ky} (h : KeyL f ss) (k : KeyL f ts) : ss = ts := sorted_eq h.1 k.1 fun x => (h.2 x).trans (k.2 x).symm
/-- Only the updates of a key play a part for it. -/
theorem fold_at (k : Ky) (us : List Up) : ∀ f g : Fn, f k = g k → us.foldl doF f k = (us.filter fun u => decide (ky u.1 = k)).foldl doF g k := by
  induction us with
  | nil => exact fun f g h => h
  | cons u us ih =>
    intro f g h
    rw [List.foldl_cons]
    by_cases e : ky u.1 = k
    · rw [List.filter_cons_of_pos (by simpa using e), List.foldl_cons]
      refine ih _ _ ?_
      simp only [doF, h]
    · rw [List.filter_cons_of_neg (by simpa using e)]
      refine ih _ _ ?_
      have e' : ¬ (k = ky u.1 ∧ mayE u = 0) := fun x => e x.1.symm
      simp only [doF, if_neg e', h]
theorem stF_at (k : Ky) (us : List Up) : stF us k = stF (us.filter fun u => decide (ky u.1 = k)) k := fold_at k us f0 f0 rfl
def ownL (key : ByteArray) (us : List Up) : List Up := us.filter fun u => decide (u.1 = key)
def othL (key : ByteArray) (us : List Up) : List Up := us.filter fun u => !decide (u.1 = key)
theorem own_at (key : ByteArray) (us : List Up) : (us.filter fun u => decide (ky u.1 = ky key)) = ownL key us := by
  unfold ownL
  congr 1
  funext u
  by_cases e : u.1 = key
  · simp [e]
  · have : ¬ ky u.1 = ky key := fun x => e (ky_inj x)
    simp [e, this]
theorem oth_none (key : ByteArray) (us : List Up) : stF (othL key us) (ky key) = noneV := by
  have e : (othL key us).filter (fun u => decide (ky u.1 = ky key)) = [] := by
    rw [List.filter_eq_nil_iff]
    intro u hu hx
    have h1 : ky u.1 = ky key := by simpa using hx
    have h2 : ¬ u.1 = key := by
      have := (List.mem_filter.1 hu).2
      simpa using this
    exact h2 (ky_inj h1)
  rw [stF_at, e]; rfl
theorem apart_eq (key : ByteArray) (us : List Up) : stF (othL key us ++ ownL key us) = stF us := by
  funext k
  rw [stF_at k us, stF_at k (othL key us ++ ownL key us), List.filter_append]
  congr 1
  by_cases e : k = ky key
  · subst e
    have e1 : (othL key us).filter (fun u => decide (ky u.1 = ky key)) = [] := by
      rw [List.filter_eq_nil_iff]
      intro u hu hx
      have h1 : ky u.1 = ky key := by simpa using hx
      have h2 : ¬ u.1 = key := by simpa using (List.mem_filter.1 hu).2
      exact h2 (ky_inj h1)
    have e2 : (ownL key us).filter (fun u => decide (ky u.1 = ky key)) = ownL key us := by
      rw [List.filter_eq_self]
      intro u hu
      have h2 : u.1 = key := by simpa using (List.mem_filter.1 hu).2
      simp [h2]
    rw [e1, e2, own_at]; rfl
  · have e1 : (ownL key us).filter (fun u => decide (ky u.1 = k)) = [] := by
      rw [List.filter_eq_nil_iff]
      intro u hu hx
      have h1 : ky u.1 = k := by simpa using hx
      have h2 : u.1 = key := by simpa using (List.mem_filter.1 hu).2
      rw [h2] at h1
      exact e h1.symm
    have e2 : (othL key us).filter (fun u => decide (ky u.1 = k)) = us.filter (fun u => decide (ky u.1 = k)) := by
      unfold othL
      rw [List.filter_filter]
      congr 1
      funext u
      by_cases h1 : ky u.1 = k
      · have h2 : ¬ u.1 = key := fun x => e (by rw [← h1, x])
        simp [h1, h2]
      · simp [h1]
    rw [e1, e2, List.append_nil]
theorem fold_app (us vs : List Up) : stF (us ++ vs) = vs.foldl doF (stF us) := by simp [stF, List.foldl_append]
theorem doF_refused {f : Fn} {u : Up} (h : ¬ mayE u = 0) : doF f u = f := by
  funext k; simp [doF, h]
theorem one_twice (v : Vl) (u : Up) (h : u.2.1 = 1 ∨ u.2.1 = 2 ∨ u.2.1 = 5) : oneV (oneV v u) u = oneV v u := by
  rcases h with h | h | h <;> simp [oneV, madeV, h]
theorem doF_twice {f : Fn} {u : Up} (h : u.2.1 = 1 ∨ u.2.1 = 2 ∨ u.2.1 = 5) : doF (doF f u) u = doF f u := by
  funext k
  by_cases e : k = ky u.1 ∧ mayE u = 0
  · simp only [doF, if_pos e]; exact one_twice _ _ h
  · simp only [doF, if_neg e]
end Go.Proofs.YtbbgibekplfacaaDoor.Y
/- The store: its block, its map; New, Len, Get. -/
namespace Go.Proofs.YtbbgibekplfacaaDoor.Y
open Go Go.RowKit Go.Maps
theorem vv_inj {x y : Vl} (h : vv x = vv y) : x = y := by
  obtain ⟨a, b, c⟩ := x
  obtain ⟨d, e, f⟩ := y
  simpa [vv] using h
open Classical in
/-- How a value in a map reads. -/
noncomputable def vR (v : Value) : Option (DataW Vl × List MemPlace) := if h : ∃ x, v = vv x then some (.held h.choose, []) else none
theorem vR_mk (x : Vl) : vR (vv x) = some (.held x, []) := by
  have h : ∃ y, vv x = vv y := ⟨x, rfl⟩
  unfold vR
  rw [dif_pos h, ← vv_inj h.choose_spec]
theorem vR_inv {v : Value} {z : DataW Vl × List MemPlace} (h : vR v = some z) : ∃ x, v = vv x ∧ z = (.held x, []) := by
  unfold vR at h
  split at h
  · rename_i hx
    refine ⟨hx.choose, hx.choose_spec, ?_⟩
    simpa using h.symm
  · cases h
/-- The map's datum tells these values. -/
structure Ag (D : DataW Vl) (f : Fn) : Prop where
  look : ∀ k, D.atKey (.string k) (.held noneV) = .held (f k)
  told : ∀ k, Maps.has D (.string k) = decide ((f k).1 ≠ 0)
theorem law : Keyed Tryd.prog 9 := string_keyed Tryd.underlying9
theorem ag_empty : Ag (.map []) f0 := ⟨fun _ => rfl, fun _ => rfl⟩
theorem str_ne' {a b : Ky} (h : a ≠ b) : (Lit.string a) ≠ .string b := fun e => h (by injection e)
theorem Ag.put {D : DataW Vl} {f : Fn} (h : Ag D f) (hm : IsMap D) (k : Ky) (v : Vl) (hv : v.1 ≠ 0) : Ag (D.put (.string k) (.held v)) (fun x => if x = k then v else f x) := by
  refine ⟨fun x => ?_, fun x => ?_⟩
  · by_cases e : x = k
    · subst e; rw [if_pos rfl]; exact Maps.atKey_put_same hm (k := .string _) trivial _ _
    · rw [if_neg e, Maps.atKey_put_other (str_ne' e)]; exact h.look x
  · by_cases e : x = k
    · subst e; rw [if_pos rfl, Maps.has_put_same hm (k := .string _) trivial]; simp [hv]
    · rw [if_neg e, Maps.has_put_other (str_ne' e)]; exact h.told x
theorem Ag.del {D : DataW Vl} {f : Fn} (h : Ag D f) (k : Ky) : Ag (D.del (.string k)) (fun x => if x = k then noneV else f x) := by
  refine ⟨fun x => ?_, fun x => ?_⟩
  · by_cases e : x = k
    · subst e; rw [if_pos rfl]; exact Maps.atKey_del_same _
    · rw [if_neg e, Maps.atKey_del_other (str_ne' e)]; exact h.look x
  · by_cases e : x = k
    · subst e; rw [if_pos rfl, Maps.has_del_same]; rfl
    · rw [if_neg e, Maps.has_del_other (str_ne' e)]; exact h.told x
/-- In block b lies a store, its map in block m, of at most n entries. -/
def St (w : World) (b m n : Nat) (f : Fn) : Prop := w.heap[b]? = some (.cells #[.map (some m)] 112 (0, 0)) ∧ ∃ D, w.ownsMap Tryd.prog 9 vR m n D ∧ Ag D f
theorem St.lt {w b m n f} (h : St w b m n f) : b < w.heap.size := (Array.getElem?_eq_some_iff.1 h.1).1
theorem St.ltm {w b m n f} (h : St w b m n f) : m < w.heap.size := by obtain ⟨_, D, ho, _⟩ := h; exact ho.lt
theorem St.ne {w b m n f} (h : St w b m n f) : b ≠ m := by
  obtain ⟨hb, D, ⟨es, clock, hm, _⟩, _⟩ := h
  intro e; subst e; rw [hb] at hm; cases hm
theorem St.kept {w w' : World} {b m n f} {row : Option Nat} (h : St w b m n f) (hg : w.grownBy w' row) (h1 : some b ≠ row) (h2 : some m ≠ row) : St w' b m n f := by
  have hl := h.lt
  obtain ⟨hb, D, ho, ha⟩ := h
  exact ⟨(hg.block b hl h1).trans hb, D, ho.kept hg h2, ha⟩
theorem grown_of {a b : World} (row : Option Nat) (h : Below a.heap.size a b) : a.grownBy b row := ⟨h.os, h.tape, h.output, h.size, fun j hj _ => h.block j hj⟩
theorem St.below {w w' : World} {b m n f} (h : St w b m n f) (hb : Below w.heap.size w w') : St w' b m n f := h.kept (grown_of none hb) (by simp) (by simp)
theorem St.alloc {w : World} {b m n f} (h : St w b m n f) (o : Obj) : St (w.alloc o) b m n f := h.kept (World.grownBy_alloc w o none) (by simp) (by simp)
theorem St.same {w w' : World} {b m n f} (h : St w b m n f) (e : w'.heap = w.heap) : St w' b m n f := by
  obtain ⟨hb, D, ⟨es, clock, hm, r⟩, ha⟩ := h
  exact ⟨by rw [e]; exact hb, D, ⟨es, clock, by rw [e]; exact hm, r⟩, ha⟩
theorem St.set {w : World} {b m n f} (h : St w b m n f) (g i : Nat) (v : Value) (h1 : b ≠ g) (h2 : m ≠ g) : St (w.setCell ⟨g, i, none⟩ v) b m n f := by
  obtain ⟨hb, D, ho, ha⟩ := h
  exact ⟨(Below.heap_setCell _ _ _ _ h1).trans hb, D, ho.setCell h2 v, ha⟩
theorem St.c {w b m n f} (h : St w b m n f) : w.cell? ⟨b, 0, none⟩ = some (.map (some m)) := cell_at h.1 0 _ rfl
theorem St.mono {w b m n f} (h : St w b m n f) {n' : Nat} (hn : n ≤ n') : St w b m n' f := by
  obtain ⟨hb, D, ho, ha⟩ := h
  exact ⟨hb, D, ho.mono hn, ha⟩
theorem zeroV (w : World) : (zeroValue 49).run Tryd.prog w = .ok (vv noneV) w := by kernel_rfl
theorem keyIs (s : ByteArray) (hs : s.size ≤ 1000) : keyOf Tryd.prog 9 (.string s) = some (.string (ky s)) := Go.WideMaps.keyOf_string_mk Tryd.underlying9 (by unfold maxLen; omega)
/-- A look-up tells the key's value. -/
theorem St.look {w b m n f} (h : St w b m n f) (s : ByteArray) (hs : s.size ≤ 1000) : (Instr.lookup 110 (.map (some m)) (.string s) false).run Tryd.prog w = .ok (vv (f (ky s))) w := by
  obtain ⟨hb, D, ho, ha⟩ := h
  obtain ⟨v, ps, hrun, hv⟩ := ho.lookup law Tryd.underlying110 (zeroV w) (vR_mk noneV) (keyIs s hs)
  obtain ⟨x, rfl, hx⟩ := vR_inv hv
  rw [hrun]
  have e : f (ky s) = x := by
    have e1 := congrArg Prod.fst hx
    simp only at e1
    rw [ha.look] at e1
    injection e1
  rw [e]
set_option maxHeartbeats 400000 in
theorem new_any (w : World) : Calls Tryd.prog 76 #[] w fun e w' => e = .returned (.pointer (some ⟨w.heap.size + 1, 0, none⟩)) ∧ St w' (w.heap.size + 1) w.heap.size 0 f0 ∧ Below w.heap.size w w' ∧ w'.heap.size = w.heap.size + 2 := by
  have hmm := @run_makeMap Tryd.prog
  go_enter Tryd.func76, Tryd.ntmps76
  go_wp2
  go_ret
  refine ⟨rfl, ⟨new_at (by simp), _, (World.ownsMap_made w Tryd.prog 9 vR).alloc _, ag_empty⟩, Joins.below_alloc2 _ _ _, by simp⟩
theorem sorted_keys {w b m n f} (h : St w b m n f) : ∃ D, w.ownsMap Tryd.prog 9 vR m n D ∧ Ag D f ∧ KeyL f ((strKeys D).mergeSort leB) ∧ (strKeys D).length = Maps.size D := by
  obtain ⟨_, D, ho, ha⟩ := h
  have hp : ∃ ss : List Ky, ss.Nodup ∧ (∀ x, x ∈ ss ↔ Maps.has D (.string x) = true) ∧ ss.Perm (strKeys D) := by
    obtain ⟨es, hD, hpw, _⟩ := ho.entries law
    obtain ⟨es', hD', hko⟩ := ho.keysOf
    obtain rfl : es = es' := by rw [hD] at hD'; simpa using hD'
    subst hD
    have hstr : ∀ p ∈ es, ∃ x, p.1 = .string x := fun p hp => by
      obtain ⟨v, hv⟩ := hko p hp
      obtain ⟨x, _, hx, _⟩ := Maps.keyOf_str Tryd.underlying9 hv
      exact ⟨x, hx⟩
    have hnd : (strKeys (.map es : DataW Vl)).Nodup := by
      show (es.map fun p => strOf p.1).Nodup
      refine List.pairwise_map.2 (hpw.imp_of_mem fun {p q} hp' hq' hne e => hne ?_)
      obtain ⟨a, ha⟩ := hstr p hp'
      obtain ⟨b, hb⟩ := hstr q hq'
      rw [ha, hb] at e ⊢
      exact congrArg _ e
    have hmem : ∀ x, x ∈ strKeys (.map es : DataW Vl) ↔ Maps.has (.map es : DataW Vl) (.string x) = true := fun x => by
      rw [Maps.has_eq, List.any_eq_true]
      show x ∈ es.map (fun p => strOf p.1) ↔ _
      rw [List.mem_map]
      constructor
      · rintro ⟨p, hp', rfl⟩
        obtain ⟨a, ha⟩ := hstr p hp'
        exact ⟨p, hp', by rw [ha]; simp [Lit.sameKey, strOf]⟩
      · rintro ⟨p, hp', hs⟩
        obtain ⟨a, ha⟩ := hstr p hp'
        rw [ha] at hs
        exact ⟨p, hp', by rw [ha]; simpa [Lit.sameKey, strOf] using hs⟩
    exact ⟨_, hnd, hmem, List.Perm.refl _⟩
  obtain ⟨ss, hnd, hmem, hperm⟩ := hp
  have tr : ∀ a b c : Ky, leB a b = true → leB b c = true → leB a c = true := fun a b c h1 h2 => by simp only [leB, decide_eq_true_eq] at *; exact List.le_trans h1 h2
  have to : ∀ a b : Ky, (leB a b || leB b a) = true := fun a b => by simp only [leB, Bool.or_eq_true, decide_eq_true_eq]; exact List.le_total a b
  have hpm := List.mergeSort_perm (strKeys D) leB
  have hnd2 : ((strKeys D).mergeSort leB).Nodup := hpm.nodup_iff.2 (hperm.nodup_iff.1 hnd)
  refine ⟨D, ho, ha, ⟨?_, fun k => ?_⟩, ?_⟩
  · have hs := List.pairwise_mergeSort tr to (strKeys D)
    refine (hs.and hnd2).imp fun {a b} hab => ?_
    have h1 : a ≤ b := by simpa [leB] using hab.1
    exact Classical.byContradiction fun hx => absurd (List.le_antisymm h1 hx) hab.2
  · rw [hpm.mem_iff, ← hperm.mem_iff, hmem k, ha.told k]; simp
  · obtain ⟨es, rfl⟩ := ho.isMap
    show (es.map fun p => strOf p.1).length = es.length
    simp
theorem St.keys {w b m n f} (h : St w b m n f) : ∃ ss, KeyL f ss ∧ ss.length ≤ n := by
  obtain ⟨D, ho, _, hk, hl⟩ := sorted_keys h
  refine ⟨_, hk, ?_⟩
  rw [List.length_mergeSort, hl]
  exact ho.size_le
set_option maxHeartbeats 400000 in
theorem len_any (b m n : Nat) (f : Fn) (ss : List Ky) (hss : KeyL f ss) (w : World) (h : St w b m n f) :
    Calls Tryd.prog 63 #[.pointer (some ⟨b, 0, none⟩)] w fun e w' => e = .returned (.int .i64 ss.length) ∧ w' = w := by
  obtain ⟨D, ho, _, hk, hl⟩ := sorted_keys h
  have hlen : ss.length = Maps.size D := by rw [hss.eq hk, List.length_mergeSort, hl]
  have c : w.cell? ⟨b, 0, none⟩ = some (.map (some m)) := h.c
  rw [hlen]
  clear h hk hl hss hlen
  go_enter Tryd.func63, Tryd.ntmps63
  go_wp2_with (first | (at_len; refine wpList_len_own _ rfl _ 110 rfl 9 49 Tryd.underlying110 _ m n _ rfl ho ?_) | go_in)
  go_ret
  exact ⟨rfl, rfl⟩
end Go.Proofs.YtbbgibekplfacaaDoor.Y
/- GreatAll. -/
namespace Go.Proofs.YtbbgibekplfacaaDoor.Y
open Go Go.RowKit
theorem Ub.c {w : World} {b : Nat} {key : ByteArray} {x n : Int} {s : ByteArray} (h : Ub w b (key, x, n, s)) : w.cell? ⟨b, 0, none⟩ = some (.string key) ∧ w.cell? ⟨b, 1, none⟩ = some (.int .i64 x) ∧ w.cell? ⟨b, 2, none⟩ = some (.int .i64 n) ∧ w.cell? ⟨b, 3, none⟩ = some (.string s) :=
  ⟨cell_at h 0 _ rfl, cell_at h 1 _ rfl, cell_at h 2 _ rfl, cell_at h 3 _ rfl⟩
theorem Vb.c {w : World} {b : Nat} {k n : Int} {s : ByteArray} (h : Vb w b (k, n, s)) : w.cell? ⟨b, 0, none⟩ = some (.int .i64 k) ∧ w.cell? ⟨b, 1, none⟩ = some (.int .i64 n) ∧ w.cell? ⟨b, 2, none⟩ = some (.string s) :=
  ⟨cell_at h 0 _ rfl, cell_at h 1 _ rfl, cell_at h 2 _ rfl⟩
end Go.Proofs.YtbbgibekplfacaaDoor.Y
/- put, Do. -/
namespace Go.Proofs.YtbbgibekplfacaaDoor.Y
open Go Go.RowKit Go.Maps
set_option maxRecDepth 20000
theorem gtrans {a b c : World} {row : Option Nat} (h : a.grownBy b row) (k : b.grownBy c row) : a.grownBy c row :=
  ⟨k.os.trans h.os, k.tape.trans h.tape, k.output.trans h.output, Nat.le_trans h.size k.size, fun i hi hr => (k.block i (Nat.lt_of_lt_of_le hi h.size) hr).trans (h.block i hi hr)⟩
theorem undrew {a b : World} {row : Option Nat} (h : a.drew.grownBy b row) : a.grownBy b row := ⟨h.os, h.tape, h.output, h.size, h.block⟩
def putF (f : Fn) (k : Ky) (v : Vl) : Fn := fun x => if x = k then v else f x
theorem St.dropped {w w' : World} {b m n f} {D : DataW Vl} (h : St w b m n f) (ha : Ag D f) {k : Ky} (ho : w'.ownsMap Tryd.prog 9 vR m n (D.del (.string k))) (ht : w.mapTurned w' m) : St w' b m n (putF f k noneV) :=
  ⟨(ht.grown.block b h.lt (fun e => h.ne (by injection e))).trans h.1, _, ho, ha.del k⟩
theorem St.stored {w w' : World} {b m n f} {D : DataW Vl} (h : St w b m n f) (ha : Ag D f) (hm : IsMap D) {k : Ky} {v : Vl} (hv : v.1 ≠ 0) (ho : w'.ownsMap Tryd.prog 9 vR m (n + 1) (D.put (.string k) (.held v))) (ht : w.mapTurned w' m) : St w' b m (n + 1) (putF f k v) :=
  ⟨(ht.grown.block b h.lt (fun e => h.ne (by injection e))).trans h.1, _, ho, ha.put hm k v hv⟩
set_option maxHeartbeats 800000 in
theorem put_none (b m n : Nat) (f : Fn) (key : ByteArray) (hk : key.size ≤ 1000) (w : World) (h : St w b m n f) :
    Calls Tryd.prog 94 #[.pointer (some ⟨b, 0, none⟩), .string key, .agg #[.int .i64 0, .int .i64 0, .string ⟨#[]⟩]] w fun e w' => e = .returned (.tuple #[]) ∧ St w' b m n (putF f (ky key) noneV) ∧ w.grownBy w' (some m) := by
  have h1 := h.alloc (.cells #[.int .i64 0, .int .i64 0, .string ⟨#[]⟩] 49)
  have c : w.cell? ⟨b, 0, none⟩ = some (.map (some m)) := h.c
  have hl := h.lt
  obtain ⟨D, ho, ha⟩ := h1.2
  have H1 := Lib.hid h1
  have HA := Lib.hid ha
  clear h h1 ha
  go_enter Tryd.func94, Tryd.ntmps94
  go_wp2_with (first | (at_delete; refine wpList_delete_own _ rfl _ _ 110 9 rfl 49 law Tryd.underlying110 vR m n D rfl ho _ _ rfl (keyIs key hk) ?_; intro w1 hown1 hturn1) | go_in)
  first | go_end0 | refine bodyPost_ret (results_none rfl _ _ _) rfl ?_
  exact ⟨rfl, H1.out.dropped HA.out hown1 hturn1, gtrans (World.grownBy_alloc w _ _) hturn1.grown⟩
theorem put_arm {w W w1 : World} {b m n : Nat} {f : Fn} {key : ByteArray} {vk vn : Int} {vs : ByteArray} (h : St (w.alloc (.cells #[.int .i64 vk, .int .i64 vn, .string vs] 49)) b m n f) (hk : key.size ≤ 1000) (hn : n < 1000000) (hv : ¬ vk = 0)
    (hb : Below W.heap.size W w1) (hW : W = (w.alloc (.cells #[.int .i64 vk, .int .i64 vn, .string vs] 49)).drew) :
    ∃ w2, (Instr.mapUpdate 110 (.map (some m)) (.string key) (.agg #[.int .i64 vk, .int .i64 vn, .string vs])).run Tryd.prog w1 = .ok () w2 ∧
      (w1.cell? ⟨b, 0, none⟩ = some (.map (some m)) ∧ w1.cell? ⟨w.heap.size, 0, none⟩ = some (.int .i64 vk) ∧ w1.cell? ⟨w.heap.size, 1, none⟩ = some (.int .i64 vn) ∧ w1.cell? ⟨w.heap.size, 2, none⟩ = some (.string vs)) ∧
      (w2.cell? ⟨b, 0, none⟩ = some (.map (some m)) ∧ w2.cell? ⟨w.heap.size, 0, none⟩ = some (.int .i64 vk) ∧ w2.cell? ⟨w.heap.size, 1, none⟩ = some (.int .i64 vn) ∧ w2.cell? ⟨w.heap.size, 2, none⟩ = some (.string vs)) ∧
      St w2 b m (n + 1) (putF f (ky key) (vk, vn, vs)) ∧ w.grownBy w2 (some m) := by
  subst hW
  have hr0 : (w.alloc (.cells #[.int .i64 vk, .int .i64 vn, .string vs] 49)).heap[w.heap.size]? = some (.cells #[.int .i64 vk, .int .i64 vn, .string vs] 49 (0, 0)) := new_at rfl
  have h2 : St w1 b m n f := St.below (h.same (w' := (w.alloc (.cells #[.int .i64 vk, .int .i64 vn, .string vs] 49)).drew) rfl) hb
  have hr : w1.heap[w.heap.size]? = some (.cells #[.int .i64 vk, .int .i64 vn, .string vs] 49 (0, 0)) := kept_at (W := (w.alloc (.cells #[.int .i64 vk, .int .i64 vn, .string vs] 49)).drew) hr0 hb
  obtain ⟨D, ho, ha⟩ := h2.2
  obtain ⟨w2, hrun, ho2, ht2⟩ := ho.store law Tryd.underlying110 (show n < maxLen by unfold maxLen; omega) (keyIs key hk) (vR_mk (vk, vn, vs))
  have hne : m ≠ w.heap.size := by
    intro e
    obtain ⟨es, clock, hm, _⟩ := ho
    rw [e, hr] at hm; cases hm
  have h3 := h2.stored ha ho.isMap hv ho2 ht2
  have hr3 := (ht2.grown.block w.heap.size (Array.getElem?_eq_some_iff.1 hr).1 (fun e => hne (by injection e with e; exact e.symm))).trans hr
  have hg : w.grownBy w1 (some m) := gtrans (World.grownBy_alloc w (.cells #[.int .i64 vk, .int .i64 vn, .string vs] 49) (some m)) (undrew (grown_of (some m) (a := (w.alloc (.cells #[.int .i64 vk, .int .i64 vn, .string vs] 49)).drew) hb))
  exact ⟨w2, hrun, ⟨h2.c, cell_at hr 0 _ rfl, cell_at hr 1 _ rfl, cell_at hr 2 _ rfl⟩, ⟨h3.c, cell_at hr3 0 _ rfl, cell_at hr3 1 _ rfl, cell_at hr3 2 _ rfl⟩, h3, gtrans hg ht2.grown⟩
set_option maxHeartbeats 2000000 in
theorem put_some (b m n : Nat) (f : Fn) (key : ByteArray) (hk : key.size ≤ 1000) (hn : n < 1000000) (vk vn : Int) (vs : ByteArray) (hv : ¬ vk = 0) (w : World) (h : St w b m n f) :
    Calls Tryd.prog 94 #[.pointer (some ⟨b, 0, none⟩), .string key, .agg #[.int .i64 vk, .int .i64 vn, .string vs]] w fun e w' => e = .returned (.tuple #[]) ∧ St w' b m (n + 1) (putF f (ky key) (vk, vn, vs)) ∧ w.grownBy w' (some m) := by
  have HC := fun w => Lib.hid (clone_any key (by omega) w)
  have hl := h.lt
  have hlm := h.ltm
  have hne := h.ne
  have h1 := h.alloc (.cells #[.int .i64 vk, .int .i64 vn, .string vs] 49)
  have c : w.cell? ⟨b, 0, none⟩ = some (.map (some m)) := h.c
  have H1 := Lib.hid h1
  have HN := Lib.hid hne
  clear h h1 hne
  go_enter Tryd.func94, Tryd.ntmps94
  go_wp2_with fail
  have c' : (w.alloc (.cells #[.int .i64 vk, .int .i64 vn, .string vs] 49)).cell? ⟨b, 0, none⟩ = some (.map (some m)) := H1.out.c
  have hr0 : (w.alloc (.cells #[.int .i64 vk, .int .i64 vn, .string vs] 49)).heap[w.heap.size]? = some (.cells #[.int .i64 vk, .int .i64 vn, .string vs] 49 (0, 0)) := new_at rfl
  have d0 := cell_at hr0 0 (.int .i64 vk) rfl
  have d1 := cell_at hr0 1 (.int .i64 vn) rfl
  have d2 := cell_at hr0 2 (.string vs) rfl
  go_region_held3 (fun w' => w'.cell? ⟨b, 0, none⟩ = some (.map (some m)) ∧ w'.cell? ⟨w.heap.size, 0, none⟩ = some (.int .i64 vk) ∧ w'.cell? ⟨w.heap.size, 1, none⟩ = some (.int .i64 vn) ∧ w'.cell? ⟨w.heap.size, 2, none⟩ = some (.string vs))
    (first | exact ⟨c', d0, d1, d2⟩ | exact ⟨g0, g1, g2, g3⟩)
    (first
      | (go_at_call 58
         refine (HC _).out.mono ?_
         rintro e w1 ⟨rfl, hb⟩
         obtain ⟨w2, hrun, ⟨c', d0, d1, d2⟩, ⟨g0, g1, g2, g3⟩, h3, hg3⟩ := put_arm H1.out hk hn hv hb rfl
         have H3 := Lib.hid h3
         have HG := Lib.hid hg3
         clear hb h3 hg3))
  go_wp2
  first | go_end0 | refine bodyPost_ret (results_none rfl _ _ _) rfl ?_
  exact ⟨rfl, H3.out, HG.out⟩
theorem put_any (b m n : Nat) (f : Fn) (key : ByteArray) (hk : key.size ≤ 1000) (hn : n < 1000000) (v : Vl) (hv : Gd v) (w : World) (h : St w b m n f) :
    Calls Tryd.prog 94 #[.pointer (some ⟨b, 0, none⟩), .string key, vv v] w fun e w' => e = .returned (.tuple #[]) ∧ St w' b m (n + 1) (putF f (ky key) v) ∧ w.grownBy w' (some m) := by
  by_cases e : v.1 = 0
  · have ev := hv.1 e
    subst ev
    exact (put_none b m n f key hk w h).mono fun x w' hx => ⟨hx.1, hx.2.1.mono (Nat.le_succ _), hx.2.2⟩
  · obtain ⟨vk, vn, vs⟩ := v
    exact put_some b m n f key hk hn vk vn vs e w h
end Go.Proofs.YtbbgibekplfacaaDoor.Y
/- Do. -/
namespace Go.Proofs.YtbbgibekplfacaaDoor.Y
open Go Go.RowKit Go.Maps
set_option maxRecDepth 20000
theorem doF_put {f : Fn} {u : Up} (h : mayE u = 0) : putF f (ky u.1) (oneV (f (ky u.1)) u) = doF f u := by
  funext x
  by_cases e : x = ky u.1
  · subst e; simp [putF, doF, h]
  · simp [putF, doF, e]
/-- The update's box, the store, behind a call that makes memory. -/
theorem do_arm {w W w1 : World} {b m n : Nat} {f : Fn} {u : Up} {B : Nat} (h : St w b m n f) (hu : Ub w B u) (hb : Below W.heap.size W w1) (hW : W.heap = w.heap) : St w1 b m n f ∧ Ub w1 B u :=
  ⟨(h.same hW).below hb, Ub.kept hu hb hW⟩
theorem do_end {w w1 : World} {b m n : Nat} {f g : Fn} {u : Up} {B : Nat} (h : St w b m n f) (hu : Ub w B u) (h1 : St w1 b m (n + 1) g) (hg : w.grownBy w1 (some m)) : w1.cell? ⟨b, 0, none⟩ = some (.map (some m)) ∧ Ub w1 B u := by
  refine ⟨h1.c, (hg.block B hu.lt fun e => ?_).trans hu⟩
  obtain ⟨_, D, ⟨es, clock, hm, _⟩, _⟩ := h
  injection e with e
  subst e
  unfold Ub at hu
  rw [hu] at hm; cases hm
set_option maxHeartbeats 1000000 in
theorem do_no (b m n : Nat) (f : Fn) (u : Up) (hm : ¬ mayE u = 0) (w : World) (h : St w b m n f) :
    Calls Tryd.prog 85 #[.pointer (some ⟨b, 0, none⟩), uu u] w fun e w' => e = .returned (.int .i64 (mayE u)) ∧ St w' b m n f ∧ w.grownBy w' (some m) := by
  have HM := fun w => Lib.hid (may_any u w)
  have hq : (mayE u == 0) = false := beq_false_of_ne hm
  have HS := Lib.hid h
  clear h hm
  generalize mayE u = r at *
  obtain ⟨key, x, q, s⟩ := u
  simp only [uu] at *
  go_enter Tryd.func85, Tryd.ntmps85
  go_wp2_with fail
  refine (HM _).out.mono ?_
  rintro e w1 ⟨rfl, hb⟩
  have HB := Lib.hid hb
  clear hb HM
  go_wp2
  go_ret
  exact ⟨rfl, (HS.out.alloc _).below HB.out, gtrans (World.grownBy_alloc w _ _) (grown_of _ HB.out)⟩
set_option maxHeartbeats 4000000 in
theorem do_yes (b m n : Nat) (f : Fn) (u : Up) (hm : mayE u = 0) (hk : u.1.size ≤ 1000) (hn : n < 1000000) (hu : Sh u.2.2.2) (hf : Sh (f (ky u.1)).2.2) (w : World) (h : St w b m n f) :
    Calls Tryd.prog 85 #[.pointer (some ⟨b, 0, none⟩), uu u] w fun e w' => e = .returned (.int .i64 0) ∧ St w' b m (n + 1) (doF f u) ∧ w.grownBy w' (some m) := by
  have HM := fun w => Lib.hid (may_any u w)
  rw [hm] at HM
  have HA := fun w => Lib.hid (apply_any (f (ky u.1)) u hf hu w)
  have HP := fun w h => Lib.hid (put_any b m n f u.1 hk hn (oneV (f (ky u.1)) u) (gd_one _ _ hf hu) w h)
  rw [doF_put hm] at HP
  have HL := fun W (h : St W b m n f) => Lib.hid (h.look u.1 hk)
  have HS := Lib.hid h
  clear h hm hf hu hk hn
  generalize doF f u = g at *
  generalize oneV (f (ky u.1)) u = r at *
  generalize f (ky u.1) = v at *
  obtain ⟨rk, rn, rs⟩ := r
  obtain ⟨vk, vn, vs⟩ := v
  obtain ⟨key, x, q, s⟩ := u
  simp only [uu, vv_eq] at *
  go_enter Tryd.func85, Tryd.ntmps85
  go_wp2_with fail
  refine (HM _).out.mono ?_
  rintro e w1 ⟨rfl, hb⟩
  have h1 := do_arm (u := (key, x, q, s)) (B := w.heap.size) (HS.out.alloc (.cells #[.string key, .int .i64 x, .int .i64 q, .string s] 32)) (new_at rfl) hb rfl
  have HG1 := Lib.hid (gtrans (World.grownBy_alloc w (.cells #[.string key, .int .i64 x, .int .i64 q, .string s] 32) (some m)) (grown_of (some m) hb))
  have c := h1.1.c
  obtain ⟨d0, d1, d2, d3⟩ := Ub.c h1.2
  have hl := (HL _ (h1.1.same (w' := w1.drew) rfl)).out
  have hl' := (HL _ h1.1).out
  have H1 := Lib.hid h1
  clear hb h1 HM HL
  go_wp2_with fail
  go_region_held3 (fun w' => w'.cell? ⟨b, 0, none⟩ = some (.map (some m)) ∧ w'.cell? ⟨w.heap.size, 0, none⟩ = some (.string key) ∧ w'.cell? ⟨w.heap.size, 1, none⟩ = some (.int .i64 x) ∧ w'.cell? ⟨w.heap.size, 2, none⟩ = some (.int .i64 q) ∧ w'.cell? ⟨w.heap.size, 3, none⟩ = some (.string s))
    (first | exact ⟨c, d0, d1, d2, d3⟩)
    (first
      | (go_at_call 74
         refine (HA _).out.mono ?_
         rintro e w2 ⟨rfl, hb⟩
         have h2 := do_arm H1.out.1 H1.out.2 hb rfl
         have c := h2.1.c
         obtain ⟨d0, d1, d2, d3⟩ := Ub.c h2.2
         have HG2 := Lib.hid (grown_of (some m) hb)
         have H2 := Lib.hid h2
         clear hb h2)
      | (go_at_call 94
         refine (HP _ H2.out.1).out.mono ?_
         rintro e w3 ⟨rfl, h3, hg3⟩
         have h4 := do_end H2.out.1 H2.out.2 h3 hg3
         have c := h4.1
         obtain ⟨d0, d1, d2, d3⟩ := Ub.c h4.2
         have HG3 := Lib.hid hg3
         have H3 := Lib.hid h3
         clear h3 hg3 h4))
  go_wp2
  go_ret
  exact ⟨rfl, H3.out, gtrans (gtrans HG1.out (undrew HG2.out)) HG3.out⟩
/-- Do: told why not, or done. -/
theorem do_any (b m n : Nat) (f : Fn) (u : Up) (hk : u.1.size ≤ 1000) (hn : n < 1000000) (hu : Sh u.2.2.2) (hf : ∀ k, Gd (f k)) (w : World) (h : St w b m n f) :
    Calls Tryd.prog 85 #[.pointer (some ⟨b, 0, none⟩), uu u] w fun e w' => e = .returned (.int .i64 (mayE u)) ∧ St w' b m (n + 1) (doF f u) ∧ w.grownBy w' (some m) := by
  by_cases e : mayE u = 0
  · rw [e]
    exact do_yes b m n f u e hk hn hu (hf _).2.2 w h
  · rw [doF_refused e]
    exact (do_no b m n f u e w h).mono fun x w' hx => ⟨hx.1, hx.2.1.mono (Nat.le_succ _), hx.2.2⟩
end Go.Proofs.YtbbgibekplfacaaDoor.Y
