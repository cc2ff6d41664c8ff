/- The store: its block, its map; New, Len, Get. -/
import Derived.Test.YteonmljchcekpaaS0
import Derived.Test.YteonmljchcekpaaSV
import Derived.Maps.OwnSet
import Derived.Sort.KeysCollected
import Derived.Deep.RegionHeld3
namespace Go.Proofs.Yteonmljchcekpaa
open Go Go.RowKit Go.Maps
theorem vv_inj {x y : Vl} (h : vv x = vv y) : x = y := by
  obtain ⟨a, b, c⟩ := x
  obtain ⟨d, e, f⟩ := y
  simpa [vv] using h
open Classical in
/-- How a value in a map reads. -/
noncomputable def vR (v : Value) : Option (DataW Vl × List MemPlace) := if h : ∃ x, v = vv x then some (.held h.choose, []) else none
theorem vR_mk (x : Vl) : vR (vv x) = some (.held x, []) := by
  have h : ∃ y, vv x = vv y := ⟨x, rfl⟩
  unfold vR
  rw [dif_pos h, ← vv_inj h.choose_spec]
theorem vR_inv {v : Value} {z : DataW Vl × List MemPlace} (h : vR v = some z) : ∃ x, v = vv x ∧ z = (.held x, []) := by
  unfold vR at h
  split at h
  · rename_i hx
    refine ⟨hx.choose, hx.choose_spec, ?_⟩
    simpa using h.symm
  · cases h
/-- The map's datum tells these values. -/
structure Ag (D : DataW Vl) (f : Fn) : Prop where
  look : ∀ k, D.atKey (.string k) (.held noneV) = .held (f k)
  told : ∀ k, Maps.has D (.string k) = decide ((f k).1 ≠ 0)
theorem law : Keyed Try.prog 9 := string_keyed Try.underlying9
theorem ag_empty : Ag (.map []) f0 := ⟨fun _ => rfl, fun _ => rfl⟩
theorem str_ne' {a b : Ky} (h : a ≠ b) : (Lit.string a) ≠ .string b := fun e => h (by injection e)
theorem Ag.put {D : DataW Vl} {f : Fn} (h : Ag D f) (hm : IsMap D) (k : Ky) (v : Vl) (hv : v.1 ≠ 0) : Ag (D.put (.string k) (.held v)) (fun x => if x = k then v else f x) := by
  refine ⟨fun x => ?_, fun x => ?_⟩
  · by_cases e : x = k
    · subst e; rw [if_pos rfl]; exact Maps.atKey_put_same hm (k := .string _) trivial _ _
    · rw [if_neg e, Maps.atKey_put_other (str_ne' e)]; exact h.look x
  · by_cases e : x = k
    · subst e; rw [if_pos rfl, Maps.has_put_same hm (k := .string _) trivial]; simp [hv]
    · rw [if_neg e, Maps.has_put_other (str_ne' e)]; exact h.told x
theorem Ag.del {D : DataW Vl} {f : Fn} (h : Ag D f) (k : Ky) : Ag (D.del (.string k)) (fun x => if x = k then noneV else f x) := by
  refine ⟨fun x => ?_, fun x => ?_⟩
  · by_cases e : x = k
    · subst e; rw [if_pos rfl]; exact Maps.atKey_del_same _
    · rw [if_neg e, Maps.atKey_del_other (str_ne' e)]; exact h.look x
  · by_cases e : x = k
    · subst e; rw [if_pos rfl, Maps.has_del_same]; rfl
    · rw [if_neg e, Maps.has_del_other (str_ne' e)]; exact h.told x
/-- In block b lies a store, its map in block m, of at most n entries. -/
def St (w : World) (b m n : Nat) (f : Fn) : Prop := w.heap[b]? = some (.cells #[.map (some m)] 62 (0, 0)) ∧ ∃ D, w.ownsMap Try.prog 9 vR m n D ∧ Ag D f
theorem St.lt {w b m n f} (h : St w b m n f) : b < w.heap.size := (Array.getElem?_eq_some_iff.1 h.1).1
theorem St.ltm {w b m n f} (h : St w b m n f) : m < w.heap.size := by obtain ⟨_, D, ho, _⟩ := h; exact ho.lt
theorem St.ne {w b m n f} (h : St w b m n f) : b ≠ m := by
  obtain ⟨hb, D, ⟨es, clock, hm, _⟩, _⟩ := h
  intro e; subst e; rw [hb] at hm; cases hm
theorem St.kept {w w' : World} {b m n f} {row : Option Nat} (h : St w b m n f) (hg : w.grownBy w' row) (h1 : some b ≠ row) (h2 : some m ≠ row) : St w' b m n f := by
  have hl := h.lt
  obtain ⟨hb, D, ho, ha⟩ := h
  exact ⟨(hg.block b hl h1).trans hb, D, ho.kept hg h2, ha⟩
theorem grown_of {a b : World} (row : Option Nat) (h : Below a.heap.size a b) : a.grownBy b row := ⟨h.os, h.tape, h.output, h.size, fun j hj _ => h.block j hj⟩
theorem St.below {w w' : World} {b m n f} (h : St w b m n f) (hb : Below w.heap.size w w') : St w' b m n f := h.kept (grown_of none hb) (by simp) (by simp)
theorem St.alloc {w : World} {b m n f} (h : St w b m n f) (o : Obj) : St (w.alloc o) b m n f := h.kept (World.grownBy_alloc w o none) (by simp) (by simp)
theorem St.same {w w' : World} {b m n f} (h : St w b m n f) (e : w'.heap = w.heap) : St w' b m n f := by
  obtain ⟨hb, D, ⟨es, clock, hm, r⟩, ha⟩ := h
  exact ⟨by rw [e]; exact hb, D, ⟨es, clock, by rw [e]; exact hm, r⟩, ha⟩
theorem St.set {w : World} {b m n f} (h : St w b m n f) (g i : Nat) (v : Value) (h1 : b ≠ g) (h2 : m ≠ g) : St (w.setCell ⟨g, i, none⟩ v) b m n f := by
  obtain ⟨hb, D, ho, ha⟩ := h
  exact ⟨(Below.heap_setCell _ _ _ _ h1).trans hb, D, ho.setCell h2 v, ha⟩
theorem St.c {w b m n f} (h : St w b m n f) : w.cell? ⟨b, 0, none⟩ = some (.map (some m)) := cell_at h.1 0 _ rfl
theorem St.mono {w b m n f} (h : St w b m n f) {n' : Nat} (hn : n ≤ n') : St w b m n' f := by
  obtain ⟨hb, D, ho, ha⟩ := h
  exact ⟨hb, D, ho.mono hn, ha⟩
theorem zeroV (w : World) : (zeroValue 27).run Try.prog w = .ok (vv noneV) w := by kernel_rfl
theorem keyIs (s : ByteArray) (hs : s.size ≤ 1000) : keyOf Try.prog 9 (.string s) = some (.string (ky s)) := Go.WideMaps.keyOf_string_mk Try.underlying9 (by unfold maxLen; omega)
/-- A look-up tells the key's value. -/
theorem St.look {w b m n f} (h : St w b m n f) (s : ByteArray) (hs : s.size ≤ 1000) : (Instr.lookup 60 (.map (some m)) (.string s) false).run Try.prog w = .ok (vv (f (ky s))) w := by
  obtain ⟨hb, D, ho, ha⟩ := h
  obtain ⟨v, ps, hrun, hv⟩ := ho.lookup law Try.underlying60 (zeroV w) (vR_mk noneV) (keyIs s hs)
  obtain ⟨x, rfl, hx⟩ := vR_inv hv
  rw [hrun]
  have e : f (ky s) = x := by
    have e1 := congrArg Prod.fst hx
    simp only at e1
    rw [ha.look] at e1
    injection e1
  rw [e]
set_option maxHeartbeats 400000 in
theorem new_any (w : World) : Calls Try.prog 29 #[] w fun e w' => e = .returned (.pointer (some ⟨w.heap.size + 1, 0, none⟩)) ∧ St w' (w.heap.size + 1) w.heap.size 0 f0 ∧ Below w.heap.size w w' ∧ w'.heap.size = w.heap.size + 2 := by
  have hmm := @run_makeMap Try.prog
  go_enter Try.func29, Try.ntmps29
  go_wp2
  go_ret
  refine ⟨rfl, ⟨new_at (by simp), _, (World.ownsMap_made w Try.prog 9 vR).alloc _, ag_empty⟩, Joins.below_alloc2 _ _ _, by simp⟩
set_option maxHeartbeats 800000 in
theorem get_any (b m n : Nat) (f : Fn) (key : ByteArray) (hk : key.size ≤ 1000) (hs : Sh (f (ky key)).2.2) (w : World) (h : St w b m n f) :
    Calls Try.prog 21 #[.pointer (some ⟨b, 0, none⟩), .string key] w fun e w' => e = .returned (vv (f (ky key))) ∧ Below w.heap.size w w' := by
  have hl : ∀ o, (Instr.lookup 60 (.map (some m)) (.string key) false).run Try.prog (w.alloc o) = .ok (vv (f (ky key))) (w.alloc o) := fun o => (h.alloc o).look key hk
  have hb := h.lt
  have c : w.cell? ⟨b, 0, none⟩ = some (.map (some m)) := h.c
  clear h
  generalize f (ky key) = r at *
  obtain ⟨rk, rn, rs⟩ := r
  have HC := fun w => Lib.hid (clone_any rs (by have : rs.size ≤ 100000 := hs; omega) w)
  simp only [vv_eq] at *
  go_enter Try.func21, Try.ntmps21
  go_wp2_with fail
  refine (HC _).out.mono ?_
  rintro e w1 ⟨rfl, hb1⟩
  have hr := kept_at (old_at (new_at (n := w.heap.size) rfl)) hb1
  have hr2 := kept_at (new_at (n := w.heap.size + 1) (by simp)) hb1
  have HB := Lib.hid ((Joins.below_alloc2 w _ _).trans (hb1.mono (by simp; omega)))
  have c0 := cell_at hr 0 (.int .i64 0) rfl
  have c1 := cell_at hr 1 (.int .i64 0) rfl
  have c2 := cell_at hr 2 (.string ⟨#[]⟩) rfl
  have f0 := unfrozen_at hr 0
  have f1 := unfrozen_at hr 1
  have f2 := unfrozen_at hr 2
  have d0 := cell_at hr2 0 (.int .i64 rk) rfl
  have d1 := cell_at hr2 1 (.int .i64 rn) rfl
  have d2 := cell_at hr2 2 (.string rs) rfl
  have g2 := unfrozen_at hr2 2
  clear hb1 hr hr2 HC
  go_wp2
  refine bodyPost_ret (v := .agg #[.int .i64 rk, .int .i64 rn, .string rs]) (by simp [results, Try.results21, go_sem, c0, c1, c2]) rfl ⟨rfl, ?_⟩
  exact below_set3 (HB.out.setCell (show w.heap.size ≤ w.heap.size + 1 by omega) _) (Nat.le_refl _) _ _ _
theorem sorted_keys {w b m n f} (h : St w b m n f) : ∃ D, w.ownsMap Try.prog 9 vR m n D ∧ Ag D f ∧ KeyL f ((strKeys D).mergeSort leB) ∧ (strKeys D).length = Maps.size D := by
  obtain ⟨_, D, ho, ha⟩ := h
  have hp : ∃ ss : List Ky, ss.Nodup ∧ (∀ x, x ∈ ss ↔ Maps.has D (.string x) = true) ∧ ss.Perm (strKeys D) := by
    obtain ⟨es, hD, hpw, _⟩ := ho.entries law
    obtain ⟨es', hD', hko⟩ := ho.keysOf
    obtain rfl : es = es' := by rw [hD] at hD'; simpa using hD'
    subst hD
    have hstr : ∀ p ∈ es, ∃ x, p.1 = .string x := fun p hp => by
      obtain ⟨v, hv⟩ := hko p hp
      obtain ⟨x, _, hx, _⟩ := Maps.keyOf_str Try.underlying9 hv
      exact ⟨x, hx⟩
    have hnd : (strKeys (.map es : DataW Vl)).Nodup := by
      show (es.map fun p => strOf p.1).Nodup
      refine List.pairwise_map.2 (hpw.imp_of_mem fun {p q} hp' hq' hne e => hne ?_)
      obtain ⟨a, ha⟩ := hstr p hp'
      obtain ⟨b, hb⟩ := hstr q hq'
      rw [ha, hb] at e ⊢
      exact congrArg _ e
    have hmem : ∀ x, x ∈ strKeys (.map es : DataW Vl) ↔ Maps.has (.map es : DataW Vl) (.string x) = true := fun x => by
      rw [Maps.has_eq, List.any_eq_true]
      show x ∈ es.map (fun p => strOf p.1) ↔ _
      rw [List.mem_map]
      constructor
      · rintro ⟨p, hp', rfl⟩
        obtain ⟨a, ha⟩ := hstr p hp'
        exact ⟨p, hp', by rw [ha]; simp [Lit.sameKey, strOf]⟩
      · rintro ⟨p, hp', hs⟩
        obtain ⟨a, ha⟩ := hstr p hp'
        rw [ha] at hs
        exact ⟨p, hp', by rw [ha]; simpa [Lit.sameKey, strOf] using hs⟩
    exact ⟨_, hnd, hmem, List.Perm.refl _⟩
  obtain ⟨ss, hnd, hmem, hperm⟩ := hp
  have tr : ∀ a b c : Ky, leB a b = true → leB b c = true → leB a c = true := fun a b c h1 h2 => by simp only [leB, decide_eq_true_eq] at *; exact List.le_trans h1 h2
  have to : ∀ a b : Ky, (leB a b || leB b a) = true := fun a b => by simp only [leB, Bool.or_eq_true, decide_eq_true_eq]; exact List.le_total a b
  have hpm := List.mergeSort_perm (strKeys D) leB
  have hnd2 : ((strKeys D).mergeSort leB).Nodup := hpm.nodup_iff.2 (hperm.nodup_iff.1 hnd)
  refine ⟨D, ho, ha, ⟨?_, fun k => ?_⟩, ?_⟩
  · have hs := List.pairwise_mergeSort tr to (strKeys D)
    refine (hs.and hnd2).imp fun {a b} hab => ?_
    have h1 : a ≤ b := by simpa [leB] using hab.1
    exact Classical.byContradiction fun hx => absurd (List.le_antisymm h1 hx) hab.2
  · rw [hpm.mem_iff, ← hperm.mem_iff, hmem k, ha.told k]; simp
  · obtain ⟨es, rfl⟩ := ho.isMap
    show (es.map fun p => strOf p.1).length = es.length
    simp
theorem St.keys {w b m n f} (h : St w b m n f) : ∃ ss, KeyL f ss ∧ ss.length ≤ n := by
  obtain ⟨D, ho, _, hk, hl⟩ := sorted_keys h
  refine ⟨_, hk, ?_⟩
  rw [List.length_mergeSort, hl]
  exact ho.size_le
set_option maxHeartbeats 400000 in
theorem len_any (b m n : Nat) (f : Fn) (ss : List Ky) (hss : KeyL f ss) (w : World) (h : St w b m n f) :
    Calls Try.prog 16 #[.pointer (some ⟨b, 0, none⟩)] w fun e w' => e = .returned (.int .i64 ss.length) ∧ w' = w := by
  obtain ⟨D, ho, _, hk, hl⟩ := sorted_keys h
  have hlen : ss.length = Maps.size D := by rw [hss.eq hk, List.length_mergeSort, hl]
  have c : w.cell? ⟨b, 0, none⟩ = some (.map (some m)) := h.c
  rw [hlen]
  clear h hk hl hss hlen
  go_enter Try.func16, Try.ntmps16
  go_wp2_with (first | (at_len; refine wpList_len_own _ rfl _ 60 rfl 9 27 Try.underlying60 _ m n _ rfl ho ?_) | go_in)
  go_ret
  exact ⟨rfl, rfl⟩
end Go.Proofs.Yteonmljchcekpaa
