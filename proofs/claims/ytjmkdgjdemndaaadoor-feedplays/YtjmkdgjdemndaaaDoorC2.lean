/- New, Len, Last, At, All; the document's New and Last. -/
import Derived.Test.YtjmkdgjdemndaaaDoorC1
import Derived.Test.YtjmkdgjdemndaaaDoorI2
import Derived.Deep.QuietTactic
import Derived.BigQuiet
namespace Go.Proofs.YtjmkdgjdemndaaaDoor
open Go Go.RowKit
set_option maxRecDepth 20000
set_option maxRecDepth 20000
theorem slR_back (a : Option Addr) (len cap n : Nat) (h : n ≤ len) (w : World) : (Instr.sliceAt 57 (.slice a len cap) (some (.int .i64 n)) none none).run Tryd.prog w = .ok (.slice (if cap = n then a else a.map (·.add (n * 3))) (len - n) (cap - n)) w := by
  rw [run_sliceAt_slice _ _ _ _ _ _ Tryd.underlying57]
  simp [Instr.slice, Instr.sliceBounds, Instr.sliceBound, asIntOf, run_underlying Tryd.underlying57, go_sem]
  first | done | (intro hx; omega)
theorem IsRs.back {w : World} {a : Option Addr} {len cap : Nat} {rs : List Rn} (h : IsRs w a len rs) (hlc : len ≤ cap) {n : Nat} (hn : n ≤ len) : IsRs w (if cap = n then a else a.map (·.add (n * 3))) (len - n) (rs.drop n) := by
  have hs := h.size
  refine ⟨by rw [List.length_drop]; omega, fun h0 => ?_, fun r hr => h.each r (List.mem_of_mem_drop hr)⟩
  obtain ⟨b, off, rfl, hf⟩ := h.lies (by omega)
  have e : (if cap = n then some (⟨b, off, none⟩ : Addr) else (some (⟨b, off, none⟩ : Addr)).map (·.add (n * 3))) = some ⟨b, off + n * 3, none⟩ := by
    rw [if_neg (by omega)]
    simp [Addr.add_lit]
  refine ⟨b, off + n * 3, e, three fun i hi => ?_⟩
  rw [List.length_drop] at hi
  have h1 := hf.o (n + i) (by omega)
  have h2 := hf.n (n + i) (by omega)
  have h3 := hf.u (n + i) (by omega)
  have e1 : (rs.drop n).getD i rn0 = rs.getD (n + i) rn0 := by simp [List.getD_eq_getElem?_getD, List.getElem?_drop]
  rw [e1, show off + n * 3 + i * 3 = off + (n + i) * 3 by omega]
  exact ⟨h1, h2, h3⟩
theorem back_none {a : Option Addr} {cap n : Nat} (h : a = none → cap = 0) : (if cap = n then a else a.map (·.add (n * 3))) = none → cap - n = 0 := fun e => by
  split at e
  · rw [h e]; simp
  · cases a with
    | none => rw [h rfl]; simp
    | some x => cases e
theorem infoRz : (Tryd.prog.info? 43).map (fun i => (i.zero, i.size, i.bytes)) = some (some (.agg #[.int .i64 0, .int .i64 0, .slice none 0 0]), 3, 40) := by kernel_rfl
/-- A row of rounds that the call made: it lies in block g, whole. -/
def Rz (w : World) (g : Nat) (rs : List Rn) : Prop := w.heap[g]? = some (.cells (flR rs).toArray 43 (0, 0))
section
variable {w w' : World} {g : Nat} {rs : List Rn}
theorem Rz.lt (h : Rz w g rs) : g < w.heap.size := (Array.getElem?_eq_some_iff.1 h).1
theorem Rz.kept {row : Option Nat} (h : Rz w g rs) (hg : w.grownBy w' row) (hne : some g ≠ row) : Rz w' g rs := (hg.block g h.lt hne).trans h
theorem Rz.next (h : Rz w g rs) (hb : Below w.heap.size w w') : Rz w' g rs := (hb.block g h.lt).trans h
theorem Rz.alloc (h : Rz w g rs) (x : Obj) : Rz (w.alloc x) g rs := (Below.heap_alloc _ _ _ h.lt).trans h
theorem Rz.f0 (h : Rz w g rs) (i : Nat) : w.frozen? ⟨g, i, none⟩ = false := by unfold Rz at h; simp [World.frozen?, h]
theorem Rz.row (h : Rz w g rs) (k : Nat) (hk : k < rs.length) : w.cell? ⟨g, k * 3, none⟩ = some (.int .i64 (rs.getD k rn0).o) ∧ w.cell? ⟨g, k * 3 + 1, none⟩ = some (.int .i64 (rs.getD k rn0).n) ∧ w.cell? ⟨g, k * 3 + 2, none⟩ = some (.slice (rs.getD k rn0).a (rs.getD k rn0).len (rs.getD k rn0).cap) := by
  have hc : ∀ r, r < 3 → w.cell? ⟨g, k * 3 + r, none⟩ = (cellsR3 (rs.getD k rn0))[r]? := fun r hr => by
    have h1 := flR_get rs k r hk hr
    obtain ⟨v, hv⟩ : ∃ v, (cellsR3 (rs.getD k rn0))[r]? = some v := ⟨_, List.getElem?_eq_getElem (show r < (cellsR3 (rs.getD k rn0)).length from hr)⟩
    rw [hv] at h1 ⊢
    exact cell_at h (k * 3 + r) v (by simpa using h1)
  exact ⟨hc 0 (by omega), hc 1 (by omega), hc 2 (by omega)⟩
theorem Rz.at (h : Rz w g rs) : RsAt w (some ⟨g, 0, none⟩) rs.length rs :=
  ⟨rfl, fun _ => ⟨g, 0, rfl, three fun i hi => by rw [Nat.zero_add]; exact h.row i hi⟩⟩
theorem flR_set (rs : List Rn) (k : Nat) (hk : k < rs.length) (u : Rn) : ((((flR rs).toArray.set! (k * 3) (.int .i64 u.o)).set! (k * 3 + 1) (.int .i64 u.n)).set! (k * 3 + 2) (.slice u.a u.len u.cap)) = (flR (rs.set k u)).toArray := by
  apply Array.ext'
  simp only [Array.set!_eq_setIfInBounds, Array.toList_setIfInBounds]
  apply List.ext_getElem?
  intro j
  have hl := flR_len rs
  have hl' := flR_len (rs.set k u)
  rw [List.length_set] at hl'
  by_cases hj : j < rs.length * 3
  · rw [flR_at _ j (by rw [List.length_set]; exact hj)]
    have hu := flR_at rs j hj
    by_cases hjk : j / 3 = k
    · rw [hjk, List.getD_eq_getElem?_getD, List.getElem?_set_self hk]
      simp only [Option.getD_some]
      rcases (show j % 3 = 0 ∨ j % 3 = 1 ∨ j % 3 = 2 by omega) with h0 | h0 | h0
      · obtain rfl : j = k * 3 := by omega
        rw [h0, List.getElem?_set_ne (by omega), List.getElem?_set_ne (by omega), List.getElem?_set_self (by simpa using by omega)]
        rfl
      · obtain rfl : j = k * 3 + 1 := by omega
        rw [h0, List.getElem?_set_ne (by omega), List.getElem?_set_self (by simp; omega)]
        rfl
      · obtain rfl : j = k * 3 + 2 := by omega
        rw [h0, List.getElem?_set_self (by simp; omega)]
        rfl
    · rw [List.getElem?_set_ne (by omega), List.getElem?_set_ne (by omega), List.getElem?_set_ne (by omega)]
      rw [hu, List.getD_eq_getElem?_getD, List.getD_eq_getElem?_getD, List.getElem?_set_ne (fun e => hjk e.symm)]
  · rw [List.getElem?_eq_none (by simp only [List.length_set]; show (flR rs).length ≤ j; omega), List.getElem?_eq_none (by omega)]
theorem Rz.set3 (h : Rz w g rs) (k : Nat) (hk : k < rs.length) (u : Rn) : Rz (((w.setCell ⟨g, k * 3, none⟩ (.int .i64 u.o)).setCell ⟨g, k * 3 + 1, none⟩ (.int .i64 u.n)).setCell ⟨g, k * 3 + 2, none⟩ (.slice u.a u.len u.cap)) g (rs.set k u) := by
  unfold Rz at *
  rw [← flR_set rs k hk u]
  simp [World.setCell, Array.getElem?_modify, h]
/-- What 'make' makes. -/
theorem Rz.made {base n : Nat} (h : w'.ownsRow base 43 3 (.slice (some ⟨g, 0, none⟩) n n) n (madeCells (Value.agg #[.int .i64 0, .int .i64 0, .slice none 0 0]).cells (n * 3)).toList) : Rz w' g (List.replicate n rn0) := by
  rcases h.2 with ⟨e, _⟩ | ⟨g', cap, cur, e, _, hh, _, _, hs, ht⟩
  · cases e
  · simp only [Value.slice.injEq, Option.some.injEq, Addr.mk.injEq, and_true] at e
    obtain ⟨rfl, _, rfl⟩ := e
    unfold Rz
    rw [hh]
    have e1 : cur.toList.take (n * 3) = cur.toList := List.take_of_length_le (by rw [Array.length_toList]; omega)
    rw [e1] at ht
    have e2 : cur = (flR (List.replicate n rn0)).toArray := by
      apply Array.ext'
      rw [ht]
      show _ = flR (List.replicate n rn0)
      apply List.ext_getElem?
      intro j
      by_cases hj : j < n * 3
      · rw [flR_at _ j (by rw [List.length_replicate]; exact hj), List.getD_eq_getElem?_getD, List.getElem?_replicate, if_pos (by omega)]
        simp only [Option.getD_some, madeCells, Array.toList_map, List.getElem?_map, Array.toList_range, List.getElem?_range hj, Option.map_some]
        rcases (show j % 3 = 0 ∨ j % 3 = 1 ∨ j % 3 = 2 by omega) with h0 | h0 | h0 <;> (rw [show (Value.agg #[.int .i64 0, .int .i64 0, .slice none 0 0]).cells.size = 3 from rfl, h0]; rfl)
      · rw [List.getElem?_eq_none (by simp [madeCells]; omega), List.getElem?_eq_none (by rw [flR_len, List.length_replicate]; omega)]
    rw [e2]
end
theorem setR_step (xs : List Rn) (n k : Nat) (u : Rn) (hx : xs.length = k) (hk : k < n) : (xs ++ List.replicate (n - k) rn0).set k u = (xs ++ [u]) ++ List.replicate (n - (k + 1)) rn0 := by
  subst hx
  rw [List.set_append_right _ _ (Nat.le_refl _), Nat.sub_self]
  obtain ⟨m, hm⟩ : ∃ m, n - xs.length = m + 1 := ⟨n - xs.length - 1, by omega⟩
  rw [hm, List.replicate_succ, show n - (xs.length + 1) = m by omega, List.set_cons_zero, List.append_assoc]
  rfl
/-- What a round's copy is: its updates lie in a block of its own, from B on. -/
def Own (B : Nat) (w : World) (r : Rn) : Prop := ∃ g, r.a = some ⟨g, 0, none⟩ ∧ Rw w g r.us ∧ B ≤ g ∧ r.len = r.us.length ∧ r.cap = r.us.length
theorem Own.ru {B : Nat} {w : World} {r : Rn} (h : Own B w r) : Ru w r := by
  obtain ⟨g, e, hr, _, e1, e2⟩ := h
  refine ⟨?_, by omega, fun e' => ?_⟩
  · rw [e, e1]; exact hr.is
  · rw [e] at e'; cases e'
/-- Within All: k rounds are copied. -/
structure Fm (w wr : World) (g n : Nat) (us : List Rn) (k : Nat) (xs : List Rn) : Prop where
  len : xs.length = k
  rw : Rz wr g (xs ++ List.replicate (n - k) rn0)
  lo : w.heap.size ≤ g
  own : ∀ r ∈ xs, Own w.heap.size wr r
  at' : ∀ i, i < k → (xs.getD i rn0).o = (us.getD i rn0).o ∧ (xs.getD i rn0).n = (us.getD i rn0).n ∧ (xs.getD i rn0).us = (us.getD i rn0).us
  bel : Below w.heap.size w wr
theorem Fm.step {w wr w1 : World} {g n k : Nat} {us xs : List Rn} (h : Fm w wr g n us k xs) (hk : k < n) (hb : Below wr.heap.size wr w1) (x : Rn) (hx : Own wr.heap.size w1 x) (e : x.o = (us.getD k rn0).o ∧ x.n = (us.getD k rn0).n ∧ x.us = (us.getD k rn0).us) :
    Fm w (((w1.setCell ⟨g, k * 3, none⟩ (.int .i64 x.o)).setCell ⟨g, k * 3 + 1, none⟩ (.int .i64 x.n)).setCell ⟨g, k * 3 + 2, none⟩ (.slice x.a x.len x.cap)) g n us (k + 1) (xs ++ [x]) := by
  have hl := h.len
  have hgl := h.rw.lt
  have h1 := h.rw.next hb
  have hne : ∀ {r : Rn} {B : Nat} {W : World}, Own B W r → W = w1 → ∀ g', r.a = some ⟨g', 0, none⟩ → g' ≠ g := fun ho e g' e' => by
    subst e
    obtain ⟨g'', e2, hr, _⟩ := ho
    rw [e2] at e'
    cases e'
    exact two_types hr h1 (by decide)
  have keep : ∀ {r : Rn} {B B' : Nat}, Own B w1 r → B' ≤ B → Own B' (((w1.setCell ⟨g, k * 3, none⟩ (.int .i64 x.o)).setCell ⟨g, k * 3 + 1, none⟩ (.int .i64 x.n)).setCell ⟨g, k * 3 + 2, none⟩ (.slice x.a x.len x.cap)) r := fun ho hB => by
    have hq := hne ho rfl
    obtain ⟨g', e1, hr, hg', e2, e3⟩ := ho
    have hq := hq g' e1
    exact ⟨g', e1, ((hr.setnew hq _ _).setnew hq _ _).setnew hq _ _, by omega, e2, e3⟩
  refine ⟨by simp [hl], ?_, h.lo, fun r hr => ?_, fun i hi => ?_, ?_⟩
  · have := h1.set3 k (by rw [List.length_append, List.length_replicate]; omega) x
    rw [setR_step xs n k x hl hk] at this
    exact this
  · rcases List.mem_append.1 hr with hr | hr
    · obtain ⟨g', e1, hr, hg', e2, e3⟩ := h.own r hr
      exact keep ⟨g', e1, hr.next hb, hg', e2, e3⟩ (Nat.le_refl _)
    · rw [List.mem_singleton.1 hr]
      exact keep hx h.bel.size
  · by_cases hik : i < k
    · have := h.at' i hik
      simp only [List.getD_eq_getElem?_getD] at this ⊢
      rw [List.getElem?_append_left (by omega)]
      exact this
    · obtain rfl : i = k := by omega
      simp only [List.getD_eq_getElem?_getD] at e ⊢
      rw [List.getElem?_append_right (by omega), hl, Nat.sub_self]
      exact e
  · have := h.lo
    have hb2 := Below.next h.bel hb
    exact ((hb2.setCell (show w.heap.size ≤ g from this) _).setCell (show w.heap.size ≤ g from this) _).setCell (show w.heap.size ≤ g from this) _

def cells67 (c : Int) : Array Value := #[.int .i64 c, .int .i64 0, .int .i64 0, .int .i64 0, .int .i64 0, .int .i64 0, .int .i64 0, .int .i64 0, .int .i64 0, .int .i64 0, .int .i64 0, .int .i64 0, .int .i64 0, .int .i64 0, .int .i64 0, .int .i64 0, .int .i64 0, .int .i64 0, .int .i64 0, .int .i64 0, .int .i64 0, .int .i64 0, .int .i64 0, .int .i64 0, .int .i64 0, .int .i64 0, .int .i64 0, .int .i64 0, .int .i64 0, .int .i64 0, .int .i64 0, .int .i64 0, .int .i64 0, .int .i64 0, .int .i64 0, .int .i64 0, .int .i64 0, .int .i64 0, .int .i64 0, .int .i64 0, .int .i64 0, .int .i64 0, .int .i64 0, .int .i64 0, .int .i64 0, .int .i64 0, .int .i64 0, .int .i64 0, .int .i64 0, .int .i64 0, .int .i64 0, .int .i64 0, .int .i64 0, .int .i64 0, .int .i64 0, .int .i64 0, .int .i64 0, .int .i64 0, .int .i64 0, .int .i64 0, .int .i64 0, .int .i64 0, .int .i64 0, .int .i64 0, .int .i64 0, .int .i64 0, .slice none 0 0]
theorem pc_new (c : Int) : Pc c [] (.slice none 0 0) (cells67 c) := by
  refine ⟨rfl, rfl, rfl, fun i h1 h2 => ?_⟩
  have e : (cells67 c) = (Value.int .i64 c :: (List.replicate 65 (Value.int .i64 0) ++ [Value.slice none 0 0])).toArray := rfl
  rw [e, List.getElem?_toArray, show 1 + i = i + 1 by omega, List.getElem?_cons_succ, List.getElem?_append_left (by simp; omega), List.getElem?_replicate, if_pos (by omega)]
  rfl
theorem cx_new (T : TypeId) (P : Int → List Cr → Value → Array Value → Prop) (B : Nat) (w : World) (c : Int) (cs : Array Value) (hB : B ≤ w.heap.size) (h1 : 1 ≤ c) (h2 : c ≤ 64) (hP : P c [] (.slice none 0 0) cs) : Cx T P B (w.alloc (.cells cs T)) w.heap.size (Jf w.heap.size (.slice none 0 0) fun _ => False) c [] :=
  ⟨cs, _, _, [], ⟨hB, heap_alloc_new _ _, rowR_nil _ _, fun r hr => (by cases hr), fun g hg => hg.elim⟩, hP, rfl, fun us hu => (by cases hu), .nil, h1, h2, rfl⟩
/-- What a log's zero value is: its cells are never written out in a goal. -/
theorem zero67 : ∃ zs : Array Value, (¬ zs = #[]) ∧ (∀ w, (zeroValue 69).run Tryd.prog w = .ok (.agg zs) w) ∧ ∀ c, Pc c [] (.slice none 0 0) (zs.setIfInBounds 0 (.int .i64 c)) := by
  refine ⟨cells67 0, fun e => ?_, fun w => by kernel_rfl, fun c => ?_⟩
  · have h1 : (cells67 0).size = 67 := rfl
    rw [e] at h1
    simp at h1
  · have h2 : (cells67 0).setIfInBounds 0 (.int .i64 c) = cells67 c := rfl
    rw [h2]
    exact pc_new c
set_option maxHeartbeats 1000000 in
theorem cnew_any (c : Int) (B : Nat) (w : World) (hB : B ≤ w.heap.size) :
    Calls Tryd.prog 7 #[.int .i64 c] w fun e w' => e = .returned (.pointer (some ⟨w.heap.size, 0, none⟩)) ∧ Cx 69 Pc B w' w.heap.size (Jf w.heap.size (.slice none 0 0) fun _ => False) (clP c) [] ∧ Below w.heap.size w w' := by
  have hc := clP_in c
  obtain ⟨zs, hne, hz, hp⟩ := zero67
  have HJ := Lib.hid (cx_new 69 Pc B w (clP c) _ hB hc.1 hc.2 (hp (clP c)))
  have HB := Lib.hid (Joins.below_alloc1 w (.cells (zs.setIfInBounds 0 (.int .i64 (clP c))) 69))
  have HL : Hid (min (max c 1) 64 = clP c) := by
    unfold clP
    refine Lib.hid ?_
    split
    · omega
    · split <;> omega
  clear hc hp
  go_enter Tryd.func7, Tryd.ntmps7
  go_wp2
  rw [HL.out]
  go_ret
  exact ⟨rfl, HJ.out, HB.out⟩
set_option maxHeartbeats 1000000 in
theorem dnew_any (c : Int) (B : Nat) (w : World) (hB : B ≤ w.heap.size) :
    Calls Tryd.prog 10 #[.int .i64 c] w fun e w' => e = .returned (.pointer (some ⟨w.heap.size, 0, none⟩)) ∧ Cx 78 Pd B w' w.heap.size (Jf w.heap.size (.slice none 0 0) fun _ => False) (clP c) [] ∧ Below w.heap.size w w' := by
  have hc := clP_in c
  have HJ := Lib.hid (cx_new 78 Pd B w (clP c) #[.int .i64 (clP c), .slice none 0 0] hB hc.1 hc.2 ⟨rfl, rfl, rfl⟩)
  have HB := Lib.hid (Joins.below_alloc1 w (.cells #[.int .i64 (clP c), .slice none 0 0] 78))
  clear hc
  unfold clP at HJ HB ⊢
  by_cases h1 : c < 1
  · simp only [if_pos h1] at HJ HB ⊢
    have q1 : decide (c < 1) = true := decide_eq_true h1
    go_enter Tryd.func10, Tryd.ntmps10
    go_wp2
    go_ret
    exact ⟨rfl, HJ.out, HB.out⟩
  by_cases h2 : 64 < c
  · simp only [if_neg h1, if_pos h2] at HJ HB ⊢
    have q1 : decide (c < 1) = false := decide_eq_false h1
    have q2 : decide (64 < c) = true := decide_eq_true h2
    go_enter Tryd.func10, Tryd.ntmps10
    go_wp2
    go_ret
    exact ⟨rfl, HJ.out, HB.out⟩
  simp only [if_neg h1, if_neg h2] at HJ HB ⊢
  have q1 : decide (c < 1) = false := decide_eq_false h1
  have q2 : decide (64 < c) = false := decide_eq_false h2
  go_enter Tryd.func10, Tryd.ntmps10
  go_wp2
  go_ret
  exact ⟨rfl, HJ.out, HB.out⟩
section
variable {B b : Nat} {F : Nat → Prop} {c : Int} {L : List Cr}
set_option maxHeartbeats 1000000 in
theorem clen_any (w : World) (h : Cx 69 Pc B w b F c L) :
    Calls Tryd.prog 29 #[.pointer (some ⟨b, 0, none⟩)] w fun e w' => e = .returned (.int .i64 (L.length : Int)) ∧ w' = w := by
  obtain ⟨cs, v, S, rs, hj, hp, he, _⟩ := h
  obtain ⟨a, cp, rfl, _⟩ := hj.is
  have c2 := hj.c 66 _ hp.2.2.1
  have hl : rs.length = L.length := by rw [← he, List.length_map]
  rw [hl] at c2
  clear hj hp he hl
  go_enter Tryd.func29, Tryd.ntmps29
  go_wp2
  go_ret
  exact ⟨rfl, rfl⟩
set_option maxHeartbeats 2000000 in
theorem clast_any (o : Int) (w : World) (h : Cx 69 Pc B w b F c L) :
    Calls Tryd.prog 68 #[.pointer (some ⟨b, 0, none⟩), .int .i64 o] w fun e w' => e = .returned (.int .i64 (lastL o L)) ∧ w' = w := by
  obtain ⟨cs, v, S, rs, hj, hp, he, hs, hg, h1, h2, _⟩ := h
  have c0 := hj.c 0 _ hp.2.1
  by_cases o1 : o < 1
  · have q1 : decide (o < 1) = true := decide_eq_true o1
    rw [hg.none o (.inl o1)]
    clear hj hp he hs hg h1 h2 o1 c0
    go_enter Tryd.func68, Tryd.ntmps68
    go_wp2
    go_ret
    exact ⟨rfl, rfl⟩
  by_cases o2 : c < o
  · have q1 : decide (o < 1) = false := decide_eq_false o1
    have q2 : decide (c < o) = true := decide_eq_true o2
    rw [hg.none o (.inr o2)]
    clear hj hp he hs hg h1 h2 o1 o2
    go_enter Tryd.func68, Tryd.ntmps68
    go_wp2
    go_ret
    exact ⟨rfl, rfl⟩
  obtain ⟨on, rfl⟩ : ∃ on : Nat, o = (on : Int) := ⟨o.toNat, by omega⟩
  have hon : on < 65 := by omega
  have c1 := hj.c (1 + on) _ (hp.2.2.2 on (by omega) (by omega))
  have q1 : decide ((on : Int) < 1) = false := decide_eq_false o1
  have q2 : decide (c < (on : Int)) = false := decide_eq_false o2
  obtain ⟨x, hx⟩ : ∃ x, lastL (on : Int) L = x := ⟨_, rfl⟩
  rw [hx] at c1 ⊢
  clear hj hp he hs hg h1 h2 o1 o2 hx
  go_enter Tryd.func68, Tryd.ntmps68
  go_wp2
  go_ret
  exact ⟨rfl, rfl⟩
theorem last_step {k : Nat} (hk : k < L.length) (o : Int) : lastL o (L.take (k + 1)) = if (L.getD k kr0).1 = o then (L.getD k kr0).2.1 else lastL o (L.take k) := by
  rw [take_one hk, lastL_snoc]
set_option maxHeartbeats 2000000 in
theorem dlast_any (o : Int) (hn : L.length ≤ 1000) (w : World) (h : Cx 78 Pd B w b F c L) :
    Calls Tryd.prog 45 #[.pointer (some ⟨b, 0, none⟩), .int .i64 o] w fun e w' => e = .returned (.int .i64 (lastL o L)) ∧ w' = w := by
  obtain ⟨cs, v, S, rs, hj, hp, he, _⟩ := h
  obtain ⟨a, cp, rfl, hx, _⟩ := hj.is
  have c1 := hj.c 1 _ hp.2.2
  obtain ⟨len, hlen⟩ : ∃ len, rs.length = len := ⟨_, rfl⟩
  have hl : L.length = len := by rw [← he, List.length_map, hlen]
  rw [hlen] at c1 hx
  rw [hl] at hn
  have HX := Lib.hid hx
  have HE := Lib.hid he
  have HLN := Lib.hid hl
  clear hj hp he hl hlen hx
  go_enter Tryd.func45, Tryd.ntmps45
  go_wp2_with fail
  go_loopw [5, 6] (fun v5 v6 wr => ∃ k : Nat, k ≤ len ∧ v5 = .int .i64 (lastL o (L.take k)) ∧ v6 = .int .i64 k ∧ wr = w) (fun _ v6 _ => len - (intOf v6).toNat)
  case atStart => exact ⟨0, Nat.zero_le _, rfl, rfl, rfl⟩
  case round =>
    obtain ⟨k, hk, rfl, rfl, rfl⟩ := hrel
    by_cases hlt : k < len
    · obtain ⟨g, off, rfl, d0, d1, d2, _⟩ := rcells_of HX.out (Below.refl _ _) hlt
      have hst := last_step (L := L) (k := k) (by rw [HLN.out]; exact hlt) o
      rw [← HE.out, map_getD, HE.out] at hst
      generalize rs.getD k rn0 = r at *
      obtain ⟨ro, rn, ra, rl, rc, rus⟩ := r
      simp only [kR] at d0 d1 d2 hst
      have q0 : decide ((k : Int) < (len : Int)) = true := decide_eq_true (by omega)
      by_cases ho : ro = o
      · have q1 : (ro == o) = true := by rw [beq_iff_eq]; exact ho
        have HST := Lib.hid (hst.trans (if_pos ho))
        clear hst ho
        go_wp2_with fail
        go_roundw
        case rel => exact ⟨k + 1, by omega, by rw [HST.out], by go_num, trivial⟩
        case measure => simp [intOf]; omega
      · have q1 : (ro == o) = false := by rw [beq_eq_false_iff_ne]; exact ho
        have HST := Lib.hid (hst.trans (if_neg ho))
        clear hst ho
        go_wp2_with fail
        go_roundw
        case rel => exact ⟨k + 1, by omega, by rw [HST.out], by go_num, trivial⟩
        case measure => simp [intOf]; omega
    · obtain rfl : k = len := by omega
      have e : L.take k = L := List.take_of_length_le (by have := HLN.out; omega)
      rw [e]
      have q0 : decide ((k : Int) < (k : Int)) = false := decide_eq_false (by omega)
      go_wp2
      go_ret
      exact ⟨rfl, rfl⟩
/-- A log's round. -/
theorem Kn.at' {T : TypeId} {cs : Array Value} {w w1 : World} {a : Option Addr} {cp : Nat} {S : Nat → Prop} {rs : List Rn} (hj : Kn T B w b cs (.slice a rs.length cp) S rs) {i : Nat} (hi : i < rs.length) (hb : Below w.heap.size w w1) :
    ∃ g off, a = some ⟨g, off, none⟩ ∧ w1.cell? ⟨g, off + i * 3, none⟩ = some (.int .i64 (rs.getD i rn0).o) ∧ w1.cell? ⟨g, off + i * 3 + 1, none⟩ = some (.int .i64 (rs.getD i rn0).n) ∧ w1.cell? ⟨g, off + i * 3 + 2, none⟩ = some (.slice (rs.getD i rn0).a (rs.getD i rn0).len (rs.getD i rn0).cap) ∧ Ru w (rs.getD i rn0) := by
  obtain ⟨a', c', e, hx, _⟩ := hj.is
  cases e
  exact rcells_of hx hb hi
theorem smAt {rs : List Rn} (he : rs.map kR = L) (hs : ∀ r ∈ L, Sm r.2.2) {i : Nat} (hi : i < rs.length) : Sm (rs.getD i rn0).us := by
  have := hs (kR (rs.getD i rn0)) (by rw [← he]; exact List.mem_map.2 ⟨_, rn_mem hi, rfl⟩)
  exact this
set_option maxHeartbeats 2000000 in
theorem cat_out (i : Int) (hi : i < 0 ∨ (L.length : Int) ≤ i) (w : World) (h : Cx 69 Pc B w b F c L) :
    Calls Tryd.prog 61 #[.pointer (some ⟨b, 0, none⟩), .int .i64 i] w fun e w' => e = .returned (.tuple #[rv rn0, .bool false]) ∧ Below w.heap.size w w' := by
  obtain ⟨cs, v, S, rs, hj, hp, he, _⟩ := h
  obtain ⟨a, cp, rfl, _⟩ := hj.is
  have hl : rs.length = L.length := by rw [← he, List.length_map]
  have HB := Lib.hid (Joins.below_alloc1 w (.cells #[.int .i64 0, .int .i64 0, .slice none 0 0] 43))
  have hj2 := hj.next (Joins.below_alloc1 w (.cells #[.int .i64 0, .int .i64 0, .slice none 0 0] 43))
  have c2 := hj2.c 66 _ hp.2.2.1
  rw [hl] at c2
  have hr := Rb.new w 0 0 none 0 0
  have r0 := hr.f0 0
  have r1 := hr.f0 1
  have r2 := hr.f0 2
  clear hj hj2 hp he hl hr
  by_cases h1 : i < 0
  · have q1 : decide (i < 0) = true := decide_eq_true h1
    clear hi h1
    go_enter Tryd.func61, Tryd.ntmps61
    go_wp2
    refine bodyPost_ret (v := .tuple #[.agg #[.int .i64 0, .int .i64 0, .slice none 0 0], .bool false]) (by simp [results, Tryd.results61, go_sem]) rfl ⟨rfl, HB.out⟩
  · have q1 : decide (i < 0) = false := decide_eq_false h1
    have q2 : decide ((L.length : Int) ≤ i) = true := decide_eq_true (by omega)
    clear hi h1
    go_enter Tryd.func61, Tryd.ntmps61
    go_wp2
    refine bodyPost_ret (v := .tuple #[.agg #[.int .i64 0, .int .i64 0, .slice none 0 0], .bool false]) (by simp [results, Tryd.results61, go_sem]) rfl ⟨rfl, HB.out⟩
set_option maxHeartbeats 4000000 in
theorem cat_in (i : Nat) (hi : i < L.length) (w : World) (h : Cx 69 Pc B w b F c L) :
    Calls Tryd.prog 61 #[.pointer (some ⟨b, 0, none⟩), .int .i64 (i : Int)] w fun e w' => ∃ r, e = .returned (.tuple #[rv r, .bool true]) ∧ Own w.heap.size w' r ∧ kR r = L.getD i kr0 ∧ Below w.heap.size w w' := by
  obtain ⟨cs, v, S, rs, hj, hp, he, hs, _⟩ := h
  obtain ⟨a, cp, rfl, _⟩ := hj.is
  have hl : rs.length = L.length := by rw [← he, List.length_map]
  have hA := Joins.below_alloc1 w (.cells #[.int .i64 0, .int .i64 0, .slice none 0 0] 43)
  have HB := Lib.hid hA
  have c2 := (hj.next hA).c 66 _ hp.2.2.1
  obtain ⟨g, off, rfl, d0, d1, d2, hru⟩ := hj.at' (show i < rs.length by omega) hA
  have hsm := smAt he hs (show i < rs.length by omega)
  rw [← he, map_getD]
  have hrl := hru.1.size
  have q1 : decide ((i : Int) < 0) = false := decide_eq_false (by omega)
  have q2 : decide ((rs.length : Int) ≤ (i : Int)) = false := decide_eq_false (by omega)
  have hru2 := hru.below hA
  clear hj hp he hs
  generalize rs.getD i rn0 = r at *
  obtain ⟨ro, rn, ra, rl, rc, rus⟩ := r
  simp only [kR] at hrl d0 d1 d2 hsm ⊢
  have HC := fun w hu => Lib.hid (rndcopy_any ro rn ra rl rc rus (by have := hsm.1; omega) (fun j hj => hsm.2 j (by omega)) w hu)
  have HU := Lib.hid hru2.1
  have HR := Lib.hid (Rb.new w 0 0 none 0 0)
  have il : i < rs.length := by omega
  have HSZ : Hid ((w.alloc (.cells #[.int .i64 0, .int .i64 0, .slice none 0 0] 43)).heap.size = w.heap.size + 1) := Lib.hid (by simp)
  have HRL := Lib.hid hrl
  clear hru hru2 hsm hA hl hi hrl
  go_enter Tryd.func61, Tryd.ntmps61
  go_wp2_with fail
  refine (HC _ HU.out).out.mono ?_
  rintro e w1 ⟨rfl, hrw, hb⟩
  rw [HSZ.out] at hrw
  have hr1 := HR.out.next hb
  have f0 := hr1.f0 0
  have f1 := hr1.f0 1
  have f2 := hr1.f0 2
  have g0 := hr1.c0
  have g1 := hr1.c1
  have g2 := hr1.c2
  have HB1 := Lib.hid (Below.next HB.out hb)
  have HRW := Lib.hid hrw
  have HR1 := Lib.hid hr1
  clear hb hrw hr1 HR HC c2 d0 d1 d2
  go_wp2
  have h0 := ((HR1.out.set0 ro).set1 rn).set2 (some ⟨w.heap.size + 1 + 2, 0, none⟩) rl rl
  have k0 := h0.c0
  have k1 := h0.c1
  have k2 := h0.c2
  refine bodyPost_ret (v := .tuple #[.agg #[.int .i64 ro, .int .i64 rn, .slice (some ⟨w.heap.size + 1 + 2, 0, none⟩) rl rl], .bool true]) (by simp [results, Tryd.results61, go_sem, k0, k1, k2]) rfl ⟨⟨ro, rn, some ⟨w.heap.size + 1 + 2, 0, none⟩, rl, rl, rus⟩, rfl, ⟨_, rfl, HRW.out.set3 (show w.heap.size + 1 + 2 ≠ w.heap.size by omega) (.int .i64 ro) (.int .i64 rn) (.slice (some ⟨w.heap.size + 1 + 2, 0, none⟩) rl rl), by omega, HRL.out.symm, HRL.out.symm⟩, rfl, below_set3 HB1.out (Nat.le_refl _) _ _ _⟩
set_option maxHeartbeats 8000000 in
theorem call_any (hn : L.length ≤ 1000) (w : World) (h : Cx 69 Pc B w b F c L) :
    Calls Tryd.prog 27 #[.pointer (some ⟨b, 0, none⟩)] w fun e w' => ∃ g xs, e = .returned (.slice (some ⟨g, 0, none⟩) L.length L.length) ∧ Rz w' g xs ∧ w.heap.size ≤ g ∧ (∀ r ∈ xs, Own w.heap.size w' r) ∧ xs.map kR = L ∧ Below w.heap.size w w' := by
  obtain ⟨cs, v, S, rs, hj, hp, he, hs, _⟩ := h
  have hsm : ∀ i, i < rs.length → Sm (rs.getD i rn0).us := fun i hi => smAt he hs hi
  obtain ⟨ax, cp, rfl, hx, hc, hna⟩ := hj.is
  obtain ⟨M, hM⟩ : ∃ M : Nat, rs.length = M := ⟨_, rfl⟩
  have hl : L.length = M := by rw [← he, List.length_map, hM]
  rw [hl] at hn ⊢
  rw [hM] at hj hx hc hp hsm
  have HX := Lib.hid hsm
  have HE := Lib.hid he
  have HJ : Hid (∀ W, Below w.heap.size w W → W.cell? ⟨b, 66, none⟩ = some (.slice ax M cp)) := Lib.hid fun W hW => (hj.next hW).c 66 _ hp.2.2.1
  have c2 := HJ.out w (Below.refl _ _)
  have HI := Lib.hid hx
  have HM := Lib.hid hM
  clear hj hp he hs hx hc hna hl hsm hM
  obtain ⟨i0, hi, hz0, hz1, hz2⟩ := info_parts infoRz
  go_enter Tryd.func27, Tryd.ntmps27
  go_wp2_with (at_make; refine wpList_make_full _ rfl _ _ 57 rfl w.heap.size 43 i0 _ 3 Tryd.underlying57 hi hz0 hz1 .i64 .i64 (M : Int) (M : Int) M rfl rfl rfl rfl (by rw [hz2]; omega) (by unfold maxLen; omega) (by simp) ?_)
  intro w1 hown hgr
  have HP : Hid (Fm w w1 w.heap.size M rs 0 []) := Lib.hid ⟨rfl, by rw [Nat.sub_zero]; exact Rz.made hown, Nat.le_refl _, fun r hr => (by cases hr), fun i hi => absurd hi (Nat.not_lt_zero _), ⟨hgr.os, hgr.tape, hgr.output, hgr.size, fun k hk => hgr.block k hk (by simp)⟩⟩
  have c2 := HJ.out w1 HP.out.bel
  clear hown hgr hi hz0 hz1 hz2
  go_wp2_with fail
  clear c2
  go_loopw [17] (fun v17 wr => ∃ k : Nat, k ≤ M ∧ v17 = .int .i64 k ∧ ∃ xs, Fm w wr w.heap.size M rs k xs) (fun v17 _ => M - (intOf v17).toNat)
  case atStart => exact ⟨0, Nat.zero_le _, rfl, [], HP.out⟩
  case round =>
    obtain ⟨k, hk, rfl, xs, hp⟩ := hrel
    clear HP
    by_cases hlt : k < M
    · obtain ⟨gb, off, rfl, d0, d1, d2, hru⟩ := rcells_of HI.out hp.bel hlt
      have hsm := HX.out k hlt
      have HP := Lib.hid hp
      generalize hr : rs.getD k rn0 = r at *
      obtain ⟨ro, rn, ra, rl, rc, rus⟩ := r
      have HR := Lib.hid hr
      have hrl := hru.1.size
      simp only at d0 d1 d2 hsm hrl
      have HC := fun w hu => Lib.hid (rndcopy_any ro rn ra rl rc rus (by have := hsm.1; omega) (fun j hj => hsm.2 j (by omega)) w hu)
      have HU := Lib.hid (isUs_below hru.1 (Below.step hp.bel (.cells #[.int .i64 ro, .int .i64 rn, .slice ra rl rc] 43) (Below.refl _ _)))
      have HRL := Lib.hid hrl
      clear hp hru hsm hr hrl
      go_wp2_with fail
      refine (HC _ HU.out).out.mono ?_
      rintro e w3 ⟨rfl, hrw, hb⟩
      have hsz1 : (wr.alloc (.cells #[.int .i64 ro, .int .i64 rn, .slice ra rl rc] 43)).heap.size = wr.heap.size + 1 := by simp
      rw [hsz1] at hrw
      have hb2 : Below wr.heap.size wr w3 := Below.step (Below.refl _ _) _ hb
      have h3 := HP.out.rw.next hb2
      have hkl : k < (xs ++ List.replicate (M - k) rn0).length := by rw [List.length_append, List.length_replicate, HP.out.len]; omega
      obtain ⟨x0, x1, x2⟩ := h3.row k hkl
      have f0 := h3.f0 (k * 3)
      have f1 := h3.f0 (k * 3 + 1)
      have f2 := h3.f0 (k * 3 + 2)
      have HN := Lib.hid (HP.out.step hlt hb2 ⟨ro, rn, some ⟨wr.heap.size + 1 + 2, 0, none⟩, rl, rl, rus⟩ ⟨_, rfl, hrw, by omega, HRL.out.symm, HRL.out.symm⟩ (by rw [HR.out]; exact ⟨rfl, rfl, rfl⟩))
      clear hrw hb hb2 h3 hkl HC HU d0 d1 d2 HP
      go_wp2
      go_roundw
      case rel => exact ⟨k + 1, by omega, by go_num, _, HN.out⟩
      case measure => simp [intOf]; omega
    · obtain rfl : k = M := by omega
      have hr := hp.rw
      rw [Nat.sub_self, List.replicate_zero, List.append_nil] at hr
      have HRZ := Lib.hid hr
      have HP := Lib.hid hp
      clear hp hr
      go_wp2
      go_ret
      refine ⟨_, xs, rfl, HRZ.out, HP.out.lo, HP.out.own, ?_, HP.out.bel⟩
      rw [← HE.out]
      apply List.ext_getElem?
      intro i
      have hl1 := HP.out.len
      have hl2 := HM.out
      by_cases hi : i < k
      · obtain ⟨e1, e2, e3⟩ := HP.out.at' i hi
        have a1 : (xs.map kR)[i]? = some (kR (xs.getD i rn0)) := by rw [List.getElem?_map, List.getD_eq_getElem?_getD, List.getElem?_eq_getElem (show i < xs.length by omega)]; rfl
        have a2 : (rs.map kR)[i]? = some (kR (rs.getD i rn0)) := by rw [List.getElem?_map, List.getD_eq_getElem?_getD, List.getElem?_eq_getElem (show i < rs.length by omega)]; rfl
        rw [a1, a2]
        unfold kR
        rw [e1, e2, e3]
      · rw [List.getElem?_eq_none (by rw [List.length_map]; omega), List.getElem?_eq_none (by rw [List.length_map]; omega)]
end
end Go.Proofs.YtjmkdgjdemndaaaDoor
