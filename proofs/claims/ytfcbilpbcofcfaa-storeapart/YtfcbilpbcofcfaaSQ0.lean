/- Two rows of updates that grow beside two stores. -/
import Derived.Test.YtfcbilpbcofcfaaSC
namespace Go.Proofs.Ytfcbilpbcofcfaa
open Go Go.RowKit Go.Maps Go.Sort
/-- The cells of updates, one behind the other. -/
def cellsU4 (u : Up) : List Value := [.string u.1, .int .i64 u.2.1, .int .i64 u.2.2.1, .string u.2.2.2]
def flU (us : List Up) : List Value := us.flatMap cellsU4
theorem flU_snoc (us : List Up) (u : Up) : flU (us ++ [u]) = flU us ++ cellsU4 u := by simp [flU]
theorem flU_get : ∀ (us : List Up) (i r : Nat), i < us.length → r < 4 → (flU us)[i * 4 + r]? = (cellsU4 (us.getD i up0))[r]?
  | [], i, r, h, _ => absurd h (by simp)
  | u :: us, 0, r, _, hr => by
    have e : flU (u :: us) = cellsU4 u ++ flU us := rfl
    rw [e, Nat.zero_mul, Nat.zero_add, List.getElem?_append_left (by show r < 4; exact hr)]
    rfl
  | u :: us, i + 1, r, h, hr => by
    have e : flU (u :: us) = cellsU4 u ++ flU us := rfl
    have hl : (cellsU4 u).length = 4 := rfl
    rw [e, List.getElem?_append_right (by rw [hl]; omega), hl, show (i + 1) * 4 + r - 4 = i * 4 + r by omega, flU_get us i r (by simpa using h) hr]
    rfl
theorem infoU : ∃ i z, Try.prog.info? 28 = some i ∧ i.zero = some z ∧ i.size = 4 ∧ i.bytes = 48 ∧ z.cells.size = 4 := by
  have h1 : (Try.prog.info? 28).map (fun i => (i.size, i.bytes)) = some (4, 48) := by kernel_rfl
  have h2 : ((Try.prog.info? 28).bind (·.zero)).map (fun z => z.cells.size) = some 4 := by kernel_rfl
  cases h : Try.prog.info? 28 with
  | none => rw [h] at h1; cases h1
  | some i =>
    rw [h] at h1 h2
    simp at h1 h2
    obtain ⟨z, hz, hs⟩ := h2
    exact ⟨i, z, rfl, hz, h1.1, h1.2, hs⟩
/-- A row of updates of the call's own. -/
def RowU (B : Nat) (w : World) (v : Value) (l : List Up) : Prop := w.ownsRow B 28 4 v l.length (flU l)
theorem RowU.is {B w v l} (h : RowU B w v l) : ∃ a c, v = .slice a l.length c ∧ IsUs w a l.length l := by
  rcases h.2 with ⟨rfl, h0⟩ | ⟨g, cap, cur, rfl, _⟩
  · rw [h0]; exact ⟨none, 0, rfl, h0, fun hx => absurd hx (Nat.lt_irrefl _)⟩
  · refine ⟨some ⟨g, 0, none⟩, cap, rfl, rfl, fun _ => ⟨g, 0, rfl, four fun i hi => ?_⟩⟩
    have hc : ∀ r, r < 4 → w.cell? ⟨g, 0 + i * 4 + r, none⟩ = (cellsU4 (l.getD i up0))[r]? := fun r hr => by
      rw [Nat.zero_add, World.ownsRow.cellAt h (i * 4 + r) (by omega), flU_get l i r hi hr]
    exact ⟨hc 0 (by omega), hc 1 (by omega), hc 2 (by omega), hc 3 (by omega)⟩
theorem RowU.ne {B w v l b m n f} (h : RowU B w v l) (k : St w b m n f) : some b ≠ v.ownBlock ∧ some m ≠ v.ownBlock := by
  rcases h.2 with ⟨rfl, _⟩ | ⟨g, cap, cur, rfl, _, hc, _⟩
  · exact ⟨by simp [Value.ownBlock], by simp [Value.ownBlock]⟩
  · obtain ⟨hb, D, ⟨es, clock, hm, _⟩, _⟩ := k
    refine ⟨fun e => ?_, fun e => ?_⟩
    · simp only [Value.ownBlock, Option.some.injEq] at e
      subst e; rw [hb] at hc; injection hc with hc; injection hc with _ hc2 _; exact absurd hc2 (by decide)
    · simp only [Value.ownBlock, Option.some.injEq] at e
      subst e; rw [hm] at hc; cases hc
theorem RowU.kept {B w w1 v l} (h : RowU B w v l) {row : Option Nat} (hg : w.grownBy w1 row) (hne : v.ownBlock = none ∨ v.ownBlock ≠ row) : RowU B w1 v l := World.ownsRow.kept h hg hne
theorem RowU.below {B w w1 v l} (h : RowU B w v l) (hb : Below w.heap.size w w1) : RowU B w1 v l := h.kept (grown_of none hb) (Classical.em _)
theorem Tw.grown {B w wr w1 b m n f b' m' n' f'} (h : Tw B w wr b m n f b' m' n' f') {row : Option Nat} (hg : wr.grownBy w1 row) (h1 : some b ≠ row) (h2 : some m ≠ row) (h3 : some b' ≠ row) (h4 : some m' ≠ row) (h5 : ∀ k, row = some k → B ≤ k) : Tw B w w1 b m n f b' m' n' f' :=
  ⟨h.one.kept hg h1 h2, h.two.kept hg h3 h4, h.ne, h.lo, h.lo', h.bel.grown hg (by have := h.one.ltm; have := h.lo; omega) h5⟩
/-- Two stores, two rows, all apart. -/
structure Ap (B : Nat) (w wr : World) (b m n : Nat) (f : Fn) (b' m' n' : Nat) (f' : Fn) (v7 : Value) (l7 : List Up) (v8 : Value) (l8 : List Up) : Prop where
  tw : Tw B w wr b m n f b' m' n' f'
  r7 : RowU B wr v7 l7
  r8 : RowU B wr v8 l8
  ap : v7.ownBlock = none ∨ v7.ownBlock ≠ v8.ownBlock
variable {B : Nat} {w wr : World} {b m n : Nat} {f : Fn} {b' m' n' : Nat} {f' : Fn} {v7 v8 : Value} {l7 l8 : List Up}
theorem Ap.below (h : Ap B w wr b m n f b' m' n' f' v7 l7 v8 l8) {w1 : World} (hb : Below wr.heap.size wr w1) : Ap B w w1 b m n f b' m' n' f' v7 l7 v8 l8 := ⟨h.tw.below hb, h.r7.below hb, h.r8.below hb, h.ap⟩
theorem Ap.alloc (h : Ap B w wr b m n f b' m' n' f' v7 l7 v8 l8) (o : Obj) : Ap B w (wr.alloc o) b m n f b' m' n' f' v7 l7 v8 l8 := h.below (Joins.below_alloc1 _ _)
theorem Ap.first (h : Ap B w wr b m n f b' m' n' f' v7 l7 v8 l8) {w1 : World} {n1 : Nat} {f1 : Fn} (hs : St w1 b m n1 f1) (hg : wr.grownBy w1 (some m)) : Ap B w w1 b m n1 f1 b' m' n' f' v7 l7 v8 l8 :=
  ⟨h.tw.first hs hg, h.r7.kept hg (.inr (h.r7.ne h.tw.one).2.symm), h.r8.kept hg (.inr (h.r8.ne h.tw.one).2.symm), h.ap⟩
theorem own_lt {v : Value} {l : List Up} (h : RowU B wr v l) : ∀ k, v.ownBlock = some k → B ≤ k ∧ k < wr.heap.size := World.ownsRow.lt h
theorem Ap.app7 (h : Ap B w wr b m n f b' m' n' f' v7 l7 v8 l8) {o : Obj} {u : Up} {w1 : World} {v' : Value} (hw : w1.ownsRow B 28 4 v' (l7.length + 1) (flU l7 ++ cellsU4 u)) (hg : (wr.alloc o).grownBy w1 v7.ownBlock) (hl : v'.ownBlock = v7.ownBlock ∨ v'.ownBlock = some (wr.alloc o).heap.size) :
    Ap B w w1 b m n f b' m' n' f' v' (l7 ++ [u]) v8 l8 := by
  have ha := h.alloc o
  refine ⟨ha.tw.grown hg (ha.r7.ne ha.tw.one).1 (ha.r7.ne ha.tw.one).2 (ha.r7.ne ha.tw.two).1 (ha.r7.ne ha.tw.two).2 (fun k hk => (own_lt h.r7 k hk).1), ?_, ha.r8.kept hg ?_, ?_⟩
  · unfold RowU
    rw [flU_snoc, List.length_append]
    exact hw
  · rcases h.ap with h0 | h0
    · rw [h0]; exact Classical.em _
    · exact .inr h0.symm
  · rcases hl with hl | hl
    · rw [hl]; exact h.ap
    · refine .inr fun e => ?_
      rw [hl] at e
      have := (own_lt h.r8 _ e.symm).2
      simp at this
      omega
theorem Ap.app8 (h : Ap B w wr b m n f b' m' n' f' v7 l7 v8 l8) {o : Obj} {u : Up} {w1 : World} {v' : Value} (hw : w1.ownsRow B 28 4 v' (l8.length + 1) (flU l8 ++ cellsU4 u)) (hg : (wr.alloc o).grownBy w1 v8.ownBlock) (hl : v'.ownBlock = v8.ownBlock ∨ v'.ownBlock = some (wr.alloc o).heap.size) :
    Ap B w w1 b m n f b' m' n' f' v7 l7 v' (l8 ++ [u]) := by
  have ha := h.alloc o
  refine ⟨ha.tw.grown hg (ha.r8.ne ha.tw.one).1 (ha.r8.ne ha.tw.one).2 (ha.r8.ne ha.tw.two).1 (ha.r8.ne ha.tw.two).2 (fun k hk => (own_lt h.r8 k hk).1), ha.r7.kept hg h.ap, ?_, ?_⟩
  · unfold RowU
    rw [flU_snoc, List.length_append]
    exact hw
  · rcases hl with hl | hl
    · rw [hl]; exact h.ap
    · rw [hl]
      cases e : v7.ownBlock with
      | none => exact .inl rfl
      | some k =>
        refine .inr fun e2 => ?_
        injection e2 with e2
        have := (own_lt h.r7 k e).2
        simp at e2
        omega
theorem rowU_nil (B : Nat) (w : World) : RowU B w (.slice none 0 0) [] := World.ownsRow_nil w B _ 4
theorem news_cells (w : World) (u : Up) : ∀ j x, (cellsU4 u)[j]? = some x → (w.alloc (.cells #[.string u.1, .int .i64 u.2.1, .int .i64 u.2.2.1, .string u.2.2.2] 28)).cell? ((⟨w.heap.size, 0, none⟩ : Addr).add j) = some x := by
  intro j x hj
  have e : (⟨w.heap.size, 0, none⟩ : Addr).add j = ⟨w.heap.size, j, none⟩ := by simp [Addr.add_lit]
  rw [e]
  refine cell_at (new_at rfl) j x ?_
  rw [← hj]
  simp [cellsU4]
theorem news_one (u : Up) : ∀ x ∈ cellsU4 u, x.oneCell' = true := by
  intro x hx
  simp only [cellsU4, List.mem_cons, List.not_mem_nil, or_false] at hx
  rcases hx with rfl | rfl | rfl | rfl <;> rfl
theorem isUs_first {w w1 : World} {a : Option Addr} {len : Nat} {us : List Up} {b m n : Nat} {f : Fn} (h : IsUs w a len us) (k : St w b m n f) (hg : w.grownBy w1 (some m)) : IsUs w1 a len us := by
  refine ⟨h.size, fun h0 => ?_⟩
  obtain ⟨g, off, e, hf⟩ := h.lies h0
  have hs := h.size
  have hne : g ≠ m := by
    intro e
    obtain ⟨_, D, ⟨es, clock, hm, _⟩, _⟩ := k
    have := hf.key 0 (by omega)
    subst e
    simp [World.cell?, hm] at this
  have hh : ∀ i, w1.cell? ⟨g, i, none⟩ = w.cell? ⟨g, i, none⟩ := fun i => World.cell?_of_block (hg.block g (hf.lt (by omega)) (fun e => hne (by injection e)))
  exact ⟨g, off, e, four fun i hi => ⟨(hh _).trans (hf.key i hi), (hh _).trans (hf.k i hi), (hh _).trans (hf.n i hi), (hh _).trans (hf.t i hi)⟩⟩
theorem own_step (key : ByteArray) (us : List Up) (k : Nat) (h : k < us.length) (e : (us.getD k up0).1 = key) : ownL key (us.take (k + 1)) = ownL key (us.take k) ++ [us.getD k up0] ∧ othL key (us.take (k + 1)) = othL key (us.take k) := by
  have e1 : us.take (k + 1) = us.take k ++ [us.getD k up0] := by
    rw [List.take_add_one]; simp [List.getD_eq_getElem?_getD, h]
  rw [e1]
  unfold ownL othL
  rw [List.filter_append, List.filter_append]
  refine ⟨?_, ?_⟩
  · rw [List.filter_cons_of_pos (by simpa using e)]; rfl
  · rw [List.filter_cons_of_neg (by simpa using e)]; simp
theorem oth_step (key : ByteArray) (us : List Up) (k : Nat) (h : k < us.length) (e : ¬ (us.getD k up0).1 = key) : ownL key (us.take (k + 1)) = ownL key (us.take k) ∧ othL key (us.take (k + 1)) = othL key (us.take k) ++ [us.getD k up0] := by
  have e1 : us.take (k + 1) = us.take k ++ [us.getD k up0] := by
    rw [List.take_add_one]; simp [List.getD_eq_getElem?_getD, h]
  rw [e1]
  unfold ownL othL
  rw [List.filter_append, List.filter_append]
  refine ⟨?_, ?_⟩
  · rw [List.filter_cons_of_neg (by simpa using e)]; simp
  · rw [List.filter_cons_of_pos (by simpa using e)]; rfl
theorem own_len (key : ByteArray) (us : List Up) : (ownL key us).length ≤ us.length := List.length_filter_le _ _
theorem oth_len (key : ByteArray) (us : List Up) : (othL key us).length ≤ us.length := List.length_filter_le _ _
theorem app_take (us vs : List Up) (k : Nat) (h : k < vs.length) : stF (us ++ vs.take (k + 1)) = doF (stF (us ++ vs.take k)) (vs.getD k up0) := by
  rw [← stF_snoc, List.append_assoc]
  congr 2
  rw [List.take_add_one]; simp [List.getD_eq_getElem?_getD, h]
end Go.Proofs.Ytfcbilpbcofcfaa
