/- How it stands within the document's Get. -/
import Derived.Test.YtcknklodnfabpaaDoorXQ2
import Derived.RegionTactic
import Derived.BigRegion
namespace Go.Proofs.YtcknklodnfabpaaDoor
open Go Go.RowKit
/-- The three bounds; the place and the error behind so many of the three numbers; what the list holds then. -/
def hbd : Nat → Int
  | 0 => 64
  | 1 => 1099511627776
  | _ => 8
def hst (s : ByteArray) : Nat → Nat × Int
  | 0 => (0, 0)
  | k + 1 => (rawA s (hst s k).1 (hst s k).2, hdE s (hst s k).1 (hst s k).2 (hbd k))
def hvl (s : ByteArray) (k i : Nat) : Int := if i < k then numV s (hst s i).1 (hst s i).2 (hbd i) else hbd i
theorem hst_le (s : ByteArray) : ∀ k, (hst s k).1 ≤ s.size
  | 0 => Nat.zero_le _
  | k + 1 => rawA_le _ _ _ (hst_le s k)
theorem hvl_now (s : ByteArray) (k : Nat) : hvl s k k = hbd k := if_neg (Nat.lt_irrefl _)
theorem hbd_bd (k : Nat) : 8 ≤ hbd k ∧ hbd k ≤ 1099511627776 := by unfold hbd; split <;> omega
theorem geE_hst (s : ByteArray) (k : Nat) (hk : k ≤ 3) (h : (hst s k).2 ≠ 0) : geE s = (hst s k).2 := by
  match k, hk, h with
  | 0, _, h => exact absurd rfl h
  | 1, _, h => exact geE_1 s h
  | 2, _, h => exact geE_2 s h
  | 3, _, h => exact geE_3 s h
/-- A list of three numbers lies in block b. -/
def Hd3 (w : World) (b : Nat) (x : Nat → Int) : Prop := w.heap[b]? = some (.cells #[.int .i64 (x 0), .int .i64 (x 1), .int .i64 (x 2)] 3 (0, 0))
section
variable {w w' : World} {b : Nat} {x : Nat → Int}
theorem Hd3.lt (h : Hd3 w b x) : b < w.heap.size := (Array.getElem?_eq_some_iff.1 h).1
theorem Hd3.c (h : Hd3 w b x) (i : Nat) (hi : i < 3) : w.cell? ⟨b, i, none⟩ = some (.int .i64 (x i)) := by
  unfold Hd3 at h
  match i, hi with
  | 0, _ => simp [World.cell?, h]
  | 1, _ => simp [World.cell?, h]
  | 2, _ => simp [World.cell?, h]
theorem Hd3.f0 (h : Hd3 w b x) (i : Nat) : w.frozen? ⟨b, i, none⟩ = false := by unfold Hd3 at h; simp [World.frozen?, h]
theorem Hd3.kept {row : Option Nat} (h : Hd3 w b x) (hg : w.grownBy w' row) (hne : some b ≠ row) : Hd3 w' b x := (hg.block b h.lt hne).trans h
theorem Hd3.setnew (h : Hd3 w b x) {k : Nat} (hk : b ≠ k) (i : Nat) (v : Value) : Hd3 (w.setCell ⟨k, i, none⟩ v) b x := (Below.heap_setCell _ _ _ _ hk).trans h
theorem Hd3.set (h : Hd3 w b x) (i : Nat) (hi : i < 3) (v : Int) (y : Nat → Int) (hy : ∀ j, j < 3 → y j = if j = i then v else x j) : Hd3 (w.setCell ⟨b, i, none⟩ (.int .i64 v)) b y := by
  have y0 := hy 0 (by omega)
  have y1 := hy 1 (by omega)
  have y2 := hy 2 (by omega)
  unfold Hd3 at *
  rw [y0, y1, y2]
  match i, hi with
  | 0, _ => simp [World.setCell, Array.getElem?_modify, h]
  | 1, _ => simp [World.setCell, Array.getElem?_modify, h]
  | 2, _ => simp [World.setCell, Array.getElem?_modify, h]
end
/-- Within Get: the result, none, the reader, the list of three. -/
structure DG (w wr : World) (x : Nat → Int) (s : ByteArray) (A : Nat) (E : Int) : Prop where
  res : Rb wr w.heap.size 0 0 none 0 0
  non : Rb wr (w.heap.size + 1) 0 0 none 0 0
  rm : Rm wr (w.heap.size + 2) s A E
  hd : Hd3 wr (w.heap.size + 3) x
  bel : Below w.heap.size w wr
section
variable {w wr w' : World} {x y : Nat → Int} {s : ByteArray} {A A' : Nat} {E E' : Int}
theorem DG.read (h : DG w wr x s A E) (hr : Rm w' (w.heap.size + 2) s A' E') (hg : wr.grownBy w' (some (w.heap.size + 2))) : DG w w' x s A' E' :=
  ⟨h.res.kept hg (by simp), h.non.kept hg (by simp), hr, h.hd.kept hg (by simp), h.bel.grown hg h.bel.size (fun k e => by simp at e; omega)⟩
theorem DG.setE (h : DG w wr x s A E) (e : Int) : DG w (wr.setCell ⟨w.heap.size + 2, 2, none⟩ (.int .i64 e)) x s A e :=
  ⟨h.res.setnew (by omega) _ _, h.non.setnew (by omega) _ _, h.rm.set2 e, h.hd.setnew (by omega) _ _, h.bel.setCell (by show w.heap.size ≤ w.heap.size + 2; omega) _⟩
theorem DG.setX (h : DG w wr x s A E) (i : Nat) (hi : i < 3) (v : Int) (hy : ∀ j, j < 3 → y j = if j = i then v else x j) : DG w (wr.setCell ⟨w.heap.size + 3, i, none⟩ (.int .i64 v)) y s A E :=
  ⟨h.res.setnew (by omega) _ _, h.non.setnew (by omega) _ _, (Below.heap_setCell _ _ _ _ (show w.heap.size + 2 ≠ w.heap.size + 3 by omega)).trans h.rm, h.hd.set i hi v y hy, h.bel.setCell (by show w.heap.size ≤ w.heap.size + 3; omega) _⟩
theorem DG.next (h : DG w wr x s A E) (hb : Below wr.heap.size wr w') : DG w w' x s A E :=
  ⟨h.res.next hb, h.non.next hb, (hb.block _ h.rm.lt).trans h.rm, (hb.block _ h.hd.lt).trans h.hd, Below.next h.bel hb⟩
end
theorem DG.start (w : World) (s : ByteArray) : DG w ((((w.alloc (.cells #[.int .i64 0, .int .i64 0, .slice none 0 0] 24)).alloc (.cells #[.int .i64 0, .int .i64 0, .slice none 0 0] 24)).alloc (.cells #[.string s, .int .i64 0, .int .i64 0] 69)).alloc (.cells #[.int .i64 64, .int .i64 1099511627776, .int .i64 8] 3)) (hvl s 0) s 0 0 := by
  generalize ho1 : (Obj.cells #[.int .i64 0, .int .i64 0, .slice none 0 0] 24) = o1
  generalize ho3 : (Obj.cells #[.string s, .int .i64 0, .int .i64 0] 69) = o3
  generalize ho4 : (Obj.cells #[.int .i64 64, .int .i64 1099511627776, .int .i64 8] 3) = o4
  have s1 : (w.alloc o1).heap.size = w.heap.size + 1 := by simp
  have s2 : ((w.alloc o1).alloc o1).heap.size = w.heap.size + 2 := by simp
  have s3 : (((w.alloc o1).alloc o1).alloc o3).heap.size = w.heap.size + 3 := by simp
  have n1 := new_at (o := o1) (rfl : w.heap.size = w.heap.size)
  have n2 := new_at (o := o1) s1
  have n3 := new_at (o := o3) s2
  have n4 := new_at (o := o4) s3
  have k3 : ∀ k, k < w.heap.size + 3 → ((((w.alloc o1).alloc o1).alloc o3).alloc o4).heap[k]? = (((w.alloc o1).alloc o1).alloc o3).heap[k]? := fun k hk => Below.heap_alloc _ _ _ (by rw [s3]; exact hk)
  have k2 : ∀ k, k < w.heap.size + 2 → (((w.alloc o1).alloc o1).alloc o3).heap[k]? = ((w.alloc o1).alloc o1).heap[k]? := fun k hk => Below.heap_alloc _ _ _ (by rw [s2]; exact hk)
  have k1 : ∀ k, k < w.heap.size + 1 → ((w.alloc o1).alloc o1).heap[k]? = (w.alloc o1).heap[k]? := fun k hk => Below.heap_alloc _ _ _ (by rw [s1]; exact hk)
  subst ho1 ho3 ho4
  refine ⟨?_, ?_, ?_, ?_, ?_⟩
  · exact (k3 _ (by omega)).trans ((k2 _ (by omega)).trans ((k1 _ (by omega)).trans n1))
  · exact (k3 _ (by omega)).trans ((k2 _ (by omega)).trans n2)
  · exact (k3 _ (by omega)).trans n3
  · exact n4
  · exact Below.next (Below.next (Joins.below_alloc2 w _ _) (Joins.below_alloc1 _ _)) (Joins.below_alloc1 _ _)
/-- A row of updates of the call's own. -/
def RowU (B : Nat) (w : World) (v : Value) (l : List Up) : Prop := w.ownsRow B 45 4 v l.length (flU l)
theorem RowU.is {B w v l} (h : RowU B w v l) : ∃ a c, v = .slice a l.length c ∧ IsUs w a l.length l := by
  rcases h.2 with ⟨rfl, h0⟩ | ⟨g, cap, cur, rfl, _⟩
  · rw [h0]; exact ⟨none, 0, rfl, h0, fun hx => absurd hx (Nat.lt_irrefl _)⟩
  · refine ⟨some ⟨g, 0, none⟩, cap, rfl, rfl, fun _ => ⟨g, 0, rfl, four fun i hi => ?_⟩⟩
    have hc : ∀ r, r < 4 → w.cell? ⟨g, 0 + i * 4 + r, none⟩ = (cellsU4 (l.getD i up0))[r]? := fun r hr => by
      rw [Nat.zero_add, World.ownsRow.cellAt h (i * 4 + r) (by omega), flU_get l i r hi hr]
    exact ⟨hc 0 (by omega), hc 1 (by omega), hc 2 (by omega), hc 3 (by omega)⟩
theorem RowU.kept {B w w1 v l} (h : RowU B w v l) {row : Option Nat} (hg : w.grownBy w1 row) (hne : v.ownBlock = none ∨ v.ownBlock ≠ row) : RowU B w1 v l := World.ownsRow.kept h hg hne
theorem rowU_nil (B : Nat) (w : World) : RowU B w (.slice none 0 0) [] := World.ownsRow_nil w B _ 4
theorem news_cells (w : World) (u : Up) : ∀ j x, (cellsU4 u)[j]? = some x → (w.alloc (.cells #[.string u.1, .int .i64 u.2.1, .int .i64 u.2.2.1, .string u.2.2.2] 45)).cell? ((⟨w.heap.size, 0, none⟩ : Addr).add j) = some x := by
  intro j x hj
  have e : (⟨w.heap.size, 0, none⟩ : Addr).add j = ⟨w.heap.size, j, none⟩ := by simp [Addr.add_lit]
  rw [e]
  refine cell_at (new_at rfl) j x ?_
  rw [← hj]
  simp [cellsU4]
theorem news_one (u : Up) : ∀ x ∈ cellsU4 u, x.oneCell' = true := by
  intro x hx
  simp only [cellsU4, List.mem_cons, List.not_mem_nil, or_false] at hx
  rcases hx with rfl | rfl | rfl | rfl <;> rfl
/-- .. and the round that is gathered in block p, its row above. -/
structure DL (w wr : World) (x : Nat → Int) (s : ByteArray) (A : Nat) (E : Int) (p : Nat) (o n : Int) (a : Option Addr) (c : Nat) (l : List Up) : Prop where
  g : DG w wr x s A E
  lo : w.heap.size + 3 < p
  rb : Rb wr p o n a l.length c
  row : RowU (p + 1) wr (.slice a l.length c) l
section
variable {w wr w' : World} {x : Nat → Int} {s : ByteArray} {A A' : Nat} {E E' : Int} {p : Nat} {o n : Int} {a : Option Addr} {c : Nat} {l : List Up}
theorem RowU.low {B : Nat} {v : Value} (h : RowU B wr v l) (k : Nat) (hk : k < B) : v.ownBlock = none ∨ v.ownBlock ≠ some k := by
  cases e : v.ownBlock with
  | none => exact .inl rfl
  | some j =>
    refine .inr fun e2 => ?_
    injection e2 with e2
    have := (World.ownsRow.lt h j e).1
    omega
theorem DL.read (h : DL w wr x s A E p o n a c l) (hr : Rm w' (w.heap.size + 2) s A' E') (hg : wr.grownBy w' (some (w.heap.size + 2))) : DL w w' x s A' E' p o n a c l :=
  have h1 := h.lo
  ⟨h.g.read hr hg, h.lo, h.rb.kept hg (by simp; omega), h.row.kept hg (h.row.low _ (by omega))⟩
theorem DL.next (h : DL w wr x s A E p o n a c l) (hb : Below wr.heap.size wr w') : DL w w' x s A E p o n a c l :=
  ⟨h.g.next hb, h.lo, h.rb.next hb, h.row.kept (row := none) (grown_below hb) (Classical.em _)⟩
/-- Behind an append: the row in the field. -/
theorem DL.app {a' : Option Addr} {c' : Nat} {u : Up} (h : DL w wr x s A E p o n a c l) (hw : w'.ownsRow (p + 1) 45 4 (.slice a' (l.length + 1) c') (l.length + 1) (flU l ++ cellsU4 u)) (hg : wr.grownBy w' (Value.slice a l.length c).ownBlock) :
    DL w (w'.setCell ⟨p, 2, none⟩ (.slice a' (l.length + 1) c')) x s A E p o n a' c' (l ++ [u]) := by
  have h1 := h.lo
  have low : ∀ k, k < p + 1 → some k ≠ (Value.slice a l.length c).ownBlock := fun k hk e => by
    rcases h.row.low k hk with e2 | e2
    · rw [e2] at e; cases e
    · exact e2 e.symm
  have hrb := (h.rb.kept hg (low p (by omega))).set2 a' (l.length + 1) c'
  have hl : (l ++ [u]).length = l.length + 1 := by simp
  refine ⟨⟨(h.g.res.kept hg (low _ (by omega))).setnew (by omega) _ _, (h.g.non.kept hg (low _ (by omega))).setnew (by omega) _ _, (Below.heap_setCell _ _ _ _ (show w.heap.size + 2 ≠ p by omega)).trans (h.g.rm.kept hg (low _ (by omega))), (h.g.hd.kept hg (low _ (by omega))).setnew (by omega) _ _, (h.g.bel.grown hg h.g.bel.size (fun k e => by have := (World.ownsRow.lt h.row k e).1; omega)).setCell (by show w.heap.size ≤ p; omega) _⟩, h.lo, ?_, ?_⟩
  · rw [hl]; exact hrb
  · unfold RowU
    rw [flU_snoc, hl]
    exact ownsRow_setCell_below hw (show p < p + 1 by omega) _
theorem DL.start {w wr : World} {x : Nat → Int} {s : ByteArray} {A : Nat} {E : Int} (h : DG w wr x s A E) (o n : Int) : DL w (wr.alloc (.cells #[.int .i64 o, .int .i64 n, .slice none 0 0] 24)).drew x s A E wr.heap.size o n none 0 [] := by
  have hn := h.next (Joins.below_alloc1 wr (.cells #[.int .i64 o, .int .i64 n, .slice none 0 0] 24))
  exact ⟨⟨hn.res, hn.non, hn.rm, hn.hd, hn.bel.drew⟩, h.hd.lt, Rb.new wr o n none 0 0, rowU_nil _ _⟩
end
/-- What Get answers. -/
def GotR (s : ByteArray) (w : World) (x : Ending) (w' : World) : Prop :=
  ∃ a cap, x = .returned (.tuple #[.agg #[.int .i64 (geO s), .int .i64 (geN s), .slice a (geL s).length cap], .int .i64 (geE s)]) ∧ IsUs w' a (geL s).length (geL s) ∧ Below w.heap.size w w'
theorem gotR_z {s : ByteArray} {e : Int} (h : geE s = e) (he : e ≠ 0) {w w' : World} (hb : Below w.heap.size w w') : GotR s w (.returned (.tuple #[.agg #[.int .i64 0, .int .i64 0, .slice none 0 0], .int .i64 e])) w' := by
  have r1 : geO s = 0 := if_pos (by rw [h]; exact he)
  have r2 : geN s = 0 := if_pos (by rw [h]; exact he)
  have r3 : geL s = [] := if_pos (by rw [h]; exact he)
  exact ⟨none, 0, by rw [r1, r2, r3, h]; rfl, by rw [r3]; exact ⟨rfl, fun h => absurd h (Nat.lt_irrefl _)⟩, hb⟩
theorem gotR_o {s : ByteArray} {V1 V2 : Int} {l : List Up} (h : geE s = 0) (h1 : numV s 0 0 64 = V1) (h2 : numV s (a1 s) (e1 s) 1099511627776 = V2) (h3 : (getUs s).1 = l) {a : Option Addr} {c : Nat} {w w' : World} (hu : IsUs w' a l.length l) (hb : Below w.heap.size w w') : GotR s w (.returned (.tuple #[.agg #[.int .i64 V1, .int .i64 V2, .slice a l.length c], .int .i64 0])) w' := by
  have r1 : geO s = V1 := (if_neg (by simp [h])).trans h1
  have r2 : geN s = V2 := (if_neg (by simp [h])).trans h2
  have r3 : geL s = l := (if_neg (by simp [h])).trans h3
  exact ⟨a, c, by rw [r1, r2, r3, h], by rw [r3]; exact hu, hb⟩
end Go.Proofs.YtcknklodnfabpaaDoor
