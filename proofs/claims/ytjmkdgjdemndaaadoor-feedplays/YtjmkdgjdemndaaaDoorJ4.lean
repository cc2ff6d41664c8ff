/- An end's frames. -/
import Derived.Test.YtjmkdgjdemndaaaDoorJ3
import Derived.Deep.RegionHeld3
namespace Go.Proofs.YtjmkdgjdemndaaaDoor.K
open Go Go.RowKit
set_option maxRecDepth 20000
/-- The frames of pieces behind k. -/
def frs (ep a : Int) : Nat → List ByteArray → List Fra
  | _, [] => []
  | k, d :: ds => (ep, ((k + 1 : Nat) : Int), a, d) :: frs ep a (k + 1) ds
theorem frs_len (ep a : Int) : ∀ (k : Nat) (ds : List ByteArray), (frs ep a k ds).length = ds.length
  | _, [] => rfl
  | k, d :: ds => by simp only [frs, List.length_cons, frs_len ep a (k + 1) ds]
theorem frs_get (ep a : Int) : ∀ (k : Nat) (ds : List ByteArray) (i : Nat), i < ds.length → (frs ep a k ds).getD i fr0 = (ep, ((k + i + 1 : Nat) : Int), a, ds.getD i emp)
  | _, [], i, h => absurd h (by simp)
  | k, d :: ds, 0, _ => rfl
  | k, d :: ds, i + 1, h => by
    have := frs_get ep a (k + 1) ds i (by simpa using h)
    simp only [frs, List.getD_cons_succ, this]
    rw [show k + 1 + i + 1 = k + (i + 1) + 1 by omega]
def En.ackn (E : En) : Int := ((E.q + E.ps.length : Nat) : Int)
def En.frames (E : En) : List Fra := if E.ep = 0 then [] else if E.ds.length = 0 then [(E.ep, 0, E.ackn, ⟨#[]⟩)] else frs E.ep E.ackn E.k E.ds
theorem infoF : ∃ i, Tryd.prog.info? 40 = some i ∧ i.zero = some (.agg #[.int .i64 0, .int .i64 0, .int .i64 0, .string ⟨#[]⟩]) ∧ i.size = 4 ∧ i.bytes = 40 := by
  have h : (Tryd.prog.info? 40).map (fun i => (i.zero, i.size, i.bytes)) = some (some (.agg #[.int .i64 0, .int .i64 0, .int .i64 0, .string ⟨#[]⟩]), 4, 40) := by kernel_rfl
  cases hx : Tryd.prog.info? 40 with
  | none => rw [hx] at h; cases h
  | some i =>
    rw [hx] at h
    simp at h
    exact ⟨i, rfl, h.1, h.2.1, h.2.2⟩
theorem owns_lower {B B' : Nat} {w : World} {e : TypeId} {s : Nat} {v : Value} {n : Nat} {xs : List Value} (h : w.ownsRow B e s v n xs) (hB : B' ≤ B) : w.ownsRow B' e s v n xs := by
  obtain ⟨h1, h2⟩ := h
  refine ⟨h1, ?_⟩
  rcases h2 with h0 | ⟨g, cap, cur, e, hb, r⟩
  · exact .inl h0
  · exact .inr ⟨g, cap, cur, e, by omega, r⟩
theorem RowP.lower {B B' : Nat} {w : World} {v : Value} {k : Nat} {ds : List ByteArray} (h : RowP B w v k ds) (hB : B' ≤ B) : RowP B' w v k ds := by
  obtain ⟨h1, h2⟩ := h
  refine ⟨h1, ?_⟩
  rcases h2 with h0 | ⟨g, cap, cur, e, hb, r⟩
  · exact .inl h0
  · exact .inr ⟨g, cap, cur, e, by omega, r⟩
section
variable {w w' : World} {H : Nat} {f : Fra}
theorem Fb.c0 (h : Fb w H f) : w.cell? ⟨H, 0, none⟩ = some (.int .i64 f.1) := cell_at h 0 _ rfl
theorem Fb.c1 (h : Fb w H f) : w.cell? ⟨H, 1, none⟩ = some (.int .i64 f.2.1) := cell_at h 1 _ rfl
theorem Fb.c2 (h : Fb w H f) : w.cell? ⟨H, 2, none⟩ = some (.int .i64 f.2.2.1) := cell_at h 2 _ rfl
theorem Fb.c3 (h : Fb w H f) : w.cell? ⟨H, 3, none⟩ = some (.string f.2.2.2) := cell_at h 3 _ rfl
theorem Fb.f0 (h : Fb w H f) (i : Nat) : w.frozen? ⟨H, i, none⟩ = false := by unfold Fb at h; simp [World.frozen?, h]
theorem Fb.lt (h : Fb w H f) : H < w.heap.size := (Array.getElem?_eq_some_iff.1 h).1
theorem Fb.same (h : Fb w H f) (hb : w'.heap[H]? = w.heap[H]?) : Fb w' H f := hb.trans h
theorem Fb.set1 (h : Fb w H f) (n : Int) : Fb (w.setCell ⟨H, 1, none⟩ (.int .i64 n)) H (f.1, n, f.2.2.1, f.2.2.2) := by
  unfold Fb at *; simp [World.setCell, Array.getElem?_modify, h]
theorem Fb.set3 (h : Fb w H f) (x : ByteArray) : Fb (w.setCell ⟨H, 3, none⟩ (.string x)) H (f.1, f.2.1, f.2.2.1, x) := by
  unfold Fb at *; simp [World.setCell, Array.getElem?_modify, h]
end
/-- How it stands within Frames, before the piece i. -/
structure FL (B0 : Nat) (w wr : World) (H g : Nat) (ep A : Int) (k : Nat) (ds : List ByteArray) (a : Option Addr) (c i : Nat) (s : Int) (d : ByteArray) : Prop where
  bel : Below B0 w wr
  le : B0 ≤ wr.heap.size
  pcs : RowP B0 wr (.slice a ds.length c) k ds
  fb : Fb wr H (ep, s, A, d)
  own : ∃ xs, wr.ownsRow B0 40 4 (.slice (some ⟨g, 0, none⟩) ds.length ds.length) ds.length xs ∧ ∀ j, j < i * 4 → xs[j]? = (flF (frs ep A k ds))[j]?
  ne : H ≠ g
  lo : B0 ≤ H
section
variable {B0 : Nat} {w wr wr' : World} {H g : Nat} {ep A : Int} {k : Nat} {ds : List ByteArray} {a : Option Addr} {c i : Nat} {s : Int} {d : ByteArray}
theorem FL.next (h : FL B0 w wr H g ep A k ds a c i s d) (hb : Below wr.heap.size wr wr') : FL B0 w wr' H g ep A k ds a c i s d := by
  obtain ⟨xs, h1, h2⟩ := h.own
  exact ⟨h.bel.trans (hb.mono h.le), Nat.le_trans h.le hb.size, h.pcs.below hb, h.fb.same (hb.block H h.fb.lt), ⟨xs, World.ownsRow.kept h1 (grownOf none hb) (Classical.em _), h2⟩, h.ne, h.lo⟩
theorem FL.asit (h : FL B0 w wr H g ep A k ds a c i s d) (e : wr'.heap = wr.heap) (e1 : wr'.os = wr.os) (e2 : wr'.tape = wr.tape) (e3 : wr'.output = wr.output) : FL B0 w wr' H g ep A k ds a c i s d := h.next (below_asit e e1 e2 e3)
theorem FL.put (h : FL B0 w wr H g ep A k ds a c i s d) (j : Nat) (y : Value) {s' : Int} {d' : ByteArray} (hf : Fb (wr.setCell ⟨H, j, none⟩ y) H (ep, s', A, d')) : FL B0 w (wr.setCell ⟨H, j, none⟩ y) H g ep A k ds a c i s' d' := by
  obtain ⟨xs, h1, h2⟩ := h.own
  have hg := grown_set wr H j y
  refine ⟨h.bel.grown hg h.le (fun q hq => by cases hq; exact h.lo), Nat.le_trans h.le hg.size, World.ownsRow.kept h.pcs hg (.inr fun e => ?_), hf, ⟨xs, World.ownsRow.kept h1 hg (.inr (by simpa [Value.ownBlock] using fun e => h.ne e.symm)), h2⟩, h.ne, h.lo⟩
  obtain ⟨cur, hc⟩ := h.pcs.pr.typ H e
  exact two_types hc h.fb (by decide) rfl
theorem FL.set1 (h : FL B0 w wr H g ep A k ds a c i s d) (n : Int) : FL B0 w (wr.setCell ⟨H, 1, none⟩ (.int .i64 n)) H g ep A k ds a c i n d := h.put 1 _ (h.fb.set1 n)
theorem FL.set3 (h : FL B0 w wr H g ep A k ds a c i s d) (x : ByteArray) : FL B0 w (wr.setCell ⟨H, 3, none⟩ (.string x)) H g ep A k ds a c i s x := h.put 3 _ (h.fb.set3 x)
theorem FL.cell (h : FL B0 w wr H g ep A k ds a c i s d) (j : Nat) (hj : j < ds.length * 4) : ∃ u, wr.cell? ⟨g, j, none⟩ = some u := by
  obtain ⟨xs, h1, h2⟩ := h.own
  have hl := h1.1
  exact ⟨_, (World.ownsRow.cellAt h1 j hj).trans (List.getElem?_eq_getElem (by omega))⟩
theorem FL.fro (h : FL B0 w wr H g ep A k ds a c i s d) (j : Nat) : wr.frozen? ⟨g, j, none⟩ = false := by
  obtain ⟨xs, h1, h2⟩ := h.own
  exact World.ownsRow.frozenAt h1 j
theorem FL.store (hi : i < ds.length) {s : Int} {d : ByteArray} (h : FL B0 w wr H g ep A k ds a c i s d) (hs : s = ((k + i + 1 : Nat) : Int)) (hd : d = ds.getD i emp) : FL B0 w ((((wr.setCell ⟨g, i * 4, none⟩ (.int .i64 ep)).setCell ⟨g, i * 4 + 1, none⟩ (.int .i64 s)).setCell ⟨g, i * 4 + 2, none⟩ (.int .i64 A)).setCell ⟨g, i * 4 + 3, none⟩ (.string d)) H g ep A k ds a c (i + 1) s d := by
  obtain ⟨xs, h1, h2⟩ := h.own
  have hl := h1.1
  obtain ⟨s1, g1⟩ := World.ownsRow.stored h1 (i * 4) (.int .i64 ep)
  obtain ⟨s2, g2⟩ := World.ownsRow.stored s1 (i * 4 + 1) (.int .i64 s)
  obtain ⟨s3, g3⟩ := World.ownsRow.stored s2 (i * 4 + 2) (.int .i64 A)
  obtain ⟨s4, g4⟩ := World.ownsRow.stored s3 (i * 4 + 3) (.string d)
  have hgr := World.grownBy.trans (World.grownBy.trans (World.grownBy.trans g1 g2) g3) g4
  refine ⟨h.bel.grown hgr h.le (fun j hj => by cases hj; exact (h1.lt g rfl).1), Nat.le_trans h.le hgr.size, World.ownsRow.kept h.pcs hgr (.inr fun e => ?_), h.fb.same (hgr.block H h.fb.lt (by simpa using h.ne)), ⟨_, s4, fun j hj => ?_⟩, h.ne, h.lo⟩
  · obtain ⟨cur, hc⟩ := h.pcs.pr.typ g e
    rcases h1.2 with ⟨e', _⟩ | ⟨g', cap', cur', e', _, hg', _⟩
    · cases e'
    · cases e'
      exact two_types hc hg' (by decide) rfl
  · have hfl := frs_len ep A k ds
    have hq := fun r hr => flF_get (frs ep A k ds) i r (by omega) hr
    rw [frs_get ep A k ds i hi, ← hs, ← hd] at hq
    by_cases hj0 : j < i * 4
    · rw [List.getElem?_set_ne (by omega), List.getElem?_set_ne (by omega), List.getElem?_set_ne (by omega), List.getElem?_set_ne (by omega)]
      exact h2 j hj0
    · rcases (show j = i * 4 ∨ j = i * 4 + 1 ∨ j = i * 4 + 2 ∨ j = i * 4 + 3 by omega) with rfl | rfl | rfl | rfl
      · rw [List.getElem?_set_ne (by omega), List.getElem?_set_ne (by omega), List.getElem?_set_ne (by omega), List.getElem?_set_self (by omega)]
        exact (hq 0 (by decide)).symm
      · rw [List.getElem?_set_ne (by omega), List.getElem?_set_ne (by omega), List.getElem?_set_self (by simp only [List.length_set]; omega)]
        exact (hq 1 (by decide)).symm
      · rw [List.getElem?_set_ne (by omega), List.getElem?_set_self (by simp only [List.length_set]; omega)]
        exact (hq 2 (by decide)).symm
      · rw [List.getElem?_set_self (by simp only [List.length_set]; omega)]
        exact (hq 3 (by decide)).symm
theorem FL.row (h : FL B0 w wr H g ep A k ds a c ds.length s d) : RowF B0 wr (.slice (some ⟨g, 0, none⟩) ds.length ds.length) (frs ep A k ds) := by
  obtain ⟨xs, h1, h2⟩ := h.own
  have hl := h1.1
  have e : xs = flF (frs ep A k ds) := by
    apply List.ext_getElem?
    intro j
    by_cases hj : j < ds.length * 4
    · exact h2 j hj
    · rw [List.getElem?_eq_none (by omega), List.getElem?_eq_none (by rw [flF_len, frs_len]; omega)]
  subst e
  unfold RowF
  rw [frs_len]
  exact h1
end
section
variable {B b bs br : Nat} {v : Value} {L : List ByteArray} {E : En}
set_option maxHeartbeats 1000000 in
theorem frames_zero (h0 : E.ep = 0) (w : World) (h : Lx B w b bs v br L E) :
    Calls Tryd.prog 23 #[.pointer (some ⟨b, 0, none⟩)] w fun e w' => e = .returned (.slice none 0 0) ∧ w' = w := by
  have c0 := h.blk.c0
  rw [h0] at c0
  clear h
  go_enter Tryd.func23, Tryd.ntmps23
  go_wp2
  go_ret
  exact ⟨rfl, rfl⟩
end
set_option maxHeartbeats 2000000 in
theorem frames_none {B b bs br : Nat} {v : Value} {L : List ByteArray} {E : En} (h0 : E.ep ≠ 0) (hd : E.ds.length = 0) (w : World) (h : Lx B w b bs v br L E) :
    Calls Tryd.prog 23 #[.pointer (some ⟨b, 0, none⟩)] w fun e w' => ∃ a c, e = .returned (.slice a 1 c) ∧ RowF w.heap.size w' (.slice a 1 c) [(E.ep, 0, E.ackn, ⟨#[]⟩)] ∧ Below w.heap.size w w' := by
  obtain ⟨ep, wa, ra, pas, k, ds, q, ps⟩ := E
  simp only [En.ackn] at h0 h hd ⊢
  have c0 := h.blk.c0
  have c5 := h.blk.c5
  have k0 : (ep == 0) = false := by simpa using h0
  have k1 : decide (ep = 0) = false := by simpa using h0
  have HACK : ∀ (w : World), Rcv.Rv B w br (Rcv.roomOf ra) q ps L → Hid _ := fun w h => Lib.hid (Rcv.ack_any (B := B) (b := br) (room := Rcv.roomOf ra) (k := q) (ps := ps) (L := L) w h)
  generalize ((q + ps.length : Nat) : Int) = A at *
  have H0 := Lib.hid h
  have HZ := Lib.hid (h.next (Joins.below_alloc1 w (.cells #[.int .i64 0, .int .i64 0, .int .i64 0, .string ⟨#[]⟩] 40)))
  have HY := Lib.hid (h.next (Joins.below_alloc1 w (.cells #[.int .i64 ep, .int .i64 0, .int .i64 A, .string ⟨#[]⟩] 40)))
  have d0 := HZ.out.blk.c0
  have d5 := HZ.out.blk.c5
  have e0 := HY.out.blk.c0
  have e5 := HY.out.blk.c5
  have r0 : Rcv.Rv B w.drew br (Rcv.roomOf ra) q ps L := (h.asit (w' := w.drew) rfl).rv
  have r1 : Rcv.Rv B (w.alloc (.cells #[.int .i64 0, .int .i64 0, .int .i64 0, .string ⟨#[]⟩] 40)).drew br (Rcv.roomOf ra) q ps L := (HZ.out.asit (w' := (w.alloc (.cells #[.int .i64 0, .int .i64 0, .int .i64 0, .string ⟨#[]⟩] 40)).drew) rfl).rv
  have R0 := Lib.hid r0
  have R1 := Lib.hid r1
  have HP : Hid (∀ Y : World, (w.alloc (.cells #[.int .i64 ep, .int .i64 0, .int .i64 A, .string ⟨#[]⟩] 40)).drew = Y → Hid (Lx B Y b bs v br L ⟨ep, wa, ra, pas, k, ds, q, ps⟩) ∧ Hid (Fb Y w.heap.size (ep, 0, A, ⟨#[]⟩)) ∧ Hid (Below w.heap.size w Y) ∧ w.heap.size < Y.heap.size) := Lib.hid (by
    rintro Y rfl
    exact ⟨Lib.hid (HY.out.asit rfl), Lib.hid (heap_alloc_new w _), Lib.hid (Joins.below_alloc1 w _).drew, by show w.heap.size < (w.alloc _).heap.size; simp⟩)
  clear h h0 r0 r1 HZ HY H0
  go_enter Tryd.func23, Tryd.ntmps23
  go_wp2_with fail
  refine wp_region_held_drew (S := fun w' => w'.cell? ⟨b, 0, none⟩ = some (.int .i64 ep) ∧ w'.cell? ⟨b, 5, none⟩ = some (.pointer (some ⟨br, 0, none⟩))) (by kernel_rfl) ?_ (fun hH => ?_)
  · exact ⟨c0, c5⟩
  refine wpAnyH_take (i := 0) (oi := { dst := some 13, op := Go.Op.move (Go.Operand.tmp 0), type := 26, pos := "link.go:44", after := #[], guard := none }) (v := ?_) rfl (by kernel_rfl) (by kernel_rfl) (by kernel_rfl) (fun _ _ _ h => h) (Or.inl ⟨by rfl, ?_⟩) (by assumption) ?_
  rotate_left
  · intro w hSw
    try dsimp only at hSw
    obtain ⟨q1, q2⟩ := hSw
    go_simp
    all_goals with_reducible rfl
  try simp only [Act.put, List.setIfInBounds_toArray, List.set_cons_zero, List.set_cons_succ]
  refine wpAnyH_take (i := 1) (oi := { dst := some 14, op := Go.Op.nilCheck (Go.Operand.tmp 13), type := 0, pos := "link.go:44", after := #[{ on := 0, ground := Go.Ground.data }], guard := none }) (v := ?_) rfl (by kernel_rfl) (by kernel_rfl) (by kernel_rfl) (fun _ _ _ h => h) (Or.inl ⟨by rfl, ?_⟩) (by assumption) ?_
  rotate_left
  · intro w hSw
    try dsimp only at hSw
    obtain ⟨q1, q2⟩ := hSw
    go_simp
    all_goals with_reducible rfl
  try simp only [Act.put, List.setIfInBounds_toArray, List.set_cons_zero, List.set_cons_succ]
  refine wpAnyH_take (i := 2) (oi := { dst := some 15, op := Go.Op.fieldAddr 73 (Go.Operand.tmp 14) 0, type := 0, pos := "link.go:44", after := #[{ on := 1, ground := Go.Ground.data }], guard := none }) (v := ?_) rfl (by kernel_rfl) (by kernel_rfl) (by kernel_rfl) (fun _ _ _ h => h) (Or.inl ⟨by rfl, ?_⟩) (by assumption) ?_
  rotate_left
  · intro w hSw
    try dsimp only at hSw
    obtain ⟨q1, q2⟩ := hSw
    go_simp
    all_goals with_reducible rfl
  try simp only [Act.put, List.setIfInBounds_toArray, List.set_cons_zero, List.set_cons_succ]
  refine wpAnyH_take (i := 3) (oi := { dst := some 16, op := Go.Op.load 3 (Go.Operand.tmp 15), type := 3, pos := "link.go:44", after := #[{ on := 2, ground := Go.Ground.data }], guard := none }) (v := ?_) rfl (by kernel_rfl) (by kernel_rfl) (by kernel_rfl) (fun _ _ _ h => h) (Or.inl ⟨by rfl, ?_⟩) (by assumption) ?_
  rotate_left
  · intro w hSw
    try dsimp only at hSw
    obtain ⟨q1, q2⟩ := hSw
    go_simp
    all_goals with_reducible rfl
  try simp only [Act.put, List.setIfInBounds_toArray, List.set_cons_zero, List.set_cons_succ]
  refine wpAnyH_take (i := 4) (oi := { dst := some 17, op := Go.Op.move (Go.Operand.tmp 0), type := 26, pos := "link.go:44", after := #[], guard := none }) (v := ?_) rfl (by kernel_rfl) (by kernel_rfl) (by kernel_rfl) (fun _ _ _ h => h) (Or.inl ⟨by rfl, ?_⟩) (by assumption) ?_
  rotate_left
  · intro w hSw
    try dsimp only at hSw
    obtain ⟨q1, q2⟩ := hSw
    go_simp
    all_goals with_reducible rfl
  try simp only [Act.put, List.setIfInBounds_toArray, List.set_cons_zero, List.set_cons_succ]
  refine wpAnyH_take (i := 5) (oi := { dst := some 18, op := Go.Op.nilCheck (Go.Operand.tmp 17), type := 0, pos := "link.go:44", after := #[{ on := 4, ground := Go.Ground.data }], guard := none }) (v := ?_) rfl (by kernel_rfl) (by kernel_rfl) (by kernel_rfl) (fun _ _ _ h => h) (Or.inl ⟨by rfl, ?_⟩) (by assumption) ?_
  rotate_left
  · intro w hSw
    try dsimp only at hSw
    obtain ⟨q1, q2⟩ := hSw
    go_simp
    all_goals with_reducible rfl
  try simp only [Act.put, List.setIfInBounds_toArray, List.set_cons_zero, List.set_cons_succ]
  refine wpAnyH_take (i := 6) (oi := { dst := some 19, op := Go.Op.fieldAddr 73 (Go.Operand.tmp 18) 5, type := 0, pos := "link.go:44", after := #[{ on := 5, ground := Go.Ground.data }], guard := none }) (v := ?_) rfl (by kernel_rfl) (by kernel_rfl) (by kernel_rfl) (fun _ _ _ h => h) (Or.inl ⟨by rfl, ?_⟩) (by assumption) ?_
  rotate_left
  · intro w hSw
    try dsimp only at hSw
    obtain ⟨q1, q2⟩ := hSw
    go_simp
    all_goals with_reducible rfl
  try simp only [Act.put, List.setIfInBounds_toArray, List.set_cons_zero, List.set_cons_succ]
  refine wpAnyH_take (i := 7) (oi := { dst := some 20, op := Go.Op.load 71 (Go.Operand.tmp 19), type := 71, pos := "link.go:44", after := #[{ on := 6, ground := Go.Ground.data }], guard := none }) (v := ?_) rfl (by kernel_rfl) (by kernel_rfl) (by kernel_rfl) (fun _ _ _ h => h) (Or.inl ⟨by rfl, ?_⟩) (by assumption) ?_
  rotate_left
  · intro w hSw
    try dsimp only at hSw
    obtain ⟨q1, q2⟩ := hSw
    go_simp
    all_goals with_reducible rfl
  try simp only [Act.put, List.setIfInBounds_toArray, List.set_cons_zero, List.set_cons_succ]
  refine wpAnyH_ready (rs := [8, 10]) (by kernel_rfl) (by simp) ?_
  refine AllReadyH.cons (o := { dst := some 21, op := Go.Op.call { callee := Go.Callee.value (Go.Operand.func 46), args := #[Go.Operand.tmp 20], argTypes := #[71] }, type := 3, pos := "link.go:44", after := #[{ on := 7, ground := Go.Ground.data }], guard := none }) rfl (fun K hK => ?_) ?_
  · go_simp
    refine (HACK w.drew R0.out).out.mono ?_
    rintro e y1 ⟨rfl, rfl⟩
    go_wp2_with fail
    refine hK.out _ _ ?_ (fun hH => ?_)
    · exact ⟨c0, c5⟩
    clear hK K
    try simp only [Act.put, List.setIfInBounds_toArray, List.set_cons_zero, List.set_cons_succ]
    refine wpAnyH_take (i := 9) (oi := { dst := some 22, op := Go.Op.build 40 #[(0, Go.Operand.tmp 16), (2, Go.Operand.tmp 21)], type := 40, pos := "link.go:44", after := #[{ on := 3, ground := Go.Ground.data }, { on := 8, ground := Go.Ground.data }], guard := none }) (v := ?_) rfl (by kernel_rfl) (by kernel_rfl) (by kernel_rfl) (fun _ _ _ h => h) (Or.inl ⟨by rfl, ?_⟩) (by assumption) ?_
    rotate_left
    · intro w hSw
      try dsimp only at hSw
      obtain ⟨q1, q2⟩ := hSw
      go_simp
      all_goals with_reducible rfl
    try simp only [Act.put, List.setIfInBounds_toArray, List.set_cons_zero, List.set_cons_succ]
    refine wpAnyH_ready (rs := [10]) (by kernel_rfl) (by simp) ?_
    refine AllReadyH.cons (o := { dst := some 3, op := Go.Op.alloc 40, type := 0, pos := "link.go:44", after := #[], guard := none }) rfl (fun K hK => ?_) ?_
    · go_simp
      refine hK.out _ _ ?_ (fun hH => ?_)
      · exact ⟨d0, d5⟩
      clear hK K
      try simp only [Act.put, List.setIfInBounds_toArray, List.set_cons_zero, List.set_cons_succ]
      refine wpAnyH_ready (rs := [11]) (by kernel_rfl) (by simp) ?_
      refine AllReadyH.cons (o := { dst := none, op := Go.Op.store 40 (Go.Operand.tmp 3) (Go.Operand.tmp 22), type := 0, pos := "link.go:44", after := #[{ on := 10, ground := Go.Ground.data }, { on := 9, ground := Go.Ground.data }, { on := 8, ground := Go.Ground.chain }, { on := 0, ground := Go.Ground.phase }, { on := 1, ground := Go.Ground.phase }, { on := 2, ground := Go.Ground.phase }, { on := 3, ground := Go.Ground.phase }, { on := 4, ground := Go.Ground.phase }, { on := 5, ground := Go.Ground.phase }, { on := 6, ground := Go.Ground.phase }, { on := 7, ground := Go.Ground.phase }, { on := 8, ground := Go.Ground.phase }, { on := 9, ground := Go.Ground.phase }, { on := 10, ground := Go.Ground.phase }], guard := none }) rfl (fun K hK => ?_) ?_
      · go_simp
        refine hK.out _ _ ?_ (fun hH => ?_)
        · exact ⟨e0, e5⟩
        clear hK K
        try simp only [Act.put, List.setIfInBounds_toArray, List.set_cons_zero, List.set_cons_succ]
        refine wpAnyH_done (by kernel_rfl) ?_ _
        obtain ⟨Y, hY⟩ : ∃ Y, (w.alloc (.cells #[.int .i64 ep, .int .i64 0, .int .i64 A, .string ⟨#[]⟩] 40)).drew = Y := ⟨_, rfl⟩
        obtain ⟨HX, HF, HB, hlt⟩ := HP.out Y hY
        rw [hY]
        clear hY HP HACK R0 R1 c0 c5 d0 d5 e0 e5
        generalize hH : w.heap.size = H at *
        have HHW := Lib.hid hH
        clear hH
        have y4 := HX.out.blk.c4
        go_wp2_with fail
        refine (pieces_any Y HX.out.sn).mono ?_
        rintro e y2 ⟨a', c', rfl, hrow, hb⟩
        have hf2 := HF.out.same (hb.block H HF.out.lt)
        have g0 := hf2.c0
        have g1 := hf2.c1
        have g2 := hf2.c2
        have g3 := hf2.c3
        have HB2 := Lib.hid (HB.out.trans (hb.mono (Nat.le_of_lt hlt)))
        have HLE := Lib.hid (Nat.le_trans (Nat.le_of_lt hlt) hb.size)
        clear hrow hb hf2 HB HF HX
        rw [hd]
        go_wp2
        go_ret
        exact ⟨_, _, rfl, by rw [HHW.out]; exact (rowF_lit y2 ep 0 A ⟨#[]⟩).lower HLE.out, by rw [HHW.out]; exact HB2.out.alloc HLE.out _⟩
      exact AllReadyH.nil
    exact AllReadyH.nil
  refine AllReadyH.cons (o := { dst := some 3, op := Go.Op.alloc 40, type := 0, pos := "link.go:44", after := #[], guard := none }) rfl (fun K hK => ?_) ?_
  · go_simp
    refine hK.out _ _ ?_ (fun hH => ?_)
    · exact ⟨d0, d5⟩
    clear hK K
    try simp only [Act.put, List.setIfInBounds_toArray, List.set_cons_zero, List.set_cons_succ]
    refine wpAnyH_ready (rs := [8]) (by kernel_rfl) (by simp) ?_
    refine AllReadyH.cons (o := { dst := some 21, op := Go.Op.call { callee := Go.Callee.value (Go.Operand.func 46), args := #[Go.Operand.tmp 20], argTypes := #[71] }, type := 3, pos := "link.go:44", after := #[{ on := 7, ground := Go.Ground.data }], guard := none }) rfl (fun K hK => ?_) ?_
    · go_simp
      refine (HACK _ R1.out).out.mono ?_
      rintro e y1 ⟨rfl, rfl⟩
      go_wp2_with fail
      refine hK.out _ _ ?_ (fun hH => ?_)
      · exact ⟨d0, d5⟩
      clear hK K
      try simp only [Act.put, List.setIfInBounds_toArray, List.set_cons_zero, List.set_cons_succ]
      refine wpAnyH_take (i := 9) (oi := { dst := some 22, op := Go.Op.build 40 #[(0, Go.Operand.tmp 16), (2, Go.Operand.tmp 21)], type := 40, pos := "link.go:44", after := #[{ on := 3, ground := Go.Ground.data }, { on := 8, ground := Go.Ground.data }], guard := none }) (v := ?_) rfl (by kernel_rfl) (by kernel_rfl) (by kernel_rfl) (fun _ _ _ h => h) (Or.inl ⟨by rfl, ?_⟩) (by assumption) ?_
      rotate_left
      · intro w hSw
        try dsimp only at hSw
        obtain ⟨q1, q2⟩ := hSw
        go_simp
        all_goals with_reducible rfl
      try simp only [Act.put, List.setIfInBounds_toArray, List.set_cons_zero, List.set_cons_succ]
      refine wpAnyH_ready (rs := [11]) (by kernel_rfl) (by simp) ?_
      refine AllReadyH.cons (o := { dst := none, op := Go.Op.store 40 (Go.Operand.tmp 3) (Go.Operand.tmp 22), type := 0, pos := "link.go:44", after := #[{ on := 10, ground := Go.Ground.data }, { on := 9, ground := Go.Ground.data }, { on := 8, ground := Go.Ground.chain }, { on := 0, ground := Go.Ground.phase }, { on := 1, ground := Go.Ground.phase }, { on := 2, ground := Go.Ground.phase }, { on := 3, ground := Go.Ground.phase }, { on := 4, ground := Go.Ground.phase }, { on := 5, ground := Go.Ground.phase }, { on := 6, ground := Go.Ground.phase }, { on := 7, ground := Go.Ground.phase }, { on := 8, ground := Go.Ground.phase }, { on := 9, ground := Go.Ground.phase }, { on := 10, ground := Go.Ground.phase }], guard := none }) rfl (fun K hK => ?_) ?_
      · go_simp
        refine hK.out _ _ ?_ (fun hH => ?_)
        · exact ⟨e0, e5⟩
        clear hK K
        try simp only [Act.put, List.setIfInBounds_toArray, List.set_cons_zero, List.set_cons_succ]
        refine wpAnyH_done (by kernel_rfl) ?_ _
        obtain ⟨Y, hY⟩ : ∃ Y, (w.alloc (.cells #[.int .i64 ep, .int .i64 0, .int .i64 A, .string ⟨#[]⟩] 40)).drew = Y := ⟨_, rfl⟩
        obtain ⟨HX, HF, HB, hlt⟩ := HP.out Y hY
        rw [hY]
        clear hY HP HACK R0 R1 c0 c5 d0 d5 e0 e5
        generalize hH : w.heap.size = H at *
        have HHW := Lib.hid hH
        clear hH
        have y4 := HX.out.blk.c4
        go_wp2_with fail
        refine (pieces_any Y HX.out.sn).mono ?_
        rintro e y2 ⟨a', c', rfl, hrow, hb⟩
        have hf2 := HF.out.same (hb.block H HF.out.lt)
        have g0 := hf2.c0
        have g1 := hf2.c1
        have g2 := hf2.c2
        have g3 := hf2.c3
        have HB2 := Lib.hid (HB.out.trans (hb.mono (Nat.le_of_lt hlt)))
        have HLE := Lib.hid (Nat.le_trans (Nat.le_of_lt hlt) hb.size)
        clear hrow hb hf2 HB HF HX
        rw [hd]
        go_wp2
        go_ret
        exact ⟨_, _, rfl, by rw [HHW.out]; exact (rowF_lit y2 ep 0 A ⟨#[]⟩).lower HLE.out, by rw [HHW.out]; exact HB2.out.alloc HLE.out _⟩
      exact AllReadyH.nil
    exact AllReadyH.nil
  exact AllReadyH.nil
set_option maxHeartbeats 4000000 in
theorem frames_some {B b bs br : Nat} {v : Value} {L : List ByteArray} {E : En} (h0 : E.ep ≠ 0) (hd : E.ds.length ≠ 0) (w : World) (h : Lx B w b bs v br L E) :
    Calls Tryd.prog 23 #[.pointer (some ⟨b, 0, none⟩)] w fun e w' => ∃ a c, e = .returned (.slice a E.ds.length c) ∧ RowF w.heap.size w' (.slice a E.ds.length c) (frs E.ep E.ackn E.k E.ds) ∧ Below w.heap.size w w' := by
  obtain ⟨ep, wa, ra, pas, k, ds, q, ps⟩ := E
  simp only [En.ackn] at h0 h hd ⊢
  have c0 := h.blk.c0
  have c5 := h.blk.c5
  have k0 : (ep == 0) = false := by simpa using h0
  have k1 : decide (ep = 0) = false := by simpa using h0
  have HACK : ∀ (w : World), Rcv.Rv B w br (Rcv.roomOf ra) q ps L → Hid _ := fun w h => Lib.hid (Rcv.ack_any (B := B) (b := br) (room := Rcv.roomOf ra) (k := q) (ps := ps) (L := L) w h)
  generalize ((q + ps.length : Nat) : Int) = A at *
  have H0 := Lib.hid h
  have HZ := Lib.hid (h.next (Joins.below_alloc1 w (.cells #[.int .i64 0, .int .i64 0, .int .i64 0, .string ⟨#[]⟩] 40)))
  have HY := Lib.hid (h.next (Joins.below_alloc1 w (.cells #[.int .i64 ep, .int .i64 0, .int .i64 A, .string ⟨#[]⟩] 40)))
  have d0 := HZ.out.blk.c0
  have d5 := HZ.out.blk.c5
  have e0 := HY.out.blk.c0
  have e5 := HY.out.blk.c5
  have r0 : Rcv.Rv B w.drew br (Rcv.roomOf ra) q ps L := (h.asit (w' := w.drew) rfl).rv
  have r1 : Rcv.Rv B (w.alloc (.cells #[.int .i64 0, .int .i64 0, .int .i64 0, .string ⟨#[]⟩] 40)).drew br (Rcv.roomOf ra) q ps L := (HZ.out.asit (w' := (w.alloc (.cells #[.int .i64 0, .int .i64 0, .int .i64 0, .string ⟨#[]⟩] 40)).drew) rfl).rv
  have R0 := Lib.hid r0
  have R1 := Lib.hid r1
  have HP : Hid (∀ Y : World, (w.alloc (.cells #[.int .i64 ep, .int .i64 0, .int .i64 A, .string ⟨#[]⟩] 40)).drew = Y → Hid (Lx B Y b bs v br L ⟨ep, wa, ra, pas, k, ds, q, ps⟩) ∧ Hid (Fb Y w.heap.size (ep, 0, A, ⟨#[]⟩)) ∧ Hid (Below w.heap.size w Y) ∧ w.heap.size < Y.heap.size) := Lib.hid (by
    rintro Y rfl
    exact ⟨Lib.hid (HY.out.asit rfl), Lib.hid (heap_alloc_new w _), Lib.hid (Joins.below_alloc1 w _).drew, by show w.heap.size < (w.alloc _).heap.size; simp⟩)
  clear h h0 r0 r1 HZ HY H0
  go_enter Tryd.func23, Tryd.ntmps23
  go_wp2_with fail
  refine wp_region_held_drew (S := fun w' => w'.cell? ⟨b, 0, none⟩ = some (.int .i64 ep) ∧ w'.cell? ⟨b, 5, none⟩ = some (.pointer (some ⟨br, 0, none⟩))) (by kernel_rfl) ?_ (fun hH => ?_)
  · exact ⟨c0, c5⟩
  refine wpAnyH_take (i := 0) (oi := { dst := some 13, op := Go.Op.move (Go.Operand.tmp 0), type := 26, pos := "link.go:44", after := #[], guard := none }) (v := ?_) rfl (by kernel_rfl) (by kernel_rfl) (by kernel_rfl) (fun _ _ _ h => h) (Or.inl ⟨by rfl, ?_⟩) (by assumption) ?_
  rotate_left
  · intro w hSw
    try dsimp only at hSw
    obtain ⟨q1, q2⟩ := hSw
    go_simp
    all_goals with_reducible rfl
  try simp only [Act.put, List.setIfInBounds_toArray, List.set_cons_zero, List.set_cons_succ]
  refine wpAnyH_take (i := 1) (oi := { dst := some 14, op := Go.Op.nilCheck (Go.Operand.tmp 13), type := 0, pos := "link.go:44", after := #[{ on := 0, ground := Go.Ground.data }], guard := none }) (v := ?_) rfl (by kernel_rfl) (by kernel_rfl) (by kernel_rfl) (fun _ _ _ h => h) (Or.inl ⟨by rfl, ?_⟩) (by assumption) ?_
  rotate_left
  · intro w hSw
    try dsimp only at hSw
    obtain ⟨q1, q2⟩ := hSw
    go_simp
    all_goals with_reducible rfl
  try simp only [Act.put, List.setIfInBounds_toArray, List.set_cons_zero, List.set_cons_succ]
  refine wpAnyH_take (i := 2) (oi := { dst := some 15, op := Go.Op.fieldAddr 73 (Go.Operand.tmp 14) 0, type := 0, pos := "link.go:44", after := #[{ on := 1, ground := Go.Ground.data }], guard := none }) (v := ?_) rfl (by kernel_rfl) (by kernel_rfl) (by kernel_rfl) (fun _ _ _ h => h) (Or.inl ⟨by rfl, ?_⟩) (by assumption) ?_
  rotate_left
  · intro w hSw
    try dsimp only at hSw
    obtain ⟨q1, q2⟩ := hSw
    go_simp
    all_goals with_reducible rfl
  try simp only [Act.put, List.setIfInBounds_toArray, List.set_cons_zero, List.set_cons_succ]
  refine wpAnyH_take (i := 3) (oi := { dst := some 16, op := Go.Op.load 3 (Go.Operand.tmp 15), type := 3, pos := "link.go:44", after := #[{ on := 2, ground := Go.Ground.data }], guard := none }) (v := ?_) rfl (by kernel_rfl) (by kernel_rfl) (by kernel_rfl) (fun _ _ _ h => h) (Or.inl ⟨by rfl, ?_⟩) (by assumption) ?_
  rotate_left
  · intro w hSw
    try dsimp only at hSw
    obtain ⟨q1, q2⟩ := hSw
    go_simp
    all_goals with_reducible rfl
  try simp only [Act.put, List.setIfInBounds_toArray, List.set_cons_zero, List.set_cons_succ]
  refine wpAnyH_take (i := 4) (oi := { dst := some 17, op := Go.Op.move (Go.Operand.tmp 0), type := 26, pos := "link.go:44", after := #[], guard := none }) (v := ?_) rfl (by kernel_rfl) (by kernel_rfl) (by kernel_rfl) (fun _ _ _ h => h) (Or.inl ⟨by rfl, ?_⟩) (by assumption) ?_
  rotate_left
  · intro w hSw
    try dsimp only at hSw
    obtain ⟨q1, q2⟩ := hSw
    go_simp
    all_goals with_reducible rfl
  try simp only [Act.put, List.setIfInBounds_toArray, List.set_cons_zero, List.set_cons_succ]
  refine wpAnyH_take (i := 5) (oi := { dst := some 18, op := Go.Op.nilCheck (Go.Operand.tmp 17), type := 0, pos := "link.go:44", after := #[{ on := 4, ground := Go.Ground.data }], guard := none }) (v := ?_) rfl (by kernel_rfl) (by kernel_rfl) (by kernel_rfl) (fun _ _ _ h => h) (Or.inl ⟨by rfl, ?_⟩) (by assumption) ?_
  rotate_left
  · intro w hSw
    try dsimp only at hSw
    obtain ⟨q1, q2⟩ := hSw
    go_simp
    all_goals with_reducible rfl
  try simp only [Act.put, List.setIfInBounds_toArray, List.set_cons_zero, List.set_cons_succ]
  refine wpAnyH_take (i := 6) (oi := { dst := some 19, op := Go.Op.fieldAddr 73 (Go.Operand.tmp 18) 5, type := 0, pos := "link.go:44", after := #[{ on := 5, ground := Go.Ground.data }], guard := none }) (v := ?_) rfl (by kernel_rfl) (by kernel_rfl) (by kernel_rfl) (fun _ _ _ h => h) (Or.inl ⟨by rfl, ?_⟩) (by assumption) ?_
  rotate_left
  · intro w hSw
    try dsimp only at hSw
    obtain ⟨q1, q2⟩ := hSw
    go_simp
    all_goals with_reducible rfl
  try simp only [Act.put, List.setIfInBounds_toArray, List.set_cons_zero, List.set_cons_succ]
  refine wpAnyH_take (i := 7) (oi := { dst := some 20, op := Go.Op.load 71 (Go.Operand.tmp 19), type := 71, pos := "link.go:44", after := #[{ on := 6, ground := Go.Ground.data }], guard := none }) (v := ?_) rfl (by kernel_rfl) (by kernel_rfl) (by kernel_rfl) (fun _ _ _ h => h) (Or.inl ⟨by rfl, ?_⟩) (by assumption) ?_
  rotate_left
  · intro w hSw
    try dsimp only at hSw
    obtain ⟨q1, q2⟩ := hSw
    go_simp
    all_goals with_reducible rfl
  try simp only [Act.put, List.setIfInBounds_toArray, List.set_cons_zero, List.set_cons_succ]
  refine wpAnyH_ready (rs := [8, 10]) (by kernel_rfl) (by simp) ?_
  refine AllReadyH.cons (o := { dst := some 21, op := Go.Op.call { callee := Go.Callee.value (Go.Operand.func 46), args := #[Go.Operand.tmp 20], argTypes := #[71] }, type := 3, pos := "link.go:44", after := #[{ on := 7, ground := Go.Ground.data }], guard := none }) rfl (fun K hK => ?_) ?_
  · go_simp
    refine (HACK w.drew R0.out).out.mono ?_
    rintro e y1 ⟨rfl, rfl⟩
    go_wp2_with fail
    refine hK.out _ _ ?_ (fun hH => ?_)
    · exact ⟨c0, c5⟩
    clear hK K
    try simp only [Act.put, List.setIfInBounds_toArray, List.set_cons_zero, List.set_cons_succ]
    refine wpAnyH_take (i := 9) (oi := { dst := some 22, op := Go.Op.build 40 #[(0, Go.Operand.tmp 16), (2, Go.Operand.tmp 21)], type := 40, pos := "link.go:44", after := #[{ on := 3, ground := Go.Ground.data }, { on := 8, ground := Go.Ground.data }], guard := none }) (v := ?_) rfl (by kernel_rfl) (by kernel_rfl) (by kernel_rfl) (fun _ _ _ h => h) (Or.inl ⟨by rfl, ?_⟩) (by assumption) ?_
    rotate_left
    · intro w hSw
      try dsimp only at hSw
      obtain ⟨q1, q2⟩ := hSw
      go_simp
      all_goals with_reducible rfl
    try simp only [Act.put, List.setIfInBounds_toArray, List.set_cons_zero, List.set_cons_succ]
    refine wpAnyH_ready (rs := [10]) (by kernel_rfl) (by simp) ?_
    refine AllReadyH.cons (o := { dst := some 3, op := Go.Op.alloc 40, type := 0, pos := "link.go:44", after := #[], guard := none }) rfl (fun K hK => ?_) ?_
    · go_simp
      refine hK.out _ _ ?_ (fun hH => ?_)
      · exact ⟨d0, d5⟩
      clear hK K
      try simp only [Act.put, List.setIfInBounds_toArray, List.set_cons_zero, List.set_cons_succ]
      refine wpAnyH_ready (rs := [11]) (by kernel_rfl) (by simp) ?_
      refine AllReadyH.cons (o := { dst := none, op := Go.Op.store 40 (Go.Operand.tmp 3) (Go.Operand.tmp 22), type := 0, pos := "link.go:44", after := #[{ on := 10, ground := Go.Ground.data }, { on := 9, ground := Go.Ground.data }, { on := 8, ground := Go.Ground.chain }, { on := 0, ground := Go.Ground.phase }, { on := 1, ground := Go.Ground.phase }, { on := 2, ground := Go.Ground.phase }, { on := 3, ground := Go.Ground.phase }, { on := 4, ground := Go.Ground.phase }, { on := 5, ground := Go.Ground.phase }, { on := 6, ground := Go.Ground.phase }, { on := 7, ground := Go.Ground.phase }, { on := 8, ground := Go.Ground.phase }, { on := 9, ground := Go.Ground.phase }, { on := 10, ground := Go.Ground.phase }], guard := none }) rfl (fun K hK => ?_) ?_
      · go_simp
        refine hK.out _ _ ?_ (fun hH => ?_)
        · exact ⟨e0, e5⟩
        clear hK K
        try simp only [Act.put, List.setIfInBounds_toArray, List.set_cons_zero, List.set_cons_succ]
        refine wpAnyH_done (by kernel_rfl) ?_ _
        obtain ⟨Y, hY⟩ : ∃ Y, (w.alloc (.cells #[.int .i64 ep, .int .i64 0, .int .i64 A, .string ⟨#[]⟩] 40)).drew = Y := ⟨_, rfl⟩
        obtain ⟨HX, HF, HB, hlt⟩ := HP.out Y hY
        rw [hY]
        clear hY HP HACK R0 R1 c0 c5 d0 d5 e0 e5
        generalize hH : w.heap.size = H at *
        have HHW := Lib.hid hH
        clear hH
        have y4 := HX.out.blk.c4
        go_wp2_with fail
        refine (pieces_any Y HX.out.sn).mono ?_
        rintro e y2 ⟨a', c', rfl, hrow, hb⟩
        obtain ⟨i0, hi, hz, hs, hby⟩ := infoF
        have hl : ds.length ≤ 16 := by have := HX.out.sn.ok.len; have := HX.out.sn.ok.w2; simp only at *; omega
        have k2 : ((ds.length : Int) == 0) = false := beq_eq_false_iff_ne.2 (by omega)
        have k3 : decide ((ds.length : Int) = 0) = false := decide_eq_false (by omega)
        have HF2 := Lib.hid (HF.out.same (hb.block H HF.out.lt))
        have HB2 := Lib.hid (HB.out.trans (hb.mono (Nat.le_of_lt hlt)))
        have HLE := Lib.hid (Nat.le_trans (Nat.le_of_lt hlt) hb.size)
        have HR := Lib.hid (RowP.lower hrow (Nat.le_of_lt hlt))
        have HLT := Lib.hid (show H < y2.heap.size from Nat.lt_of_lt_of_le hlt hb.size)
        clear hrow hb HB HF HX
        go_wp2_with (at_make; refine wpList_make_full _ rfl _ _ 54 rfl y2.heap.size 40 i0 _ 4 Tryd.underlying54 hi hz (by rw [hs]) .i64 .i64 (ds.length : Int) (ds.length : Int) ds.length rfl rfl rfl rfl (by rw [hby]; omega) (by unfold maxLen; omega) (Nat.le_refl _) ?_)
        intro w1 hown hgr
        have HL : Hid (FL H w w1 H y2.heap.size ep A k ds a' c' 0 0 ⟨#[]⟩) := Lib.hid ⟨HB2.out.trans ((belowOf hgr).mono HLE.out), Nat.le_trans HLE.out hgr.size, HR.out.below (belowOf hgr), HF2.out.same (hgr.block H HLT.out (by simp)), ⟨_, owns_lower hown HLE.out, fun j hj => absurd hj (by omega)⟩, Nat.ne_of_lt HLT.out, Nat.le_refl _⟩
        clear hown hgr hi hz hs hby HR HF2 HB2 HLT y4
        go_wp2_with fail
        generalize y2.heap.size = g at HL ⊢
        go_loopw [38] (fun v38 wr => ∃ i : Nat, i ≤ ds.length ∧ v38 = .int .i64 i ∧ ∃ s d, FL H w wr H g ep A k ds a' c' i s d) (fun v38 _ => ds.length - (intOf v38).toNat)
        case atStart => exact ⟨0, Nat.zero_le _, rfl, _, _, HL.out⟩
        case round =>
          obtain ⟨i, hi, rfl, s, d, hfl⟩ := hrel
          clear HL
          by_cases hlt : i < ds.length
          · obtain ⟨gp, rfl, hgB, hgl, d0, d1, _⟩ := hfl.pcs.cells i hlt
            obtain ⟨x, hx⟩ : ∃ x, ds.getD i emp = x := ⟨_, rfl⟩
            obtain ⟨Q1, hQ1⟩ : ∃ Q : Int, ((k + i + 1 : Nat) : Int) = Q := ⟨_, rfl⟩
            rw [hx] at d1
            rw [hQ1] at d0
            have HX := Lib.hid hx
            have HQ := Lib.hid hQ1
            have HL := Lib.hid (hfl.next (Joins.below_alloc1 wr (.cells #[.int .i64 Q1, .string x] 96)))
            clear hfl hx hQ1
            go_wp2_with fail
            have hf := HL.out.fb
            have e0 := hf.c0
            have e1 := hf.c1
            have e2 := hf.c2
            have e3 := hf.c3
            have f1 := hf.f0 1
            have f3 := hf.f0 3
            clear hf d0 d1
            have HP : Hid (∀ W : World, (((wr.alloc (.cells #[.int .i64 Q1, .string x] 96)).setCell ⟨H, 1, none⟩ (.int .i64 Q1)).setCell ⟨H, 3, none⟩ (.string x)).drew = W → FL H w W H g ep A k ds (some ⟨gp, 0, none⟩) c' i Q1 x) := Lib.hid (by
              rintro W rfl
              exact ((HL.out.set1 Q1).set3 x).asit rfl rfl rfl rfl)
            clear HL
            go_region
            obtain ⟨W, hW⟩ : ∃ W, (((wr.alloc (.cells #[.int .i64 Q1, .string x] 96)).setCell ⟨H, 1, none⟩ (.int .i64 Q1)).setCell ⟨H, 3, none⟩ (.string x)).drew = W := ⟨_, rfl⟩
            have hl2 := HP.out W hW
            rw [hW]
            have HL := Lib.hid hl2
            have e0 := hl2.fb.c0
            have e1 := hl2.fb.c1
            have e2 := hl2.fb.c2
            have e3 := hl2.fb.c3
            obtain ⟨m0, z0⟩ := hl2.cell (i * 4) (by omega)
            obtain ⟨m1, z1⟩ := hl2.cell (i * 4 + 1) (by omega)
            obtain ⟨m2, z2⟩ := hl2.cell (i * 4 + 2) (by omega)
            obtain ⟨m3, z3⟩ := hl2.cell (i * 4 + 3) (by omega)
            have y0 := hl2.fro (i * 4)
            have y1 := hl2.fro (i * 4 + 1)
            have y2 := hl2.fro (i * 4 + 2)
            have y3 := hl2.fro (i * 4 + 3)
            clear hl2 hW HP f1 f3
            go_wp2
            go_roundw
            case rel => exact ⟨i + 1, by omega, by go_num, _, _, HL.out.store hlt HQ.out.symm HX.out.symm⟩
            case measure => simp [intOf]; omega
          · obtain rfl : i = ds.length := by omega
            have HL := Lib.hid hfl
            clear hfl
            go_wp2
            go_ret
            exact ⟨_, _, rfl, by rw [HHW.out]; exact HL.out.row, by rw [HHW.out]; exact HL.out.bel⟩
      exact AllReadyH.nil
    exact AllReadyH.nil
  refine AllReadyH.cons (o := { dst := some 3, op := Go.Op.alloc 40, type := 0, pos := "link.go:44", after := #[], guard := none }) rfl (fun K hK => ?_) ?_
  · go_simp
    refine hK.out _ _ ?_ (fun hH => ?_)
    · exact ⟨d0, d5⟩
    clear hK K
    try simp only [Act.put, List.setIfInBounds_toArray, List.set_cons_zero, List.set_cons_succ]
    refine wpAnyH_ready (rs := [8]) (by kernel_rfl) (by simp) ?_
    refine AllReadyH.cons (o := { dst := some 21, op := Go.Op.call { callee := Go.Callee.value (Go.Operand.func 46), args := #[Go.Operand.tmp 20], argTypes := #[71] }, type := 3, pos := "link.go:44", after := #[{ on := 7, ground := Go.Ground.data }], guard := none }) rfl (fun K hK => ?_) ?_
    · go_simp
      refine (HACK _ R1.out).out.mono ?_
      rintro e y1 ⟨rfl, rfl⟩
      go_wp2_with fail
      refine hK.out _ _ ?_ (fun hH => ?_)
      · exact ⟨d0, d5⟩
      clear hK K
      try simp only [Act.put, List.setIfInBounds_toArray, List.set_cons_zero, List.set_cons_succ]
      refine wpAnyH_take (i := 9) (oi := { dst := some 22, op := Go.Op.build 40 #[(0, Go.Operand.tmp 16), (2, Go.Operand.tmp 21)], type := 40, pos := "link.go:44", after := #[{ on := 3, ground := Go.Ground.data }, { on := 8, ground := Go.Ground.data }], guard := none }) (v := ?_) rfl (by kernel_rfl) (by kernel_rfl) (by kernel_rfl) (fun _ _ _ h => h) (Or.inl ⟨by rfl, ?_⟩) (by assumption) ?_
      rotate_left
      · intro w hSw
        try dsimp only at hSw
        obtain ⟨q1, q2⟩ := hSw
        go_simp
        all_goals with_reducible rfl
      try simp only [Act.put, List.setIfInBounds_toArray, List.set_cons_zero, List.set_cons_succ]
      refine wpAnyH_ready (rs := [11]) (by kernel_rfl) (by simp) ?_
      refine AllReadyH.cons (o := { dst := none, op := Go.Op.store 40 (Go.Operand.tmp 3) (Go.Operand.tmp 22), type := 0, pos := "link.go:44", after := #[{ on := 10, ground := Go.Ground.data }, { on := 9, ground := Go.Ground.data }, { on := 8, ground := Go.Ground.chain }, { on := 0, ground := Go.Ground.phase }, { on := 1, ground := Go.Ground.phase }, { on := 2, ground := Go.Ground.phase }, { on := 3, ground := Go.Ground.phase }, { on := 4, ground := Go.Ground.phase }, { on := 5, ground := Go.Ground.phase }, { on := 6, ground := Go.Ground.phase }, { on := 7, ground := Go.Ground.phase }, { on := 8, ground := Go.Ground.phase }, { on := 9, ground := Go.Ground.phase }, { on := 10, ground := Go.Ground.phase }], guard := none }) rfl (fun K hK => ?_) ?_
      · go_simp
        refine hK.out _ _ ?_ (fun hH => ?_)
        · exact ⟨e0, e5⟩
        clear hK K
        try simp only [Act.put, List.setIfInBounds_toArray, List.set_cons_zero, List.set_cons_succ]
        refine wpAnyH_done (by kernel_rfl) ?_ _
        obtain ⟨Y, hY⟩ : ∃ Y, (w.alloc (.cells #[.int .i64 ep, .int .i64 0, .int .i64 A, .string ⟨#[]⟩] 40)).drew = Y := ⟨_, rfl⟩
        obtain ⟨HX, HF, HB, hlt⟩ := HP.out Y hY
        rw [hY]
        clear hY HP HACK R0 R1 c0 c5 d0 d5 e0 e5
        generalize hH : w.heap.size = H at *
        have HHW := Lib.hid hH
        clear hH
        have y4 := HX.out.blk.c4
        go_wp2_with fail
        refine (pieces_any Y HX.out.sn).mono ?_
        rintro e y2 ⟨a', c', rfl, hrow, hb⟩
        obtain ⟨i0, hi, hz, hs, hby⟩ := infoF
        have hl : ds.length ≤ 16 := by have := HX.out.sn.ok.len; have := HX.out.sn.ok.w2; simp only at *; omega
        have k2 : ((ds.length : Int) == 0) = false := beq_eq_false_iff_ne.2 (by omega)
        have k3 : decide ((ds.length : Int) = 0) = false := decide_eq_false (by omega)
        have HF2 := Lib.hid (HF.out.same (hb.block H HF.out.lt))
        have HB2 := Lib.hid (HB.out.trans (hb.mono (Nat.le_of_lt hlt)))
        have HLE := Lib.hid (Nat.le_trans (Nat.le_of_lt hlt) hb.size)
        have HR := Lib.hid (RowP.lower hrow (Nat.le_of_lt hlt))
        have HLT := Lib.hid (show H < y2.heap.size from Nat.lt_of_lt_of_le hlt hb.size)
        clear hrow hb HB HF HX
        go_wp2_with (at_make; refine wpList_make_full _ rfl _ _ 54 rfl y2.heap.size 40 i0 _ 4 Tryd.underlying54 hi hz (by rw [hs]) .i64 .i64 (ds.length : Int) (ds.length : Int) ds.length rfl rfl rfl rfl (by rw [hby]; omega) (by unfold maxLen; omega) (Nat.le_refl _) ?_)
        intro w1 hown hgr
        have HL : Hid (FL H w w1 H y2.heap.size ep A k ds a' c' 0 0 ⟨#[]⟩) := Lib.hid ⟨HB2.out.trans ((belowOf hgr).mono HLE.out), Nat.le_trans HLE.out hgr.size, HR.out.below (belowOf hgr), HF2.out.same (hgr.block H HLT.out (by simp)), ⟨_, owns_lower hown HLE.out, fun j hj => absurd hj (by omega)⟩, Nat.ne_of_lt HLT.out, Nat.le_refl _⟩
        clear hown hgr hi hz hs hby HR HF2 HB2 HLT y4
        go_wp2_with fail
        generalize y2.heap.size = g at HL ⊢
        go_loopw [38] (fun v38 wr => ∃ i : Nat, i ≤ ds.length ∧ v38 = .int .i64 i ∧ ∃ s d, FL H w wr H g ep A k ds a' c' i s d) (fun v38 _ => ds.length - (intOf v38).toNat)
        case atStart => exact ⟨0, Nat.zero_le _, rfl, _, _, HL.out⟩
        case round =>
          obtain ⟨i, hi, rfl, s, d, hfl⟩ := hrel
          clear HL
          by_cases hlt : i < ds.length
          · obtain ⟨gp, rfl, hgB, hgl, d0, d1, _⟩ := hfl.pcs.cells i hlt
            obtain ⟨x, hx⟩ : ∃ x, ds.getD i emp = x := ⟨_, rfl⟩
            obtain ⟨Q1, hQ1⟩ : ∃ Q : Int, ((k + i + 1 : Nat) : Int) = Q := ⟨_, rfl⟩
            rw [hx] at d1
            rw [hQ1] at d0
            have HX := Lib.hid hx
            have HQ := Lib.hid hQ1
            have HL := Lib.hid (hfl.next (Joins.below_alloc1 wr (.cells #[.int .i64 Q1, .string x] 96)))
            clear hfl hx hQ1
            go_wp2_with fail
            have hf := HL.out.fb
            have e0 := hf.c0
            have e1 := hf.c1
            have e2 := hf.c2
            have e3 := hf.c3
            have f1 := hf.f0 1
            have f3 := hf.f0 3
            clear hf d0 d1
            have HP : Hid (∀ W : World, (((wr.alloc (.cells #[.int .i64 Q1, .string x] 96)).setCell ⟨H, 1, none⟩ (.int .i64 Q1)).setCell ⟨H, 3, none⟩ (.string x)).drew = W → FL H w W H g ep A k ds (some ⟨gp, 0, none⟩) c' i Q1 x) := Lib.hid (by
              rintro W rfl
              exact ((HL.out.set1 Q1).set3 x).asit rfl rfl rfl rfl)
            clear HL
            go_region
            obtain ⟨W, hW⟩ : ∃ W, (((wr.alloc (.cells #[.int .i64 Q1, .string x] 96)).setCell ⟨H, 1, none⟩ (.int .i64 Q1)).setCell ⟨H, 3, none⟩ (.string x)).drew = W := ⟨_, rfl⟩
            have hl2 := HP.out W hW
            rw [hW]
            have HL := Lib.hid hl2
            have e0 := hl2.fb.c0
            have e1 := hl2.fb.c1
            have e2 := hl2.fb.c2
            have e3 := hl2.fb.c3
            obtain ⟨m0, z0⟩ := hl2.cell (i * 4) (by omega)
            obtain ⟨m1, z1⟩ := hl2.cell (i * 4 + 1) (by omega)
            obtain ⟨m2, z2⟩ := hl2.cell (i * 4 + 2) (by omega)
            obtain ⟨m3, z3⟩ := hl2.cell (i * 4 + 3) (by omega)
            have y0 := hl2.fro (i * 4)
            have y1 := hl2.fro (i * 4 + 1)
            have y2 := hl2.fro (i * 4 + 2)
            have y3 := hl2.fro (i * 4 + 3)
            clear hl2 hW HP f1 f3
            go_wp2
            go_roundw
            case rel => exact ⟨i + 1, by omega, by go_num, _, _, HL.out.store hlt HQ.out.symm HX.out.symm⟩
            case measure => simp [intOf]; omega
          · obtain rfl : i = ds.length := by omega
            have HL := Lib.hid hfl
            clear hfl
            go_wp2
            go_ret
            exact ⟨_, _, rfl, by rw [HHW.out]; exact HL.out.row, by rw [HHW.out]; exact HL.out.bel⟩
      exact AllReadyH.nil
    exact AllReadyH.nil
  exact AllReadyH.nil
theorem lframes_any {B b bs br : Nat} {v : Value} {L : List ByteArray} {E : En} (w : World) (h : Lx B w b bs v br L E) :
    Calls Tryd.prog 23 #[.pointer (some ⟨b, 0, none⟩)] w fun e w' => ∃ a c, e = .returned (.slice a E.frames.length c) ∧ RowF w.heap.size w' (.slice a E.frames.length c) E.frames ∧ Below w.heap.size w w' := by
  unfold En.frames
  by_cases h0 : E.ep = 0
  · simp only [if_pos h0]
    refine (frames_zero h0 w h).mono ?_
    rintro e w1 ⟨rfl, rfl⟩
    exact ⟨none, 0, rfl, rowF_nil _ _, Below.refl _ _⟩
  by_cases hd : E.ds.length = 0
  · simp only [if_neg h0, if_pos hd]
    exact frames_none h0 hd w h
  · simp only [if_neg h0, if_neg hd, frs_len]
    exact frames_some h0 hd w h
end Go.Proofs.YtjmkdgjdemndaaaDoor.K
