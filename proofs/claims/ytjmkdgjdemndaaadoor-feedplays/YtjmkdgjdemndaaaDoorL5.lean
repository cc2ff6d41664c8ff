import Derived.Test.YtjmkdgjdemndaaaDoorL1
import Derived.Test.YtjmkdgjdemndaaaDoorL4
/- Frames; rows of frames that grow. -/
namespace Go.Proofs.YtjmkdgjdemndaaaDoor.K
open Go Go.RowKit
set_option maxRecDepth 20000
/-- A frame: its epoch, its number, its acknowledgement, its data. -/
abbrev Fra := Int × Int × Int × ByteArray
def fr0 : Fra := (0, 0, 0, emp)
def c4F (f : Fra) : List Value := [.int .i64 f.1, .int .i64 f.2.1, .int .i64 f.2.2.1, .string f.2.2.2]
def flF (fs : List Fra) : List Value := fs.flatMap c4F
theorem flF_cons (f : Fra) (fs : List Fra) : flF (f :: fs) = c4F f ++ flF fs := rfl
theorem flF_app (fs gs : List Fra) : flF (fs ++ gs) = flF fs ++ flF gs := by simp [flF]
theorem flF_len (fs : List Fra) : (flF fs).length = fs.length * 4 := by
  induction fs with
  | nil => rfl
  | cons u l ih =>
    have hl : (c4F u).length = 4 := rfl
    rw [flF_cons, List.length_append, ih, hl, List.length_cons]
    omega
theorem flF_one (fs : List Fra) : ∀ u ∈ flF fs, u.oneCell' = true := by
  intro u hu
  simp only [flF, List.mem_flatMap, c4F, List.mem_cons, List.not_mem_nil, or_false] at hu
  obtain ⟨f, _, rfl | rfl | rfl | rfl⟩ := hu <;> rfl
theorem flF_get : ∀ (fs : List Fra) (i r : Nat), i < fs.length → r < 4 → (flF fs)[i * 4 + r]? = (c4F (fs.getD i fr0))[r]?
  | [], i, r, h, _ => absurd h (by simp)
  | u :: us, 0, r, _, hr => by
    rw [flF_cons, Nat.zero_mul, Nat.zero_add, List.getElem?_append_left (by show r < 4; exact hr)]
    rfl
  | u :: us, i + 1, r, h, hr => by
    have hl : (c4F u).length = 4 := rfl
    rw [flF_cons, List.getElem?_append_right (by rw [hl]; omega), hl, show (i + 1) * 4 + r - 4 = i * 4 + r by omega, flF_get us i r (by simpa using h) hr]
    rfl
theorem eltF : Elt 54 40 4 := elt_of (bytes := 40) Tryd.underlying54 (by kernel_rfl) (by kernel_rfl) (by decide) (by decide)
/-- The four cells of a frame lie there. -/
structure F4 (w : World) (b o : Nat) (f : Fra) : Prop where
  e : w.cell? ⟨b, o, none⟩ = some (.int .i64 f.1)
  s : w.cell? ⟨b, o + 1, none⟩ = some (.int .i64 f.2.1)
  a : w.cell? ⟨b, o + 2, none⟩ = some (.int .i64 f.2.2.1)
  d : w.cell? ⟨b, o + 3, none⟩ = some (.string f.2.2.2)
theorem F4.kept {w w' : World} {b o : Nat} {f : Fra} (h : F4 w b o f) (hb : w'.heap[b]? = w.heap[b]?) : F4 w' b o f := by
  obtain ⟨h1, h2, h3, h4⟩ := h
  constructor <;> (unfold World.cell? at *; rw [hb]; assumption)
theorem F4.below {w w' : World} {B b o : Nat} {f : Fra} (h : F4 w b o f) (hb : Below B w w') (hl : b < B) : F4 w' b o f := h.kept (hb.block b hl)
/-- The cells of frames lie there. -/
structure FsAt (w : World) (a : Option Addr) (len : Nat) (fs : List Fra) : Prop where
  size : fs.length = len
  lies : 0 < len → ∃ b off, a = some ⟨b, off, none⟩ ∧ b < w.heap.size ∧ ∀ i, i < len → F4 w b (off + i * 4) (fs.getD i fr0)
theorem fsAt_below {w w' : World} {B : Nat} {a : Option Addr} {len : Nat} {fs : List Fra} (h : FsAt w a len fs) (hb : Below B w w') (hB : w.heap.size ≤ B := by exact Nat.le_refl _) : FsAt w' a len fs :=
  ⟨h.size, fun h0 => by
    obtain ⟨b, off, e, hl, hf⟩ := h.lies h0
    exact ⟨b, off, e, by have := hb.size; omega, fun i hi => (hf i hi).below hb (by omega)⟩⟩
theorem FsAt.asit {w w' : World} {a : Option Addr} {len : Nat} {fs : List Fra} (h : FsAt w a len fs) (e : w'.heap = w.heap) : FsAt w' a len fs :=
  ⟨h.size, fun h0 => by
    obtain ⟨b, off, e1, hl, hf⟩ := h.lies h0
    exact ⟨b, off, e1, by rw [e]; exact hl, fun i hi => (hf i hi).kept (by rw [e])⟩⟩
theorem fsAt_news {w : World} {ad : Addr} {len : Nat} {fs : List Fra} (h : FsAt w (some ad) len fs) : ∀ j v, (flF fs)[j]? = some v → w.cell? (ad.add j) = some v := by
  intro j v hj
  have hs := h.size
  have hjl : j < fs.length * 4 := by
    have := (List.getElem?_eq_some_iff.1 hj).1
    rw [flF_len] at this
    exact this
  obtain ⟨b, off, e, _, hf⟩ := h.lies (by omega)
  simp only [Option.some.injEq] at e
  subst e
  have hi := hf (j / 4) (by omega)
  have hg := flF_get fs (j / 4) (j % 4) (by omega) (by omega)
  rw [show j / 4 * 4 + j % 4 = j by omega, hj] at hg
  rw [Go.WideShapes.add_plain]
  have hj4 : off + j = off + j / 4 * 4 + j % 4 := by omega
  rw [hj4, hg]
  rcases (show j % 4 = 0 ∨ j % 4 = 1 ∨ j % 4 = 2 ∨ j % 4 = 3 by omega) with h0 | h0 | h0 | h0 <;> rw [h0]
  · exact hi.e
  · exact hi.s
  · exact hi.a
  · exact hi.d
/-- A row of frames of the call's own. -/
def RowF (B : Nat) (w : World) (v : Value) (fs : List Fra) : Prop := w.ownsRow B 40 4 v fs.length (flF fs)
theorem RowF.f4 {B w g c fs} (h : RowF B w (.slice (some ⟨g, 0, none⟩) fs.length c) fs) (i : Nat) (hi : i < fs.length) : F4 w g (i * 4) (fs.getD i fr0) := by
  have k0 := World.ownsRow.cellAt h (i * 4) (by omega)
  have k1 := World.ownsRow.cellAt h (i * 4 + 1) (by omega)
  have k2 := World.ownsRow.cellAt h (i * 4 + 2) (by omega)
  have k3 := World.ownsRow.cellAt h (i * 4 + 3) (by omega)
  rw [flF_get fs i 1 hi (by decide)] at k1
  rw [flF_get fs i 2 hi (by decide)] at k2
  rw [flF_get fs i 3 hi (by decide)] at k3
  have hg := flF_get fs i 0 hi (by decide)
  rw [Nat.add_zero] at hg
  rw [hg] at k0
  exact ⟨k0, k1, k2, k3⟩
theorem RowF.is {B w v fs} (h : RowF B w v fs) : ∃ a c, v = .slice a fs.length c ∧ FsAt w a fs.length fs ∧ fs.length ≤ c ∧ (a = none → c = 0) := by
  rcases h.2 with ⟨rfl, h0⟩ | ⟨g, cap, cur, rfl, _, hg, hc, _⟩
  · rw [h0]; exact ⟨none, 0, rfl, ⟨h0, fun hx => absurd hx (Nat.lt_irrefl _)⟩, Nat.le_refl _, fun _ => rfl⟩
  · refine ⟨some ⟨g, 0, none⟩, cap, rfl, ⟨rfl, fun _ => ⟨g, 0, rfl, (Array.getElem?_eq_some_iff.1 hg).1, fun i hi => ?_⟩⟩, hc, fun e => by cases e⟩
    rw [Nat.zero_add]
    exact RowF.f4 h i hi
theorem RowF.isF {B w a n c fs} (h : RowF B w (.slice a n c) fs) (hn : n = fs.length) : FsAt w a n fs ∧ n ≤ c ∧ (a = none → c = 0) := by
  subst hn
  obtain ⟨a', c', e, hi, h1, h2⟩ := h.is
  cases e
  exact ⟨hi, h1, h2⟩
theorem rowF_nil (B : Nat) (w : World) : RowF B w (.slice none 0 0) [] := World.ownsRow_nil w B _ _
theorem RowF.lt {B w v fs} (h : RowF B w v fs) (j : Nat) (hj : v.ownBlock = some j) : B ≤ j ∧ j < w.heap.size := World.ownsRow.lt h j hj
theorem RowF.typ {B w v fs} (h : RowF B w v fs) (j : Nat) (hj : v.ownBlock = some j) : ∃ cur, w.heap[j]? = some (.cells cur 40 (0, 0)) := by
  rcases h.2 with ⟨rfl, _⟩ | ⟨g, cap, cur, rfl, _, hg, _⟩
  · cases hj
  · simp only [Value.ownBlock, Option.some.injEq] at hj
    subst hj
    exact ⟨cur, hg⟩
theorem RowF.kept {B w w1 v fs} (h : RowF B w v fs) {row : Option Nat} (hg : w.grownBy w1 row) (hne : v.ownBlock = none ∨ v.ownBlock ≠ row) : RowF B w1 v fs := World.ownsRow.kept h hg hne
theorem RowF.below {B w w1 v fs} (h : RowF B w v fs) (hb : Below w.heap.size w w1) : RowF B w1 v fs := h.kept (grownOf none hb) (Classical.em _)
theorem RowF.alloc {B w v fs} (h : RowF B w v fs) (o : Obj) : RowF B (w.alloc o) v fs := World.ownsRow.alloc h o
theorem RowF.same {B w w' v fs} (h : RowF B w v fs) (hv : ∀ j, v.ownBlock = some j → w'.heap[j]? = w.heap[j]?) : RowF B w' v fs := by
  obtain ⟨h1, h2⟩ := h
  refine ⟨h1, ?_⟩
  rcases h2 with h2 | ⟨g, cap, cur, rfl, hb, hg, r⟩
  · exact .inl h2
  · exact .inr ⟨g, cap, cur, rfl, hb, (hv g rfl).trans hg, r⟩
theorem RowF.asit {B w w' v fs} (h : RowF B w v fs) (e : w'.heap = w.heap) : RowF B w' v fs := h.same fun j _ => by rw [e]
theorem RowF.lower {B B' w v fs} (h : RowF B w v fs) (hB : B' ≤ B) : RowF B' w v fs := by
  obtain ⟨h1, h2⟩ := h
  refine ⟨h1, ?_⟩
  rcases h2 with h0 | ⟨g, cap, cur, e, hb, r⟩
  · exact .inl h0
  · exact .inr ⟨g, cap, cur, e, by omega, r⟩
theorem rowF_new (w : World) : RowF w.heap.size (w.alloc (.cells #[] 40)) (.slice (some ⟨w.heap.size, 0, none⟩) 0 0) [] := World.ownsRow_lit w #[] 0 (Nat.le_refl _) (Nat.zero_le _) rfl
/-- A literal of one frame. -/
theorem rowF_lit (w : World) (e s a : Int) (d : ByteArray) : RowF w.heap.size (w.alloc (.cells #[.int .i64 e, .int .i64 s, .int .i64 a, .string d] 40)) (.slice (some ⟨w.heap.size, 0, none⟩) 1 1) [(e, s, a, d)] :=
  ⟨rfl, .inr ⟨w.heap.size, 1, _, rfl, Nat.le_refl _, heap_alloc_new _ _, Nat.le_refl _, by unfold maxLen; omega, rfl, rfl⟩⟩
theorem belF {B : Nat} {w w1 w2 : World} {v : Value} {fs : List Fra} (hr : RowF B w1 v fs) (h : Below B w w1) (hg : w1.grownBy w2 v.ownBlock) (hB : B ≤ w1.heap.size) : Below B w w2 := h.grown hg hB (fun j hj => (World.ownsRow.lt hr j hj).1)
theorem run_appF (w : World) (ty : TypeId) (B : Nat) (v : Value) (l : List Fra) (hrow : RowF B w v l) (ax : Option Addr) (len cx : Nat) (us : List Fra) (hu : FsAt w ax len us) (hc : len ≤ cx) (hn : ax = none → cx = 0) (hb : l.length + len ≤ 1000000) (hB : B ≤ w.heap.size) :
    ∃ a' c' w', (Builtin.append_ #[54, 54] ty #[v, .slice ax len cx]).run Tryd.prog w = .ok (.slice a' (l.length + len) c') w' ∧ RowF B w' (.slice a' (l.length + len) c') (l ++ us) ∧ w.grownBy w' v.ownBlock ∧ ((Value.slice a' (l.length + len) c').ownBlock = v.ownBlock ∨ (Value.slice a' (l.length + len) c').ownBlock = some w.heap.size) := by
  obtain ⟨v', w', h1, h2, h3, h4⟩ := run_app eltF w ty B v l.length (flF l) hrow ax len cx (flF us) (by rw [flF_len, hu.size]) (fun ad e => by subst e; exact fsAt_news hu) (flF_one us) hc hn hb hB
  have hr : RowF B w' v' (l ++ us) := by
    unfold RowF
    rw [List.length_append, hu.size, flF_app]
    exact h2
  obtain ⟨a', c', e, _⟩ := hr.is
  rw [List.length_append, hu.size] at e
  subst e
  exact ⟨a', c', w', h1, hr, h3, h4⟩
theorem wpList_appF {ops : Array Oper} {rest : List Oper} {o : Oper} {a : Act} {Q : Exit → Act → World → Prop} {w : World} (hgd : o.guard = none) (s x : Operand)
    (ho : o.op = .call { callee := .builtin .append, args := #[s, x], argTypes := #[54, 54] })
    (B : Nat) (v : Value) (l : List Fra) (hs : a.eval s = v) (hrow : RowF B w v l) (ax : Option Addr) (len cx : Nat) (hx : a.eval x = .slice ax len cx) (us : List Fra) (hu : FsAt w ax len us) (hc : len ≤ cx) (hn : ax = none → cx = 0) (hb : l.length + len ≤ 1000000) (hB : B ≤ w.heap.size)
    (h : ∀ a' c' w', RowF B w' (.slice a' (l.length + len) c') (l ++ us) → w.grownBy w' v.ownBlock → ((Value.slice a' (l.length + len) c').ownBlock = v.ownBlock ∨ (Value.slice a' (l.length + len) c').ownBlock = some w.heap.size) → wpList Tryd.prog ops Q rest (a.put o.dst (.slice a' (l.length + len) c')) w') :
    wpList Tryd.prog ops Q (o :: rest) a w := by
  refine wpList_plain hgd fun K hK => ?_
  obtain ⟨a', c', w', hr, h2, h3, h4⟩ := run_appF w o.type B v l hrow ax len cx us hu hc hn hb hB
  unfold Oper.wp execOp
  simp only [ho, resolve, invoke, builtin, Sem.run_bind, Sem.run_pure, Result.andThen_ok, List.map_toArray, List.map_cons, List.map_nil, hs, hx, hr]
  exact hK _ _ (h a' c' w' h2 h3 h4)
theorem step_appF {ops : Array Oper} {o : Oper} {a : Act} {K : Act → World → Prop} {Q : Exit → Act → World → Prop} {E : Prop} {w : World} (hw : Region.wanted o (yielded ops a.tmps) = true) (s x : Operand)
    (ho : o.op = .call { callee := .builtin .append, args := #[s, x], argTypes := #[54, 54] })
    (B : Nat) (v : Value) (l : List Fra) (hs : a.eval s = v) (hrow : RowF B w v l) (ax : Option Addr) (len cx : Nat) (hx : a.eval x = .slice ax len cx) (us : List Fra) (hu : FsAt w ax len us) (hc : len ≤ cx) (hn : ax = none → cx = 0) (hb : l.length + len ≤ 1000000) (hB : B ≤ w.heap.size)
    (h : ∀ a' c' w', RowF B w' (.slice a' (l.length + len) c') (l ++ us) → w.grownBy w' v.ownBlock → ((Value.slice a' (l.length + len) c').ownBlock = v.ownBlock ∨ (Value.slice a' (l.length + len) c').ownBlock = some w.heap.size) → K (a.put o.dst (.slice a' (l.length + len) c')) w') :
    if Region.wanted o (yielded ops a.tmps) = true then Oper.wp Tryd.prog o a w K Q else E := by
  rw [if_pos hw]
  obtain ⟨a', c', w', hr, h2, h3, h4⟩ := run_appF w o.type B v l hrow ax len cx us hu hc hn hb hB
  unfold Oper.wp execOp
  simp only [ho, resolve, invoke, builtin, Sem.run_bind, Sem.run_pure, Result.andThen_ok, List.map_toArray, List.map_cons, List.map_nil, hs, hx, hr]
  exact h a' c' w' h2 h3 h4
/-- One frame laid as a row. -/
theorem fsAt_one (w : World) (e s a : Int) (d : ByteArray) : FsAt (w.alloc (.cells #[.int .i64 e, .int .i64 s, .int .i64 a, .string d] 40)) (some ⟨w.heap.size, 0, none⟩) 1 [(e, s, a, d)] := ((rowF_lit w e s a d).isF rfl).1
end Go.Proofs.YtjmkdgjdemndaaaDoor.K
/- An end, as it lies there; begin, New, Epoch, Offer. -/
namespace Go.Proofs.YtjmkdgjdemndaaaDoor.K
open Go Go.RowKit
set_option maxRecDepth 20000
/-- An end: its epoch, its bounds as they were told, passive or not; its sender's pieces ds behind k; its receiver's ps that wait behind q. -/
structure En where
  ep : Int
  wa : Int
  ra : Int
  pas : Bool
  k : Nat
  ds : List ByteArray
  q : Nat
  ps : List ByteArray
def clampE (e : Int) : Int := min (max e 0) 1099511627776
def En.fresh (E : En) (ep : Int) : En := ⟨clampE ep, E.wa, E.ra, E.pas, 0, [], 0, []⟩
/-- A block of six cells. -/
def Lb (t : TypeId) (w : World) (b : Nat) (x0 x1 x2 x3 x4 x5 : Value) : Prop := w.heap[b]? = some (.cells #[x0, x1, x2, x3, x4, x5] t (0, 0))
section
variable {t : TypeId} {w w' : World} {b : Nat} {x0 x1 x2 x3 x4 x5 : Value}
theorem Lb.c0 (h : Lb t w b x0 x1 x2 x3 x4 x5) : w.cell? ⟨b, 0, none⟩ = some x0 := cell_at h 0 _ rfl
theorem Lb.c1 (h : Lb t w b x0 x1 x2 x3 x4 x5) : w.cell? ⟨b, 1, none⟩ = some x1 := cell_at h 1 _ rfl
theorem Lb.c2 (h : Lb t w b x0 x1 x2 x3 x4 x5) : w.cell? ⟨b, 2, none⟩ = some x2 := cell_at h 2 _ rfl
theorem Lb.c3 (h : Lb t w b x0 x1 x2 x3 x4 x5) : w.cell? ⟨b, 3, none⟩ = some x3 := cell_at h 3 _ rfl
theorem Lb.c4 (h : Lb t w b x0 x1 x2 x3 x4 x5) : w.cell? ⟨b, 4, none⟩ = some x4 := cell_at h 4 _ rfl
theorem Lb.c5 (h : Lb t w b x0 x1 x2 x3 x4 x5) : w.cell? ⟨b, 5, none⟩ = some x5 := cell_at h 5 _ rfl
theorem Lb.f0 (h : Lb t w b x0 x1 x2 x3 x4 x5) (i : Nat) : w.frozen? ⟨b, i, none⟩ = false := by unfold Lb at h; simp [World.frozen?, h]
theorem Lb.lt (h : Lb t w b x0 x1 x2 x3 x4 x5) : b < w.heap.size := (Array.getElem?_eq_some_iff.1 h).1
theorem Lb.same (h : Lb t w b x0 x1 x2 x3 x4 x5) (hb : w'.heap[b]? = w.heap[b]?) : Lb t w' b x0 x1 x2 x3 x4 x5 := hb.trans h
theorem Lb.next (h : Lb t w b x0 x1 x2 x3 x4 x5) (hb : Below w.heap.size w w') : Lb t w' b x0 x1 x2 x3 x4 x5 := h.same (hb.block b h.lt)
theorem Lb.set0 (h : Lb t w b x0 x1 x2 x3 x4 x5) (y : Value) : Lb t (w.setCell ⟨b, 0, none⟩ y) b y x1 x2 x3 x4 x5 := by
  unfold Lb at *; simp [World.setCell, Array.getElem?_modify, h]
theorem Lb.set1 (h : Lb t w b x0 x1 x2 x3 x4 x5) (y : Value) : Lb t (w.setCell ⟨b, 1, none⟩ y) b x0 y x2 x3 x4 x5 := by
  unfold Lb at *; simp [World.setCell, Array.getElem?_modify, h]
theorem Lb.set2 (h : Lb t w b x0 x1 x2 x3 x4 x5) (y : Value) : Lb t (w.setCell ⟨b, 2, none⟩ y) b x0 x1 y x3 x4 x5 := by
  unfold Lb at *; simp [World.setCell, Array.getElem?_modify, h]
theorem Lb.set4 (h : Lb t w b x0 x1 x2 x3 x4 x5) (y : Value) : Lb t (w.setCell ⟨b, 4, none⟩ y) b x0 x1 x2 x3 y x5 := by
  unfold Lb at *; simp [World.setCell, Array.getElem?_modify, h]
theorem Lb.set5 (h : Lb t w b x0 x1 x2 x3 x4 x5) (y : Value) : Lb t (w.setCell ⟨b, 5, none⟩ y) b x0 x1 x2 x3 x4 y := by
  unfold Lb at *; simp [World.setCell, Array.getElem?_modify, h]
end
/-- In block b lies an end; its sender in bs, the pieces in v, its receiver in br, its ring L. -/
structure Lx (B : Nat) (w : World) (b bs : Nat) (v : Value) (br : Nat) (L : List ByteArray) (E : En) : Prop where
  lo : B ≤ b
  blk : Lb 73 w b (.int .i64 E.ep) (.int .i64 E.wa) (.int .i64 E.ra) (.bool E.pas) (.pointer (some ⟨bs, 0, none⟩)) (.pointer (some ⟨br, 0, none⟩))
  sn : Sn B w bs v (winOf E.wa) (lastOf 1125899906842624) E.k E.ds
  rv : Rcv.Rv B w br (Rcv.roomOf E.ra) E.q E.ps L
/-- The blocks of an end. -/
def ft (b bs : Nat) (v : Value) (br : Nat) (j : Nat) : Prop := j = b ∨ j = bs ∨ v.ownBlock = some j ∨ j = br
/-- What a call leaves: all but the blocks of P; what it has then is of these, or new. -/
structure Lf (w w' : World) (P P' : Nat → Prop) : Prop where
  os : w'.os = w.os
  tape : w'.tape = w.tape
  output : w'.output = w.output
  size : w.heap.size ≤ w'.heap.size
  block : ∀ j, j < w.heap.size → ¬ P j → w'.heap[j]? = w.heap[j]?
  nw : ∀ j, P' j → P j ∨ w.heap.size ≤ j
section
variable {B : Nat} {w w' : World} {b bs : Nat} {v : Value} {br : Nat} {L : List ByteArray} {E : En}
theorem Lx.same (h : Lx B w b bs v br L E) (hk : ∀ j, ft b bs v br j → w'.heap[j]? = w.heap[j]?) : Lx B w' b bs v br L E :=
  ⟨h.lo, h.blk.same (hk b (.inl rfl)), h.sn.same (hk bs (.inr (.inl rfl))) (fun j hj => hk j (.inr (.inr (.inl hj)))), h.rv.same (hk br (.inr (.inr (.inr rfl))))⟩
theorem Lx.ftlt (h : Lx B w b bs v br L E) (j : Nat) (hj : ft b bs v br j) : B ≤ j ∧ j < w.heap.size := by
  rcases hj with rfl | rfl | hj | rfl
  · exact ⟨h.lo, h.blk.lt⟩
  · exact ⟨h.sn.lo, h.sn.lt⟩
  · exact h.sn.row.lt j hj
  · exact ⟨h.rv.lo, h.rv.lt⟩
theorem Lx.next (h : Lx B w b bs v br L E) (hb : Below w.heap.size w w') : Lx B w' b bs v br L E := h.same fun j hj => hb.block j (h.ftlt j hj).2
theorem Lx.asit (h : Lx B w b bs v br L E) (e : w'.heap = w.heap) : Lx B w' b bs v br L E := h.same fun j _ => by rw [e]
theorem Lx.lower {B' : Nat} (h : Lx B w b bs v br L E) (hB : B' ≤ B) : Lx B' w b bs v br L E := ⟨Nat.le_trans hB h.lo, h.blk, h.sn.lower hB, h.rv.lower hB⟩
/-- An end's blocks are of four types. -/
theorem Lx.fty (h : Lx B w b bs v br L E) (j : Nat) (hj : ft b bs v br j) : ∃ cur t fr, w.heap[j]? = some (.cells cur t fr) ∧ (t = 73 ∨ t = 125 ∨ t = 96 ∨ t = 128) := by
  rcases hj with rfl | rfl | hj | rfl
  · exact ⟨_, _, _, h.blk, .inl rfl⟩
  · exact ⟨_, _, _, h.sn.blk, .inr (.inl rfl)⟩
  · obtain ⟨c, hc⟩ := h.sn.row.typ j hj
    exact ⟨_, _, _, hc, .inr (.inr (.inl rfl))⟩
  · exact ⟨_, _, _, h.rv.blk, .inr (.inr (.inr rfl))⟩
theorem Lx.ne1 (h : Lx B w b bs v br L E) : b ≠ bs := two_types h.blk h.sn.blk (by decide)
theorem Lx.ne2 (h : Lx B w b bs v br L E) : b ≠ br := two_types h.blk h.rv.blk (by decide)
theorem Lx.ne3 (h : Lx B w b bs v br L E) : bs ≠ br := two_types h.sn.blk h.rv.blk (by decide)
theorem Lx.ne4 (h : Lx B w b bs v br L E) : v.ownBlock ≠ some b := fun e => by
  obtain ⟨c, hc⟩ := h.sn.row.typ b e
  exact two_types hc h.blk (by decide) rfl
theorem Lx.ne5 (h : Lx B w b bs v br L E) : v.ownBlock ≠ some br := fun e => by
  obtain ⟨c, hc⟩ := h.sn.row.typ br e
  exact two_types hc h.rv.blk (by decide) rfl
/-- What a call on the sender leaves of the end. -/
theorem Lx.onSn {v' : Value} {k' : Nat} {ds' : List ByteArray} (h : Lx B w b bs v br L E) (hs : Sn B w' bs v' (winOf E.wa) (lastOf 1125899906842624) k' ds') (hf : Fr w w' bs v.ownBlock) (hn : Nw w v v') :
    Lx B w' b bs v' br L { E with k := k', ds := ds' } ∧ Lf w w' (ft b bs v br) (ft b bs v' br) := by
  refine ⟨⟨h.lo, h.blk.same (hf.block b h.blk.lt h.ne1 (fun e => h.ne4 e.symm)), hs, h.rv.same (hf.block br h.rv.lt (fun e => h.ne3 e.symm) (fun e => h.ne5 e.symm))⟩, hf.os, hf.tape, hf.output, hf.size, fun j hj hp => hf.block j hj (fun e => hp (.inr (.inl e))) (fun e => hp (.inr (.inr (.inl e.symm)))), fun j hj => ?_⟩
  rcases hj with rfl | rfl | hj | rfl
  · exact .inl (.inl rfl)
  · exact .inl (.inr (.inl rfl))
  · exact (hn j hj).imp (fun h => .inr (.inr (.inl h))) id
  · exact .inl (.inr (.inr (.inr rfl)))
/-- What a call on the receiver leaves of the end. -/
theorem Lx.onRv {q' : Nat} {ps' L' : List ByteArray} (h : Lx B w b bs v br L E) (hr : Rcv.Rv B w' br (Rcv.roomOf E.ra) q' ps' L') (hg : w.grownBy w' (some br)) :
    Lx B w' b bs v br L' { E with q := q', ps := ps' } ∧ Lf w w' (ft b bs v br) (ft b bs v br) := by
  refine ⟨⟨h.lo, h.blk.same (hg.block b h.blk.lt (fun e => h.ne2 (by simpa using e))), h.sn.same (hg.block bs h.sn.lt (fun e => h.ne3 (by simpa using e))) (fun j hj => hg.block j (h.sn.row.lt j hj).2 (fun e => h.ne5 (by rw [hj, e]))), hr⟩, hg.os, hg.tape, hg.output, hg.size, fun j hj hp => hg.block j hj (fun e => hp (.inr (.inr (.inr (by simpa using e))))), fun j hj => .inl hj⟩
theorem Lf.refl (w : World) (P : Nat → Prop) : Lf w w P P := ⟨rfl, rfl, rfl, Nat.le_refl _, fun _ _ _ => rfl, fun _ h => .inl h⟩
theorem Lf.trans {w1 w2 w3 : World} {P P' P'' : Nat → Prop} (h : Lf w1 w2 P P') (k : Lf w2 w3 P' P'') : Lf w1 w3 P P'' :=
  ⟨k.os.trans h.os, k.tape.trans h.tape, k.output.trans h.output, Nat.le_trans h.size k.size, fun j hj hp => (k.block j (Nat.lt_of_lt_of_le hj h.size) (fun hq => (h.nw j hq).elim hp (fun e => by omega))).trans (h.block j hj hp), fun j hj => (k.nw j hj).elim (fun hq => h.nw j hq) (fun e => .inr (Nat.le_trans h.size e))⟩
theorem Lf.ofBelow {P : Nat → Prop} (h : Below w.heap.size w w') : Lf w w' P P := ⟨h.os, h.tape, h.output, h.size, fun j hj _ => h.block j hj, fun _ h => .inl h⟩
theorem Lf.asit {P : Nat → Prop} (e : w'.heap = w.heap) (e1 : w'.os = w.os) (e2 : w'.tape = w.tape) (e3 : w'.output = w.output) : Lf w w' P P := .ofBelow (below_asit e e1 e2 e3)
end
set_option maxHeartbeats 1000000 in
theorem begin_any {B : Nat} {b : Nat} {e0 wa ra : Int} {pas : Bool} {s0 r0 : Value} (ep : Int) (hB : B ≤ b) (w : World) (h : Lb 73 w b (.int .i64 e0) (.int .i64 wa) (.int .i64 ra) (.bool pas) s0 r0) :
    Calls Tryd.prog 30 #[.pointer (some ⟨b, 0, none⟩), .int .i64 ep] w fun x w' => x = .returned (.tuple #[]) ∧ (∃ bs br, w.heap.size ≤ bs ∧ w.heap.size ≤ br ∧ Lx B w' b bs (.slice none 0 0) br (List.replicate 16 emp) ⟨clampE ep, wa, ra, pas, 0, [], 0, []⟩) ∧ w.grownBy w' (some b) := by
  have c0 := h.c0
  have f0 := h.f0 0
  have H := Lib.hid h
  have c1 := (h.set0 (.int .i64 (min (max ep 0) 1099511627776))).c1
  clear h
  go_enter Tryd.func30, Tryd.ntmps30
  go_wp2_with fail
  refine (new_any wa 1125899906842624 _).mono ?_
  rintro x w2 ⟨rfl, hs, hb⟩
  have h2 := (H.out.set0 (.int .i64 (min (max ep 0) 1099511627776))).next hb
  have hsz : (w.setCell ⟨b, 0, none⟩ (.int .i64 (min (max ep 0) 1099511627776))).heap.size = w.heap.size := by simp
  rw [hsz] at hs hb
  have HS := Lib.hid hs
  have HB := Lib.hid hb
  have c4 := h2.c4
  have f4 := h2.f0 4
  have h3 := h2.set4 (.pointer (some ⟨w.heap.size, 0, none⟩))
  have c2 := h3.c2
  have H3 := Lib.hid h3
  clear h2 h3 hs hb hsz
  go_wp2_with fail
  refine (Rcv.new_any ra _).mono ?_
  rintro x w4 ⟨rfl, hr, hb⟩
  have h4 := H3.out.next hb
  have hsz : (w2.setCell ⟨b, 4, none⟩ (.pointer (some ⟨w.heap.size, 0, none⟩))).heap.size = w2.heap.size := by simp
  rw [hsz] at hr hb
  have c5 := h4.c5
  have f5 := h4.f0 5
  have HR := Lib.hid hr
  have HB2 := Lib.hid hb
  have H4 := Lib.hid (h4.set5 (.pointer (some ⟨w2.heap.size, 0, none⟩)))
  have HL := Lib.hid H.out.lt
  clear h4 hr hb hsz H3
  go_wp2
  first | go_end0 | refine bodyPost_ret (results_none rfl _ _ _) rfl ?_
  have h1 : w.heap.size ≤ w2.heap.size := by have := HB.out.size; simpa using this
  have h2 : w2.heap.size ≤ w4.heap.size := by have := HB2.out.size; simpa using this
  have hl := HL.out
  have hx1 : w.heap.size ≠ b := by omega
  have hx2 : w2.heap.size ≠ b := by omega
  have g1 : w.grownBy w2 (some b) := World.grownBy.trans (grown_set w b 0 _) (grownOf (some b) (HB.out.mono (by simp)))
  have g2 : w.grownBy w4 (some b) := World.grownBy.trans (World.grownBy.trans g1 (grown_set w2 b 4 _)) (grownOf (some b) (HB2.out.mono (by simp)))
  refine ⟨rfl, ⟨w.heap.size, w2.heap.size, Nat.le_refl _, h1, ⟨hB, H4.out, ?_, ?_⟩⟩, World.grownBy.trans g2 (grown_set w4 b 5 _)⟩
  · refine (HS.out.lower (by omega)).same ?_ (fun j hj => by cases hj)
    have e1 : w4.heap[w.heap.size]? = (w2.setCell ⟨b, 4, none⟩ (.pointer (some ⟨w.heap.size, 0, none⟩))).heap[w.heap.size]? := HB2.out.block _ (HS.out.lt)
    rw [Below.heap_setCell _ _ _ _ hx1, e1, Below.heap_setCell _ _ _ _ hx1]
  · refine (HR.out.lower (by omega)).same ?_
    rw [Below.heap_setCell _ _ _ _ hx2]
set_option maxHeartbeats 1000000 in
theorem lnew_any (ep wa ra : Int) (pas : Bool) (w : World) :
    Calls Tryd.prog 8 #[.int .i64 ep, .int .i64 wa, .int .i64 ra, .bool pas] w fun x w' => x = .returned (.pointer (some ⟨w.heap.size, 0, none⟩)) ∧ (∃ bs br, Lx w.heap.size w' w.heap.size bs (.slice none 0 0) br (List.replicate 16 emp) ⟨clampE ep, wa, ra, pas, 0, [], 0, []⟩) ∧ Below w.heap.size w w' := by
  go_enter Tryd.func8, Tryd.ntmps8
  go_wp2_with fail
  refine (begin_any (B := w.heap.size) ep (Nat.le_refl _) _ (heap_alloc_new w _)).mono ?_
  rintro x w1 ⟨rfl, ⟨bs, br, _, _, hx⟩, hg⟩
  have HX := Lib.hid hx
  have HB := Lib.hid ((Joins.below_alloc1 w _).grown hg (by simp) (fun j hj => by cases hj; exact Nat.le_refl _))
  clear hx hg
  go_wp2
  go_ret
  exact ⟨rfl, ⟨bs, br, HX.out⟩, HB.out⟩
section
variable {B : Nat} {w w' : World} {b bs : Nat} {v : Value} {br : Nat} {L : List ByteArray} {E : En}
/-- An offer, and what it answers. -/
def En.off (E : En) (x : ByteArray) : En := { E with ds := offD (winOf E.wa) (lastOf 1125899906842624) E.k E.ds x }
def En.offe (E : En) : Int := offE (winOf E.wa) (lastOf 1125899906842624) E.k E.ds
set_option maxHeartbeats 1000000 in
theorem loff_any (x : ByteArray) (hx : x.size ≤ 1000) (w : World) (h : Lx B w b bs v br L E) :
    Calls Tryd.prog 63 #[.pointer (some ⟨b, 0, none⟩), .string x] w fun e w' => e = .returned (.int .i64 E.offe) ∧ ∃ v', Lx B w' b bs v' br L (E.off x) ∧ Lf w w' (ft b bs v br) (ft b bs v' br) := by
  have c4 := h.blk.c4
  have HC := Lib.hid (off_any x hx w h.sn)
  have H := Lib.hid h
  clear h
  unfold En.offe En.off
  generalize offN (winOf E.wa) (lastOf 1125899906842624) E.k E.ds = N at *
  generalize offE (winOf E.wa) (lastOf 1125899906842624) E.k E.ds = Er at *
  generalize offD (winOf E.wa) (lastOf 1125899906842624) E.k E.ds x = D at *
  go_enter Tryd.func63, Tryd.ntmps63
  go_wp2_with fail
  refine HC.out.mono ?_
  rintro e w1 ⟨rfl, v', hs, hf, hn⟩
  have HL := Lib.hid (H.out.onSn hs hf hn)
  clear hs hf hn HC c4
  go_wp2
  go_ret
  exact ⟨rfl, v', HL.out⟩
end
end Go.Proofs.YtjmkdgjdemndaaaDoor.K
