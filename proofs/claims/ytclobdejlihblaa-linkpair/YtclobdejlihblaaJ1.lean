/- Frames; rows of frames that grow. -/
import Derived.Test.YtclobdejlihblaaZ1
namespace Go.Proofs.Ytclobdejlihblaa
open Go Go.RowKit
set_option maxRecDepth 20000
/-- A frame: its epoch, its number, its acknowledgement, its data. -/
abbrev Fra := Int × Int × Int × ByteArray
def fr0 : Fra := (0, 0, 0, emp)
def c4F (f : Fra) : List Value := [.int .i64 f.1, .int .i64 f.2.1, .int .i64 f.2.2.1, .string f.2.2.2]
def flF (fs : List Fra) : List Value := fs.flatMap c4F
theorem flF_cons (f : Fra) (fs : List Fra) : flF (f :: fs) = c4F f ++ flF fs := rfl
theorem flF_app (fs gs : List Fra) : flF (fs ++ gs) = flF fs ++ flF gs := by simp [flF]
theorem flF_len (fs : List Fra) : (flF fs).length = fs.length * 4 := by
  induction fs with
  | nil => rfl
  | cons u l ih =>
    have hl : (c4F u).length = 4 := rfl
    rw [flF_cons, List.length_append, ih, hl, List.length_cons]
    omega
theorem flF_one (fs : List Fra) : ∀ u ∈ flF fs, u.oneCell' = true := by
  intro u hu
  simp only [flF, List.mem_flatMap, c4F, List.mem_cons, List.not_mem_nil, or_false] at hu
  obtain ⟨f, _, rfl | rfl | rfl | rfl⟩ := hu <;> rfl
theorem flF_get : ∀ (fs : List Fra) (i r : Nat), i < fs.length → r < 4 → (flF fs)[i * 4 + r]? = (c4F (fs.getD i fr0))[r]?
  | [], i, r, h, _ => absurd h (by simp)
  | u :: us, 0, r, _, hr => by
    rw [flF_cons, Nat.zero_mul, Nat.zero_add, List.getElem?_append_left (by show r < 4; exact hr)]
    rfl
  | u :: us, i + 1, r, h, hr => by
    have hl : (c4F u).length = 4 := rfl
    rw [flF_cons, List.getElem?_append_right (by rw [hl]; omega), hl, show (i + 1) * 4 + r - 4 = i * 4 + r by omega, flF_get us i r (by simpa using h) hr]
    rfl
theorem eltF : Elt 54 31 4 := elt_of (bytes := 40) Try.underlying54 (by kernel_rfl) (by kernel_rfl) (by decide) (by decide)
/-- The four cells of a frame lie there. -/
structure F4 (w : World) (b o : Nat) (f : Fra) : Prop where
  e : w.cell? ⟨b, o, none⟩ = some (.int .i64 f.1)
  s : w.cell? ⟨b, o + 1, none⟩ = some (.int .i64 f.2.1)
  a : w.cell? ⟨b, o + 2, none⟩ = some (.int .i64 f.2.2.1)
  d : w.cell? ⟨b, o + 3, none⟩ = some (.string f.2.2.2)
theorem F4.kept {w w' : World} {b o : Nat} {f : Fra} (h : F4 w b o f) (hb : w'.heap[b]? = w.heap[b]?) : F4 w' b o f := by
  obtain ⟨h1, h2, h3, h4⟩ := h
  constructor <;> (unfold World.cell? at *; rw [hb]; assumption)
theorem F4.below {w w' : World} {B b o : Nat} {f : Fra} (h : F4 w b o f) (hb : Below B w w') (hl : b < B) : F4 w' b o f := h.kept (hb.block b hl)
/-- The cells of frames lie there. -/
structure FsAt (w : World) (a : Option Addr) (len : Nat) (fs : List Fra) : Prop where
  size : fs.length = len
  lies : 0 < len → ∃ b off, a = some ⟨b, off, none⟩ ∧ b < w.heap.size ∧ ∀ i, i < len → F4 w b (off + i * 4) (fs.getD i fr0)
theorem fsAt_below {w w' : World} {B : Nat} {a : Option Addr} {len : Nat} {fs : List Fra} (h : FsAt w a len fs) (hb : Below B w w') (hB : w.heap.size ≤ B := by exact Nat.le_refl _) : FsAt w' a len fs :=
  ⟨h.size, fun h0 => by
    obtain ⟨b, off, e, hl, hf⟩ := h.lies h0
    exact ⟨b, off, e, by have := hb.size; omega, fun i hi => (hf i hi).below hb (by omega)⟩⟩
theorem FsAt.asit {w w' : World} {a : Option Addr} {len : Nat} {fs : List Fra} (h : FsAt w a len fs) (e : w'.heap = w.heap) : FsAt w' a len fs :=
  ⟨h.size, fun h0 => by
    obtain ⟨b, off, e1, hl, hf⟩ := h.lies h0
    exact ⟨b, off, e1, by rw [e]; exact hl, fun i hi => (hf i hi).kept (by rw [e])⟩⟩
theorem fsAt_news {w : World} {ad : Addr} {len : Nat} {fs : List Fra} (h : FsAt w (some ad) len fs) : ∀ j v, (flF fs)[j]? = some v → w.cell? (ad.add j) = some v := by
  intro j v hj
  have hs := h.size
  have hjl : j < fs.length * 4 := by
    have := (List.getElem?_eq_some_iff.1 hj).1
    rw [flF_len] at this
    exact this
  obtain ⟨b, off, e, _, hf⟩ := h.lies (by omega)
  simp only [Option.some.injEq] at e
  subst e
  have hi := hf (j / 4) (by omega)
  have hg := flF_get fs (j / 4) (j % 4) (by omega) (by omega)
  rw [show j / 4 * 4 + j % 4 = j by omega, hj] at hg
  rw [Go.WideShapes.add_plain]
  have hj4 : off + j = off + j / 4 * 4 + j % 4 := by omega
  rw [hj4, hg]
  rcases (show j % 4 = 0 ∨ j % 4 = 1 ∨ j % 4 = 2 ∨ j % 4 = 3 by omega) with h0 | h0 | h0 | h0 <;> rw [h0]
  · exact hi.e
  · exact hi.s
  · exact hi.a
  · exact hi.d
/-- A row of frames of the call's own. -/
def RowF (B : Nat) (w : World) (v : Value) (fs : List Fra) : Prop := w.ownsRow B 31 4 v fs.length (flF fs)
theorem RowF.f4 {B w g c fs} (h : RowF B w (.slice (some ⟨g, 0, none⟩) fs.length c) fs) (i : Nat) (hi : i < fs.length) : F4 w g (i * 4) (fs.getD i fr0) := by
  have k0 := World.ownsRow.cellAt h (i * 4) (by omega)
  have k1 := World.ownsRow.cellAt h (i * 4 + 1) (by omega)
  have k2 := World.ownsRow.cellAt h (i * 4 + 2) (by omega)
  have k3 := World.ownsRow.cellAt h (i * 4 + 3) (by omega)
  rw [flF_get fs i 1 hi (by decide)] at k1
  rw [flF_get fs i 2 hi (by decide)] at k2
  rw [flF_get fs i 3 hi (by decide)] at k3
  have hg := flF_get fs i 0 hi (by decide)
  rw [Nat.add_zero] at hg
  rw [hg] at k0
  exact ⟨k0, k1, k2, k3⟩
theorem RowF.is {B w v fs} (h : RowF B w v fs) : ∃ a c, v = .slice a fs.length c ∧ FsAt w a fs.length fs ∧ fs.length ≤ c ∧ (a = none → c = 0) := by
  rcases h.2 with ⟨rfl, h0⟩ | ⟨g, cap, cur, rfl, _, hg, hc, _⟩
  · rw [h0]; exact ⟨none, 0, rfl, ⟨h0, fun hx => absurd hx (Nat.lt_irrefl _)⟩, Nat.le_refl _, fun _ => rfl⟩
  · refine ⟨some ⟨g, 0, none⟩, cap, rfl, ⟨rfl, fun _ => ⟨g, 0, rfl, (Array.getElem?_eq_some_iff.1 hg).1, fun i hi => ?_⟩⟩, hc, fun e => by cases e⟩
    rw [Nat.zero_add]
    exact RowF.f4 h i hi
theorem RowF.isF {B w a n c fs} (h : RowF B w (.slice a n c) fs) (hn : n = fs.length) : FsAt w a n fs ∧ n ≤ c ∧ (a = none → c = 0) := by
  subst hn
  obtain ⟨a', c', e, hi, h1, h2⟩ := h.is
  cases e
  exact ⟨hi, h1, h2⟩
theorem rowF_nil (B : Nat) (w : World) : RowF B w (.slice none 0 0) [] := World.ownsRow_nil w B _ _
theorem RowF.lt {B w v fs} (h : RowF B w v fs) (j : Nat) (hj : v.ownBlock = some j) : B ≤ j ∧ j < w.heap.size := World.ownsRow.lt h j hj
theorem RowF.typ {B w v fs} (h : RowF B w v fs) (j : Nat) (hj : v.ownBlock = some j) : ∃ cur, w.heap[j]? = some (.cells cur 31 (0, 0)) := by
  rcases h.2 with ⟨rfl, _⟩ | ⟨g, cap, cur, rfl, _, hg, _⟩
  · cases hj
  · simp only [Value.ownBlock, Option.some.injEq] at hj
    subst hj
    exact ⟨cur, hg⟩
theorem RowF.kept {B w w1 v fs} (h : RowF B w v fs) {row : Option Nat} (hg : w.grownBy w1 row) (hne : v.ownBlock = none ∨ v.ownBlock ≠ row) : RowF B w1 v fs := World.ownsRow.kept h hg hne
theorem RowF.below {B w w1 v fs} (h : RowF B w v fs) (hb : Below w.heap.size w w1) : RowF B w1 v fs := h.kept (grownOf none hb) (Classical.em _)
theorem RowF.alloc {B w v fs} (h : RowF B w v fs) (o : Obj) : RowF B (w.alloc o) v fs := World.ownsRow.alloc h o
theorem RowF.same {B w w' v fs} (h : RowF B w v fs) (hv : ∀ j, v.ownBlock = some j → w'.heap[j]? = w.heap[j]?) : RowF B w' v fs := by
  obtain ⟨h1, h2⟩ := h
  refine ⟨h1, ?_⟩
  rcases h2 with h2 | ⟨g, cap, cur, rfl, hb, hg, r⟩
  · exact .inl h2
  · exact .inr ⟨g, cap, cur, rfl, hb, (hv g rfl).trans hg, r⟩
theorem RowF.asit {B w w' v fs} (h : RowF B w v fs) (e : w'.heap = w.heap) : RowF B w' v fs := h.same fun j _ => by rw [e]
theorem RowF.lower {B B' w v fs} (h : RowF B w v fs) (hB : B' ≤ B) : RowF B' w v fs := by
  obtain ⟨h1, h2⟩ := h
  refine ⟨h1, ?_⟩
  rcases h2 with h0 | ⟨g, cap, cur, e, hb, r⟩
  · exact .inl h0
  · exact .inr ⟨g, cap, cur, e, by omega, r⟩
theorem rowF_new (w : World) : RowF w.heap.size (w.alloc (.cells #[] 31)) (.slice (some ⟨w.heap.size, 0, none⟩) 0 0) [] := World.ownsRow_lit w #[] 0 (Nat.le_refl _) (Nat.zero_le _) rfl
/-- A literal of one frame. -/
theorem rowF_lit (w : World) (e s a : Int) (d : ByteArray) : RowF w.heap.size (w.alloc (.cells #[.int .i64 e, .int .i64 s, .int .i64 a, .string d] 31)) (.slice (some ⟨w.heap.size, 0, none⟩) 1 1) [(e, s, a, d)] :=
  ⟨rfl, .inr ⟨w.heap.size, 1, _, rfl, Nat.le_refl _, heap_alloc_new _ _, Nat.le_refl _, by unfold maxLen; omega, rfl, rfl⟩⟩
theorem belF {B : Nat} {w w1 w2 : World} {v : Value} {fs : List Fra} (hr : RowF B w1 v fs) (h : Below B w w1) (hg : w1.grownBy w2 v.ownBlock) (hB : B ≤ w1.heap.size) : Below B w w2 := h.grown hg hB (fun j hj => (World.ownsRow.lt hr j hj).1)
theorem run_appF (w : World) (ty : TypeId) (B : Nat) (v : Value) (l : List Fra) (hrow : RowF B w v l) (ax : Option Addr) (len cx : Nat) (us : List Fra) (hu : FsAt w ax len us) (hc : len ≤ cx) (hn : ax = none → cx = 0) (hb : l.length + len ≤ 1000000) (hB : B ≤ w.heap.size) :
    ∃ a' c' w', (Builtin.append_ #[54, 54] ty #[v, .slice ax len cx]).run Try.prog w = .ok (.slice a' (l.length + len) c') w' ∧ RowF B w' (.slice a' (l.length + len) c') (l ++ us) ∧ w.grownBy w' v.ownBlock ∧ ((Value.slice a' (l.length + len) c').ownBlock = v.ownBlock ∨ (Value.slice a' (l.length + len) c').ownBlock = some w.heap.size) := by
  obtain ⟨v', w', h1, h2, h3, h4⟩ := run_app eltF w ty B v l.length (flF l) hrow ax len cx (flF us) (by rw [flF_len, hu.size]) (fun ad e => by subst e; exact fsAt_news hu) (flF_one us) hc hn hb hB
  have hr : RowF B w' v' (l ++ us) := by
    unfold RowF
    rw [List.length_append, hu.size, flF_app]
    exact h2
  obtain ⟨a', c', e, _⟩ := hr.is
  rw [List.length_append, hu.size] at e
  subst e
  exact ⟨a', c', w', h1, hr, h3, h4⟩
theorem wpList_appF {ops : Array Oper} {rest : List Oper} {o : Oper} {a : Act} {Q : Exit → Act → World → Prop} {w : World} (hgd : o.guard = none) (s x : Operand)
    (ho : o.op = .call { callee := .builtin .append, args := #[s, x], argTypes := #[54, 54] })
    (B : Nat) (v : Value) (l : List Fra) (hs : a.eval s = v) (hrow : RowF B w v l) (ax : Option Addr) (len cx : Nat) (hx : a.eval x = .slice ax len cx) (us : List Fra) (hu : FsAt w ax len us) (hc : len ≤ cx) (hn : ax = none → cx = 0) (hb : l.length + len ≤ 1000000) (hB : B ≤ w.heap.size)
    (h : ∀ a' c' w', RowF B w' (.slice a' (l.length + len) c') (l ++ us) → w.grownBy w' v.ownBlock → ((Value.slice a' (l.length + len) c').ownBlock = v.ownBlock ∨ (Value.slice a' (l.length + len) c').ownBlock = some w.heap.size) → wpList Try.prog ops Q rest (a.put o.dst (.slice a' (l.length + len) c')) w') :
    wpList Try.prog ops Q (o :: rest) a w := by
  refine wpList_plain hgd fun K hK => ?_
  obtain ⟨a', c', w', hr, h2, h3, h4⟩ := run_appF w o.type B v l hrow ax len cx us hu hc hn hb hB
  unfold Oper.wp execOp
  simp only [ho, resolve, invoke, builtin, Sem.run_bind, Sem.run_pure, Result.andThen_ok, List.map_toArray, List.map_cons, List.map_nil, hs, hx, hr]
  exact hK _ _ (h a' c' w' h2 h3 h4)
theorem step_appF {ops : Array Oper} {o : Oper} {a : Act} {K : Act → World → Prop} {Q : Exit → Act → World → Prop} {E : Prop} {w : World} (hw : Region.wanted o (yielded ops a.tmps) = true) (s x : Operand)
    (ho : o.op = .call { callee := .builtin .append, args := #[s, x], argTypes := #[54, 54] })
    (B : Nat) (v : Value) (l : List Fra) (hs : a.eval s = v) (hrow : RowF B w v l) (ax : Option Addr) (len cx : Nat) (hx : a.eval x = .slice ax len cx) (us : List Fra) (hu : FsAt w ax len us) (hc : len ≤ cx) (hn : ax = none → cx = 0) (hb : l.length + len ≤ 1000000) (hB : B ≤ w.heap.size)
    (h : ∀ a' c' w', RowF B w' (.slice a' (l.length + len) c') (l ++ us) → w.grownBy w' v.ownBlock → ((Value.slice a' (l.length + len) c').ownBlock = v.ownBlock ∨ (Value.slice a' (l.length + len) c').ownBlock = some w.heap.size) → K (a.put o.dst (.slice a' (l.length + len) c')) w') :
    if Region.wanted o (yielded ops a.tmps) = true then Oper.wp Try.prog o a w K Q else E := by
  rw [if_pos hw]
  obtain ⟨a', c', w', hr, h2, h3, h4⟩ := run_appF w o.type B v l hrow ax len cx us hu hc hn hb hB
  unfold Oper.wp execOp
  simp only [ho, resolve, invoke, builtin, Sem.run_bind, Sem.run_pure, Result.andThen_ok, List.map_toArray, List.map_cons, List.map_nil, hs, hx, hr]
  exact h a' c' w' h2 h3 h4
/-- One frame laid as a row. -/
theorem fsAt_one (w : World) (e s a : Int) (d : ByteArray) : FsAt (w.alloc (.cells #[.int .i64 e, .int .i64 s, .int .i64 a, .string d] 31)) (some ⟨w.heap.size, 0, none⟩) 1 [(e, s, a, d)] := ((rowF_lit w e s a d).isF rfl).1
end Go.Proofs.Ytclobdejlihblaa
