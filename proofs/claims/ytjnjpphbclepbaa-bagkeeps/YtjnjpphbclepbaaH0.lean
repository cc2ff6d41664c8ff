/- Packets; rows that grow: packets, packets with a mark, marks. -/
import Derived.Test.YtjnjpphbclepbaaProg
import Derived.WalkKit
import Derived.Lib.Hide
import Derived.Handy
import Derived.Lib.SmallJoins
import Derived.Laws.StructEq
import Derived.Laws.NewDeep
import Derived.Laws.OwnMore
import Derived.Maps.AppendAt
import Derived.Lib.SliceRun
import Derived.Deep.RegionLawGrows
namespace Go.Proofs.Ytjnjpphbclepbaa
open Go Go.RowKit
set_option maxRecDepth 20000
theorem Below.next {w w1 w2 : World} (h : Below w.heap.size w w1) (hb : Below w1.heap.size w1 w2) : Below w.heap.size w w2 := h.trans (hb.mono h.size)
theorem cell_at {w : World} {b : Nat} {xs : Array Value} {t : TypeId} (h : w.heap[b]? = some (.cells xs t (0, 0))) (i : Nat) (v : Value) (hv : xs[i]? = some v) : w.cell? ⟨b, i, none⟩ = some v := by simp [World.cell?, h, hv]
theorem new_at {W : World} {o : Obj} {n : Nat} (h : W.heap.size = n) : (W.alloc o).heap[n]? = some o := h ▸ heap_alloc_new W o
theorem kept_at {W w1 : World} {x : Obj} {n : Nat} (h : W.heap[n]? = some x) (hb : Below W.heap.size W w1) : w1.heap[n]? = some x := (hb.block n (Array.getElem?_eq_some_iff.1 h).1).trans h
theorem grownOf {a b : World} (row : Option Nat) (h : Below a.heap.size a b) : a.grownBy b row := ⟨h.os, h.tape, h.output, h.size, fun j hj _ => h.block j hj⟩
theorem belowOf {a b : World} (h : a.grownBy b none) : Below a.heap.size a b := ⟨h.os, h.tape, h.output, h.size, fun j hj => h.block j hj (by simp)⟩
def emp : ByteArray := ⟨#[]⟩
/-- A row's elements. -/
def Elt (t e : TypeId) (size : Nat) : Prop := ∃ i z, Try.prog.underlying t = some (.slice e) ∧ Try.prog.info? e = some i ∧ i.zero = some z ∧ i.size = size ∧ i.bytes ≤ 100 ∧ z.cells.size = size ∧ 0 < size
theorem elt_of {t e : TypeId} {size bytes : Nat} (ht : Try.prog.underlying t = some (.slice e)) (h1 : (Try.prog.info? e).map (fun i => (i.size, i.bytes)) = some (size, bytes)) (h2 : ((Try.prog.info? e).bind (·.zero)).map (fun z => z.cells.size) = some size) (hb : bytes ≤ 100) (hs : 0 < size) : Elt t e size := by
  unfold Elt
  cases h : Try.prog.info? e with
  | none => rw [h] at h1; cases h1
  | some i =>
    rw [h] at h1 h2
    simp at h1 h2
    obtain ⟨z, hz, hs'⟩ := h2
    exact ⟨i, z, ht, rfl, hz, h1.1, by omega, hs', hs⟩
theorem run_app {t e : TypeId} {size : Nat} (hE : Elt t e size) (w : World) (ty : TypeId) (B : Nat) (v : Value) (n : Nat) (xs : List Value) (hown : w.ownsRow B e size v n xs) (ax : Option Addr) (len cx : Nat) (news : List Value) (hl : news.length = len * size)
    (hnews : ∀ ad, ax = some ad → ∀ j u, news[j]? = some u → w.cell? (ad.add j) = some u) (h1 : ∀ u ∈ news, u.oneCell' = true) (hc : len ≤ cx) (hn : ax = none → cx = 0) (hb : n + len ≤ 1000000) (hB : B ≤ w.heap.size) :
    ∃ v' w', (Builtin.append_ #[t, t] ty #[v, .slice ax len cx]).run Try.prog w = .ok v' w' ∧ w'.ownsRow B e size v' (n + len) (xs ++ news) ∧ w.grownBy w' v.ownBlock ∧ (v'.ownBlock = v.ownBlock ∨ v'.ownBlock = some w.heap.size) := by
  obtain ⟨i, z, ht, hi, hz, hs, hby, hzs, hpos⟩ := hE
  cases ax with
  | none =>
    obtain rfl := hn rfl
    obtain rfl : len = 0 := by omega
    obtain rfl : news = [] := List.eq_nil_of_length_eq_zero (by simpa using hl)
    exact ⟨v, w, run_append_owned_none w B t ty e i size ht hi v n xs hown, by simpa using hown, World.grownBy.refl _ _, .inl rfl⟩
  | some ad =>
    have hbb : (n + len) * i.bytes ≤ 1000000 * 100 := Nat.mul_le_mul hb hby
    obtain ⟨v', w', r1, r2, r3, _, r5⟩ := run_append_own_at (P := Try.prog) w B t ty e i z size i.bytes ht hi hz hs rfl hzs hpos v n xs hown ad len cx news hl (hnews ad rfl) h1 (by unfold maxLen; omega) (by omega) hB
    exact ⟨v', w', r1, r2, r3, r5⟩
/-- What a sender's call leaves: all but its block and its row. -/
structure Fr (w w' : World) (b : Nat) (r : Option Nat) : Prop where
  os : w'.os = w.os
  tape : w'.tape = w.tape
  output : w'.output = w.output
  size : w.heap.size ≤ w'.heap.size
  block : ∀ i, i < w.heap.size → i ≠ b → some i ≠ r → w'.heap[i]? = w.heap[i]?
theorem Fr.refl (w : World) (b : Nat) (r : Option Nat) : Fr w w b r := ⟨rfl, rfl, rfl, Nat.le_refl _, fun _ _ _ _ => rfl⟩
theorem Fr.trans {w1 w2 w3 : World} {b : Nat} {r : Option Nat} (h : Fr w1 w2 b r) (k : Fr w2 w3 b r) : Fr w1 w3 b r :=
  ⟨k.os.trans h.os, k.tape.trans h.tape, k.output.trans h.output, Nat.le_trans h.size k.size, fun i hi h1 h2 => (k.block i (Nat.lt_of_lt_of_le hi h.size) h1 h2).trans (h.block i hi h1 h2)⟩
theorem Fr.ofRow {w w' : World} {b : Nat} {r : Option Nat} (h : w.grownBy w' r) : Fr w w' b r := ⟨h.os, h.tape, h.output, h.size, fun i hi _ h2 => h.block i hi h2⟩
theorem Fr.ofBelow {w w' : World} {b : Nat} {r : Option Nat} (h : Below w.heap.size w w') : Fr w w' b r := ⟨h.os, h.tape, h.output, h.size, fun i hi _ _ => h.block i hi⟩
theorem Fr.set (w : World) (b i : Nat) (v : Value) (r : Option Nat) : Fr w (w.setCell ⟨b, i, none⟩ v) b r := ⟨rfl, rfl, rfl, by simp [World.setCell], fun k _ hk _ => Below.heap_setCell _ _ _ _ hk⟩
theorem Fr.below {B : Nat} {w0 w w' : World} {b : Nat} {r : Option Nat} (h : Below B w0 w) (k : Fr w w' b r) (h1 : B ≤ b) (h2 : ∀ j, r = some j → B ≤ j) (hB : B ≤ w.heap.size) : Below B w0 w' :=
  h.trans ⟨k.os, k.tape, k.output, k.size, fun i hi => k.block i (by omega) (by omega) (fun e => by have := h2 i e.symm; omega)⟩
theorem grown_set (w : World) (b i : Nat) (v : Value) : w.grownBy (w.setCell ⟨b, i, none⟩ v) (some b) := ⟨rfl, rfl, rfl, by simp [World.setCell], fun k _ hk => Below.heap_setCell _ _ _ _ (fun e => hk (by rw [e]))⟩
/-- Cells stored one behind the other. -/
theorem setCells_row : ∀ (vs : List Value) (w : World) (b o : Nat) (cur : Array Value) (t : TypeId) (fr : Nat × Nat), w.heap[b]? = some (.cells cur t fr) →
    (∃ cur', (w.setCells b o vs).heap[b]? = some (.cells cur' t fr) ∧ cur'.size = cur.size ∧ ∀ j, o + vs.length ≤ j → cur'[j]? = cur[j]?) ∧ w.grownBy (w.setCells b o vs) (some b)
  | [], w, b, o, cur, t, fr, h => ⟨⟨cur, h, rfl, fun _ _ => rfl⟩, World.grownBy.refl _ _⟩
  | x :: vs, w, b, o, cur, t, fr, h => by
    have e : w.setCells b o (x :: vs) = (w.setCell ⟨b, o, none⟩ x).setCells b (o + 1) vs := rfl
    have h1 : (w.setCell ⟨b, o, none⟩ x).heap[b]? = some (.cells (cur.setIfInBounds o x) t fr) := by simp [World.setCell, Array.getElem?_modify, h]
    obtain ⟨⟨cur', h2, h3, h4⟩, h5⟩ := setCells_row vs (w.setCell ⟨b, o, none⟩ x) b (o + 1) _ t fr h1
    rw [e]
    refine ⟨⟨cur', h2, by simpa using h3, fun j hj => ?_⟩, World.grownBy.trans (grown_set w b o x) h5⟩
    rw [List.length_cons] at hj
    rw [h4 j (by omega), Array.getElem?_setIfInBounds, if_neg (by omega)]
/-- A packet: from, to, its bytes. -/
abbrev Pkt := Int × Int × ByteArray
def pk0 : Pkt := (0, 0, emp)
def c4P (f : Pkt) : List Value := [.int .i64 f.1, .int .i64 f.2.1, .string f.2.2]
def flP (fs : List Pkt) : List Value := fs.flatMap c4P
theorem flP_cons (f : Pkt) (fs : List Pkt) : flP (f :: fs) = c4P f ++ flP fs := rfl
theorem flP_app (fs gs : List Pkt) : flP (fs ++ gs) = flP fs ++ flP gs := by simp [flP]
theorem flP_len (fs : List Pkt) : (flP fs).length = fs.length * 3 := by
  induction fs with
  | nil => rfl
  | cons u l ih =>
    have hl : (c4P u).length = 3 := rfl
    rw [flP_cons, List.length_append, ih, hl, List.length_cons]
    omega
theorem flP_one (fs : List Pkt) : ∀ u ∈ flP fs, u.oneCell' = true := by
  intro u hu
  simp only [flP, List.mem_flatMap, c4P, List.mem_cons, List.not_mem_nil, or_false] at hu
  obtain ⟨f, _, rfl | rfl | rfl⟩ := hu <;> rfl
theorem flP_get : ∀ (fs : List Pkt) (i r : Nat), i < fs.length → r < 3 → (flP fs)[i * 3 + r]? = (c4P (fs.getD i pk0))[r]?
  | [], i, r, h, _ => absurd h (by simp)
  | u :: us, 0, r, _, hr => by
    rw [flP_cons, Nat.zero_mul, Nat.zero_add, List.getElem?_append_left (by show r < 3; exact hr)]
    rfl
  | u :: us, i + 1, r, h, hr => by
    have hl : (c4P u).length = 3 := rfl
    rw [flP_cons, List.getElem?_append_right (by rw [hl]; omega), hl, show (i + 1) * 3 + r - 3 = i * 3 + r by omega, flP_get us i r (by simpa using h) hr]
    rfl
theorem eltP : Elt 26 39 3 := elt_of (bytes := 32) Try.underlying26 (by kernel_rfl) (by kernel_rfl) (by decide) (by decide)
/-- The four cells of a frame lie there. -/
structure P4 (w : World) (b o : Nat) (f : Pkt) : Prop where
  fr : w.cell? ⟨b, o, none⟩ = some (.int .i64 f.1)
  to : w.cell? ⟨b, o + 1, none⟩ = some (.int .i64 f.2.1)
  d : w.cell? ⟨b, o + 2, none⟩ = some (.string f.2.2)
theorem P4.kept {w w' : World} {b o : Nat} {f : Pkt} (h : P4 w b o f) (hb : w'.heap[b]? = w.heap[b]?) : P4 w' b o f := by
  obtain ⟨h1, h2, h3⟩ := h
  constructor <;> (unfold World.cell? at *; rw [hb]; assumption)
theorem P4.below {w w' : World} {B b o : Nat} {f : Pkt} (h : P4 w b o f) (hb : Below B w w') (hl : b < B) : P4 w' b o f := h.kept (hb.block b hl)
/-- The cells of frames lie there. -/
structure PsAt (w : World) (a : Option Addr) (len : Nat) (fs : List Pkt) : Prop where
  size : fs.length = len
  lies : 0 < len → ∃ b off, a = some ⟨b, off, none⟩ ∧ b < w.heap.size ∧ ∀ i, i < len → P4 w b (off + i * 3) (fs.getD i pk0)
theorem psAt_below {w w' : World} {B : Nat} {a : Option Addr} {len : Nat} {fs : List Pkt} (h : PsAt w a len fs) (hb : Below B w w') (hB : w.heap.size ≤ B := by exact Nat.le_refl _) : PsAt w' a len fs :=
  ⟨h.size, fun h0 => by
    obtain ⟨b, off, e, hl, hf⟩ := h.lies h0
    exact ⟨b, off, e, by have := hb.size; omega, fun i hi => (hf i hi).below hb (by omega)⟩⟩
theorem PsAt.asit {w w' : World} {a : Option Addr} {len : Nat} {fs : List Pkt} (h : PsAt w a len fs) (e : w'.heap = w.heap) : PsAt w' a len fs :=
  ⟨h.size, fun h0 => by
    obtain ⟨b, off, e1, hl, hf⟩ := h.lies h0
    exact ⟨b, off, e1, by rw [e]; exact hl, fun i hi => (hf i hi).kept (by rw [e])⟩⟩
theorem psAt_news {w : World} {ad : Addr} {len : Nat} {fs : List Pkt} (h : PsAt w (some ad) len fs) : ∀ j v, (flP fs)[j]? = some v → w.cell? (ad.add j) = some v := by
  intro j v hj
  have hs := h.size
  have hjl : j < fs.length * 3 := by
    have := (List.getElem?_eq_some_iff.1 hj).1
    rw [flP_len] at this
    exact this
  obtain ⟨b, off, e, _, hf⟩ := h.lies (by omega)
  simp only [Option.some.injEq] at e
  subst e
  have hi := hf (j / 3) (by omega)
  have hg := flP_get fs (j / 3) (j % 3) (by omega) (by omega)
  rw [show j / 3 * 3 + j % 3 = j by omega, hj] at hg
  rw [Go.WideShapes.add_plain]
  have hj4 : off + j = off + j / 3 * 3 + j % 3 := by omega
  rw [hj4, hg]
  rcases (show j % 3 = 0 ∨ j % 3 = 1 ∨ j % 3 = 2 by omega) with h0 | h0 | h0 <;> rw [h0]
  · exact hi.fr
  · exact hi.to
  · exact hi.d
/-- A row of frames of the call's own. -/
def RowP (B : Nat) (w : World) (v : Value) (fs : List Pkt) : Prop := w.ownsRow B 39 3 v fs.length (flP fs)
theorem RowP.f4 {B w g c fs} (h : RowP B w (.slice (some ⟨g, 0, none⟩) fs.length c) fs) (i : Nat) (hi : i < fs.length) : P4 w g (i * 3) (fs.getD i pk0) := by
  have k0 := World.ownsRow.cellAt h (i * 3) (by omega)
  have k1 := World.ownsRow.cellAt h (i * 3 + 1) (by omega)
  rw [flP_get fs i 1 hi (by decide)] at k1
  have k2 := World.ownsRow.cellAt h (i * 3 + 2) (by omega)
  rw [flP_get fs i 2 hi (by decide)] at k2
  have hg := flP_get fs i 0 hi (by decide)
  rw [Nat.add_zero] at hg
  rw [hg] at k0
  exact ⟨k0, k1, k2⟩
theorem RowP.is {B w v fs} (h : RowP B w v fs) : ∃ a c, v = .slice a fs.length c ∧ PsAt w a fs.length fs ∧ fs.length ≤ c ∧ (a = none → c = 0) := by
  rcases h.2 with ⟨rfl, h0⟩ | ⟨g, cap, cur, rfl, _, hg, hc, _⟩
  · rw [h0]; exact ⟨none, 0, rfl, ⟨h0, fun hx => absurd hx (Nat.lt_irrefl _)⟩, Nat.le_refl _, fun _ => rfl⟩
  · refine ⟨some ⟨g, 0, none⟩, cap, rfl, ⟨rfl, fun _ => ⟨g, 0, rfl, (Array.getElem?_eq_some_iff.1 hg).1, fun i hi => ?_⟩⟩, hc, fun e => by cases e⟩
    rw [Nat.zero_add]
    exact RowP.f4 h i hi
theorem RowP.isP {B w a n c fs} (h : RowP B w (.slice a n c) fs) (hn : n = fs.length) : PsAt w a n fs ∧ n ≤ c ∧ (a = none → c = 0) := by
  subst hn
  obtain ⟨a', c', e, hi, h1, h2⟩ := h.is
  cases e
  exact ⟨hi, h1, h2⟩
theorem rowP_nil (B : Nat) (w : World) : RowP B w (.slice none 0 0) [] := World.ownsRow_nil w B _ _
theorem RowP.lt {B w v fs} (h : RowP B w v fs) (j : Nat) (hj : v.ownBlock = some j) : B ≤ j ∧ j < w.heap.size := World.ownsRow.lt h j hj
theorem RowP.typ {B w v fs} (h : RowP B w v fs) (j : Nat) (hj : v.ownBlock = some j) : ∃ cur, w.heap[j]? = some (.cells cur 39 (0, 0)) := by
  rcases h.2 with ⟨rfl, _⟩ | ⟨g, cap, cur, rfl, _, hg, _⟩
  · cases hj
  · simp only [Value.ownBlock, Option.some.injEq] at hj
    subst hj
    exact ⟨cur, hg⟩
theorem RowP.kept {B w w1 v fs} (h : RowP B w v fs) {row : Option Nat} (hg : w.grownBy w1 row) (hne : v.ownBlock = none ∨ v.ownBlock ≠ row) : RowP B w1 v fs := World.ownsRow.kept h hg hne
theorem RowP.below {B w w1 v fs} (h : RowP B w v fs) (hb : Below w.heap.size w w1) : RowP B w1 v fs := h.kept (grownOf none hb) (Classical.em _)
theorem RowP.alloc {B w v fs} (h : RowP B w v fs) (o : Obj) : RowP B (w.alloc o) v fs := World.ownsRow.alloc h o
theorem RowP.same {B w w' v fs} (h : RowP B w v fs) (hv : ∀ j, v.ownBlock = some j → w'.heap[j]? = w.heap[j]?) : RowP B w' v fs := by
  obtain ⟨h1, h2⟩ := h
  refine ⟨h1, ?_⟩
  rcases h2 with h2 | ⟨g, cap, cur, rfl, hb, hg, r⟩
  · exact .inl h2
  · exact .inr ⟨g, cap, cur, rfl, hb, (hv g rfl).trans hg, r⟩
theorem RowP.asit {B w w' v fs} (h : RowP B w v fs) (e : w'.heap = w.heap) : RowP B w' v fs := h.same fun j _ => by rw [e]
theorem RowP.lower {B B' w v fs} (h : RowP B w v fs) (hB : B' ≤ B) : RowP B' w v fs := by
  obtain ⟨h1, h2⟩ := h
  refine ⟨h1, ?_⟩
  rcases h2 with h0 | ⟨g, cap, cur, e, hb, r⟩
  · exact .inl h0
  · exact .inr ⟨g, cap, cur, e, by omega, r⟩
theorem rowP_new (w : World) : RowP w.heap.size (w.alloc (.cells #[] 39)) (.slice (some ⟨w.heap.size, 0, none⟩) 0 0) [] := World.ownsRow_lit w #[] 0 (Nat.le_refl _) (Nat.zero_le _) rfl
/-- A literal of one. -/
theorem rowP_lit (w : World) (frx : Int) (tox : Int) (dx : ByteArray) : RowP w.heap.size (w.alloc (.cells #[.int .i64 frx, .int .i64 tox, .string dx] 39)) (.slice (some ⟨w.heap.size, 0, none⟩) 1 1) [(frx, tox, dx)] :=
  ⟨rfl, .inr ⟨w.heap.size, 1, _, rfl, Nat.le_refl _, heap_alloc_new _ _, Nat.le_refl _, by unfold maxLen; omega, rfl, rfl⟩⟩
theorem belP {B : Nat} {w w1 w2 : World} {v : Value} {fs : List Pkt} (hr : RowP B w1 v fs) (h : Below B w w1) (hg : w1.grownBy w2 v.ownBlock) (hB : B ≤ w1.heap.size) : Below B w w2 := h.grown hg hB (fun j hj => (World.ownsRow.lt hr j hj).1)
theorem run_appP (w : World) (ty : TypeId) (B : Nat) (v : Value) (l : List Pkt) (hrow : RowP B w v l) (ax : Option Addr) (len cx : Nat) (us : List Pkt) (hu : PsAt w ax len us) (hc : len ≤ cx) (hn : ax = none → cx = 0) (hb : l.length + len ≤ 1000000) (hB : B ≤ w.heap.size) :
    ∃ a' c' w', (Builtin.append_ #[26, 26] ty #[v, .slice ax len cx]).run Try.prog w = .ok (.slice a' (l.length + len) c') w' ∧ RowP B w' (.slice a' (l.length + len) c') (l ++ us) ∧ w.grownBy w' v.ownBlock ∧ ((Value.slice a' (l.length + len) c').ownBlock = v.ownBlock ∨ (Value.slice a' (l.length + len) c').ownBlock = some w.heap.size) := by
  obtain ⟨v', w', h1, h2, h3, h4⟩ := run_app eltP w ty B v l.length (flP l) hrow ax len cx (flP us) (by rw [flP_len, hu.size]) (fun ad e => by subst e; exact psAt_news hu) (flP_one us) hc hn hb hB
  have hr : RowP B w' v' (l ++ us) := by
    unfold RowP
    rw [List.length_append, hu.size, flP_app]
    exact h2
  obtain ⟨a', c', e, _⟩ := hr.is
  rw [List.length_append, hu.size] at e
  subst e
  exact ⟨a', c', w', h1, hr, h3, h4⟩
theorem wpList_appP {ops : Array Oper} {rest : List Oper} {o : Oper} {a : Act} {Q : Exit → Act → World → Prop} {w : World} (hgd : o.guard = none) (s x : Operand)
    (ho : o.op = .call { callee := .builtin .append, args := #[s, x], argTypes := #[26, 26] })
    (B : Nat) (v : Value) (l : List Pkt) (hs : a.eval s = v) (hrow : RowP B w v l) (ax : Option Addr) (len cx : Nat) (hx : a.eval x = .slice ax len cx) (us : List Pkt) (hu : PsAt w ax len us) (hc : len ≤ cx) (hn : ax = none → cx = 0) (hb : l.length + len ≤ 1000000) (hB : B ≤ w.heap.size)
    (h : ∀ a' c' w', RowP B w' (.slice a' (l.length + len) c') (l ++ us) → w.grownBy w' v.ownBlock → ((Value.slice a' (l.length + len) c').ownBlock = v.ownBlock ∨ (Value.slice a' (l.length + len) c').ownBlock = some w.heap.size) → wpList Try.prog ops Q rest (a.put o.dst (.slice a' (l.length + len) c')) w') :
    wpList Try.prog ops Q (o :: rest) a w := by
  refine wpList_plain hgd fun K hK => ?_
  obtain ⟨a', c', w', hr, h2, h3, h4⟩ := run_appP w o.type B v l hrow ax len cx us hu hc hn hb hB
  unfold Oper.wp execOp
  simp only [ho, resolve, invoke, builtin, Sem.run_bind, Sem.run_pure, Result.andThen_ok, List.map_toArray, List.map_cons, List.map_nil, hs, hx, hr]
  exact hK _ _ (h a' c' w' h2 h3 h4)
theorem step_appP {ops : Array Oper} {o : Oper} {a : Act} {K : Act → World → Prop} {Q : Exit → Act → World → Prop} {E : Prop} {w : World} (hw : Region.wanted o (yielded ops a.tmps) = true) (s x : Operand)
    (ho : o.op = .call { callee := .builtin .append, args := #[s, x], argTypes := #[26, 26] })
    (B : Nat) (v : Value) (l : List Pkt) (hs : a.eval s = v) (hrow : RowP B w v l) (ax : Option Addr) (len cx : Nat) (hx : a.eval x = .slice ax len cx) (us : List Pkt) (hu : PsAt w ax len us) (hc : len ≤ cx) (hn : ax = none → cx = 0) (hb : l.length + len ≤ 1000000) (hB : B ≤ w.heap.size)
    (h : ∀ a' c' w', RowP B w' (.slice a' (l.length + len) c') (l ++ us) → w.grownBy w' v.ownBlock → ((Value.slice a' (l.length + len) c').ownBlock = v.ownBlock ∨ (Value.slice a' (l.length + len) c').ownBlock = some w.heap.size) → K (a.put o.dst (.slice a' (l.length + len) c')) w') :
    if Region.wanted o (yielded ops a.tmps) = true then Oper.wp Try.prog o a w K Q else E := by
  rw [if_pos hw]
  obtain ⟨a', c', w', hr, h2, h3, h4⟩ := run_appP w o.type B v l hrow ax len cx us hu hc hn hb hB
  unfold Oper.wp execOp
  simp only [ho, resolve, invoke, builtin, Sem.run_bind, Sem.run_pure, Result.andThen_ok, List.map_toArray, List.map_cons, List.map_nil, hs, hx, hr]
  exact h a' c' w' h2 h3 h4
/-- One laid as a row. -/
theorem psAt_one (w : World) (frx : Int) (tox : Int) (dx : ByteArray) : PsAt (w.alloc (.cells #[.int .i64 frx, .int .i64 tox, .string dx] 39)) (some ⟨w.heap.size, 0, none⟩) 1 [(frx, tox, dx)] := ((rowP_lit w frx tox dx).isP rfl).1
theorem wpList_appP0 {ops : Array Oper} {rest : List Oper} {o : Oper} {a : Act} {Q : Exit → Act → World → Prop} {w : World} (hgd : o.guard = none) (s x : Operand)
    (ho : o.op = .call { callee := .builtin .append, args := #[s, x], argTypes := #[26, 26] })
    (hs : a.eval s = .slice (some ⟨w.heap.size, 0, none⟩) 0 0) (ax : Option Addr) (len cx : Nat) (hx : a.eval x = .slice ax len cx) (us : List Pkt) (hu : PsAt w ax len us) (hc : len ≤ cx) (hn : ax = none → cx = 0) (hb : len ≤ 1000000)
    (h : ∀ a' c' w', RowP w.heap.size w' (.slice a' len c') us → Below w.heap.size w w' → wpList Try.prog ops Q rest (a.put o.dst (.slice a' len c')) w') :
    wpList Try.prog ops Q (o :: rest) a (w.alloc (.cells #[] 39)) := by
  refine wpList_appP hgd s x ho w.heap.size _ [] hs (rowP_new w) ax len cx hx us (psAt_below hu (Joins.below_alloc1 _ _)) hc hn (by simpa using hb) (by simp) ?_
  intro a' c' w' h1 h2 _
  simp only [List.length_nil, Nat.zero_add, List.nil_append] at h1 ⊢
  exact h a' c' w' h1 (belP (rowP_new w) (Joins.below_alloc1 _ _) h2 (by simp))
/-- Slicings. -/
theorem slP_front (a : Option Addr) (len cap n : Nat) (h : n ≤ cap) (w : World) : (Instr.sliceAt 26 (.slice a len cap) none (some (.int .i64 n)) none).run Try.prog w = .ok (.slice a n cap) w := by
  rw [run_sliceAt_slice _ _ _ _ _ _ Try.underlying26]
  cases a <;> simp [Instr.slice, Instr.sliceBounds, Instr.sliceBound, asIntOf, run_underlying Try.underlying26, go_sem] <;> (intro hx; omega)
theorem slP_back (a : Option Addr) (len cap n : Nat) (h : n ≤ len) (w : World) : (Instr.sliceAt 26 (.slice a len cap) (some (.int .i64 n)) none none).run Try.prog w = .ok (.slice (if cap = n then a else a.map (·.add (n * 3))) (len - n) (cap - n)) w := by
  rw [run_sliceAt_slice _ _ _ _ _ _ Try.underlying26]
  simp [Instr.slice, Instr.sliceBounds, Instr.sliceBound, asIntOf, run_underlying Try.underlying26, go_sem]
  intro hx; omega
theorem PsAt.take {w : World} {a : Option Addr} {len : Nat} {ts : List Pkt} (h : PsAt w a len ts) {n : Nat} (hn : n ≤ len) : PsAt w a n (ts.take n) := by
  have hs := h.size
  refine ⟨by rw [List.length_take]; omega, fun h0 => ?_⟩
  obtain ⟨b, off, rfl, hl, hf⟩ := h.lies (by omega)
  refine ⟨b, off, rfl, hl, fun i hi => ?_⟩
  have := hf i (by omega)
  rw [show (ts.take n).getD i pk0 = ts.getD i pk0 by simp [List.getD_eq_getElem?_getD, hi]]
  exact this
theorem PsAt.back {w : World} {a : Option Addr} {len cap : Nat} {ts : List Pkt} (h : PsAt w a len ts) (hlc : len ≤ cap) {n : Nat} (hn : n ≤ len) : PsAt w (if cap = n then a else a.map (·.add (n * 3))) (len - n) (ts.drop n) := by
  have hs := h.size
  refine ⟨by rw [List.length_drop]; omega, fun h0 => ?_⟩
  obtain ⟨b, off, rfl, hl, hf⟩ := h.lies (by omega)
  have e : (if cap = n then some (⟨b, off, none⟩ : Addr) else (some (⟨b, off, none⟩ : Addr)).map (·.add (n * 3))) = some ⟨b, off + n * 3, none⟩ := by
    rw [if_neg (by omega)]
    simp [Addr.add_lit]
  refine ⟨b, off + n * 3, e, hl, fun i hi => ?_⟩
  have := hf (n + i) (by omega)
  rw [show off + n * 3 + i * 3 = off + (n + i) * 3 by omega, show (ts.drop n).getD i pk0 = ts.getD (n + i) pk0 by simp [List.getD_eq_getElem?_getD]]
  exact this
theorem back_noneP {a : Option Addr} {cap n : Nat} (h : a = none → cap = 0) : (if cap = n then a else a.map (·.add (n * 3))) = none → cap - n = 0 := fun e => by
  split at e
  · rw [h e]; simp
  · cases a with
    | none => rw [h rfl]; simp
    | some x => cases e
theorem flP_set (fs : List Pkt) (i r : Nat) (hi : i < fs.length) (hr : r < 3) (v : Value) (f : Pkt) (hf : c4P f = (c4P (fs.getD i pk0)).set r v) : (flP fs).set (i * 3 + r) v = flP (fs.set i f) := by
  induction fs generalizing i with
  | nil => exact absurd hi (by simp)
  | cons u us ih =>
    have hl : (c4P u).length = 3 := rfl
    cases i with
    | zero =>
      rw [List.set_cons_zero, flP_cons, flP_cons, Nat.zero_mul, Nat.zero_add, List.set_append_left _ _ (by rw [hl]; exact hr), hf]
      rfl
    | succ i =>
      rw [List.set_cons_succ, flP_cons, flP_cons, List.set_append_right _ _ (by rw [hl]; omega), hl, show (i + 1) * 3 + r - 3 = i * 3 + r by omega, ih i (by simpa using hi) (by simpa using hf)]
/-- A packet and its mark. -/
abbrev Pk := Int × Int × ByteArray × Bool
def pq0 : Pk := (0, 0, emp, false)
def c4K (f : Pk) : List Value := [.int .i64 f.1, .int .i64 f.2.1, .string f.2.2.1, .bool f.2.2.2]
def flK (fs : List Pk) : List Value := fs.flatMap c4K
theorem flK_cons (f : Pk) (fs : List Pk) : flK (f :: fs) = c4K f ++ flK fs := rfl
theorem flK_app (fs gs : List Pk) : flK (fs ++ gs) = flK fs ++ flK gs := by simp [flK]
theorem flK_len (fs : List Pk) : (flK fs).length = fs.length * 4 := by
  induction fs with
  | nil => rfl
  | cons u l ih =>
    have hl : (c4K u).length = 4 := rfl
    rw [flK_cons, List.length_append, ih, hl, List.length_cons]
    omega
theorem flK_one (fs : List Pk) : ∀ u ∈ flK fs, u.oneCell' = true := by
  intro u hu
  simp only [flK, List.mem_flatMap, c4K, List.mem_cons, List.not_mem_nil, or_false] at hu
  obtain ⟨f, _, rfl | rfl | rfl | rfl⟩ := hu <;> rfl
theorem flK_get : ∀ (fs : List Pk) (i r : Nat), i < fs.length → r < 4 → (flK fs)[i * 4 + r]? = (c4K (fs.getD i pq0))[r]?
  | [], i, r, h, _ => absurd h (by simp)
  | u :: us, 0, r, _, hr => by
    rw [flK_cons, Nat.zero_mul, Nat.zero_add, List.getElem?_append_left (by show r < 4; exact hr)]
    rfl
  | u :: us, i + 1, r, h, hr => by
    have hl : (c4K u).length = 4 := rfl
    rw [flK_cons, List.getElem?_append_right (by rw [hl]; omega), hl, show (i + 1) * 4 + r - 4 = i * 4 + r by omega, flK_get us i r (by simpa using h) hr]
    rfl
theorem eltK : Elt 51 60 4 := elt_of (bytes := 40) Try.underlying51 (by kernel_rfl) (by kernel_rfl) (by decide) (by decide)
/-- The four cells of a frame lie there. -/
structure K4 (w : World) (b o : Nat) (f : Pk) : Prop where
  fr : w.cell? ⟨b, o, none⟩ = some (.int .i64 f.1)
  to : w.cell? ⟨b, o + 1, none⟩ = some (.int .i64 f.2.1)
  d : w.cell? ⟨b, o + 2, none⟩ = some (.string f.2.2.1)
  m : w.cell? ⟨b, o + 3, none⟩ = some (.bool f.2.2.2)
theorem K4.kept {w w' : World} {b o : Nat} {f : Pk} (h : K4 w b o f) (hb : w'.heap[b]? = w.heap[b]?) : K4 w' b o f := by
  obtain ⟨h1, h2, h3, h4⟩ := h
  constructor <;> (unfold World.cell? at *; rw [hb]; assumption)
theorem K4.below {w w' : World} {B b o : Nat} {f : Pk} (h : K4 w b o f) (hb : Below B w w') (hl : b < B) : K4 w' b o f := h.kept (hb.block b hl)
/-- The cells of frames lie there. -/
structure KsAt (w : World) (a : Option Addr) (len : Nat) (fs : List Pk) : Prop where
  size : fs.length = len
  lies : 0 < len → ∃ b off, a = some ⟨b, off, none⟩ ∧ b < w.heap.size ∧ ∀ i, i < len → K4 w b (off + i * 4) (fs.getD i pq0)
theorem ksAt_below {w w' : World} {B : Nat} {a : Option Addr} {len : Nat} {fs : List Pk} (h : KsAt w a len fs) (hb : Below B w w') (hB : w.heap.size ≤ B := by exact Nat.le_refl _) : KsAt w' a len fs :=
  ⟨h.size, fun h0 => by
    obtain ⟨b, off, e, hl, hf⟩ := h.lies h0
    exact ⟨b, off, e, by have := hb.size; omega, fun i hi => (hf i hi).below hb (by omega)⟩⟩
theorem KsAt.asit {w w' : World} {a : Option Addr} {len : Nat} {fs : List Pk} (h : KsAt w a len fs) (e : w'.heap = w.heap) : KsAt w' a len fs :=
  ⟨h.size, fun h0 => by
    obtain ⟨b, off, e1, hl, hf⟩ := h.lies h0
    exact ⟨b, off, e1, by rw [e]; exact hl, fun i hi => (hf i hi).kept (by rw [e])⟩⟩
theorem ksAt_news {w : World} {ad : Addr} {len : Nat} {fs : List Pk} (h : KsAt w (some ad) len fs) : ∀ j v, (flK fs)[j]? = some v → w.cell? (ad.add j) = some v := by
  intro j v hj
  have hs := h.size
  have hjl : j < fs.length * 4 := by
    have := (List.getElem?_eq_some_iff.1 hj).1
    rw [flK_len] at this
    exact this
  obtain ⟨b, off, e, _, hf⟩ := h.lies (by omega)
  simp only [Option.some.injEq] at e
  subst e
  have hi := hf (j / 4) (by omega)
  have hg := flK_get fs (j / 4) (j % 4) (by omega) (by omega)
  rw [show j / 4 * 4 + j % 4 = j by omega, hj] at hg
  rw [Go.WideShapes.add_plain]
  have hj4 : off + j = off + j / 4 * 4 + j % 4 := by omega
  rw [hj4, hg]
  rcases (show j % 4 = 0 ∨ j % 4 = 1 ∨ j % 4 = 2 ∨ j % 4 = 3 by omega) with h0 | h0 | h0 | h0 <;> rw [h0]
  · exact hi.fr
  · exact hi.to
  · exact hi.d
  · exact hi.m
/-- A row of frames of the call's own. -/
def RowK (B : Nat) (w : World) (v : Value) (fs : List Pk) : Prop := w.ownsRow B 60 4 v fs.length (flK fs)
theorem RowK.f4 {B w g c fs} (h : RowK B w (.slice (some ⟨g, 0, none⟩) fs.length c) fs) (i : Nat) (hi : i < fs.length) : K4 w g (i * 4) (fs.getD i pq0) := by
  have k0 := World.ownsRow.cellAt h (i * 4) (by omega)
  have k1 := World.ownsRow.cellAt h (i * 4 + 1) (by omega)
  rw [flK_get fs i 1 hi (by decide)] at k1
  have k2 := World.ownsRow.cellAt h (i * 4 + 2) (by omega)
  rw [flK_get fs i 2 hi (by decide)] at k2
  have k3 := World.ownsRow.cellAt h (i * 4 + 3) (by omega)
  rw [flK_get fs i 3 hi (by decide)] at k3
  have hg := flK_get fs i 0 hi (by decide)
  rw [Nat.add_zero] at hg
  rw [hg] at k0
  exact ⟨k0, k1, k2, k3⟩
theorem RowK.is {B w v fs} (h : RowK B w v fs) : ∃ a c, v = .slice a fs.length c ∧ KsAt w a fs.length fs ∧ fs.length ≤ c ∧ (a = none → c = 0) := by
  rcases h.2 with ⟨rfl, h0⟩ | ⟨g, cap, cur, rfl, _, hg, hc, _⟩
  · rw [h0]; exact ⟨none, 0, rfl, ⟨h0, fun hx => absurd hx (Nat.lt_irrefl _)⟩, Nat.le_refl _, fun _ => rfl⟩
  · refine ⟨some ⟨g, 0, none⟩, cap, rfl, ⟨rfl, fun _ => ⟨g, 0, rfl, (Array.getElem?_eq_some_iff.1 hg).1, fun i hi => ?_⟩⟩, hc, fun e => by cases e⟩
    rw [Nat.zero_add]
    exact RowK.f4 h i hi
theorem RowK.isK {B w a n c fs} (h : RowK B w (.slice a n c) fs) (hn : n = fs.length) : KsAt w a n fs ∧ n ≤ c ∧ (a = none → c = 0) := by
  subst hn
  obtain ⟨a', c', e, hi, h1, h2⟩ := h.is
  cases e
  exact ⟨hi, h1, h2⟩
theorem rowK_nil (B : Nat) (w : World) : RowK B w (.slice none 0 0) [] := World.ownsRow_nil w B _ _
theorem RowK.lt {B w v fs} (h : RowK B w v fs) (j : Nat) (hj : v.ownBlock = some j) : B ≤ j ∧ j < w.heap.size := World.ownsRow.lt h j hj
theorem RowK.typ {B w v fs} (h : RowK B w v fs) (j : Nat) (hj : v.ownBlock = some j) : ∃ cur, w.heap[j]? = some (.cells cur 60 (0, 0)) := by
  rcases h.2 with ⟨rfl, _⟩ | ⟨g, cap, cur, rfl, _, hg, _⟩
  · cases hj
  · simp only [Value.ownBlock, Option.some.injEq] at hj
    subst hj
    exact ⟨cur, hg⟩
theorem RowK.kept {B w w1 v fs} (h : RowK B w v fs) {row : Option Nat} (hg : w.grownBy w1 row) (hne : v.ownBlock = none ∨ v.ownBlock ≠ row) : RowK B w1 v fs := World.ownsRow.kept h hg hne
theorem RowK.below {B w w1 v fs} (h : RowK B w v fs) (hb : Below w.heap.size w w1) : RowK B w1 v fs := h.kept (grownOf none hb) (Classical.em _)
theorem RowK.alloc {B w v fs} (h : RowK B w v fs) (o : Obj) : RowK B (w.alloc o) v fs := World.ownsRow.alloc h o
theorem RowK.same {B w w' v fs} (h : RowK B w v fs) (hv : ∀ j, v.ownBlock = some j → w'.heap[j]? = w.heap[j]?) : RowK B w' v fs := by
  obtain ⟨h1, h2⟩ := h
  refine ⟨h1, ?_⟩
  rcases h2 with h2 | ⟨g, cap, cur, rfl, hb, hg, r⟩
  · exact .inl h2
  · exact .inr ⟨g, cap, cur, rfl, hb, (hv g rfl).trans hg, r⟩
theorem RowK.asit {B w w' v fs} (h : RowK B w v fs) (e : w'.heap = w.heap) : RowK B w' v fs := h.same fun j _ => by rw [e]
theorem RowK.lower {B B' w v fs} (h : RowK B w v fs) (hB : B' ≤ B) : RowK B' w v fs := by
  obtain ⟨h1, h2⟩ := h
  refine ⟨h1, ?_⟩
  rcases h2 with h0 | ⟨g, cap, cur, e, hb, r⟩
  · exact .inl h0
  · exact .inr ⟨g, cap, cur, e, by omega, r⟩
theorem rowK_new (w : World) : RowK w.heap.size (w.alloc (.cells #[] 60)) (.slice (some ⟨w.heap.size, 0, none⟩) 0 0) [] := World.ownsRow_lit w #[] 0 (Nat.le_refl _) (Nat.zero_le _) rfl
/-- A literal of one. -/
theorem rowK_lit (w : World) (frx : Int) (tox : Int) (dx : ByteArray) (mx : Bool) : RowK w.heap.size (w.alloc (.cells #[.int .i64 frx, .int .i64 tox, .string dx, .bool mx] 60)) (.slice (some ⟨w.heap.size, 0, none⟩) 1 1) [(frx, tox, dx, mx)] :=
  ⟨rfl, .inr ⟨w.heap.size, 1, _, rfl, Nat.le_refl _, heap_alloc_new _ _, Nat.le_refl _, by unfold maxLen; omega, rfl, rfl⟩⟩
theorem belK {B : Nat} {w w1 w2 : World} {v : Value} {fs : List Pk} (hr : RowK B w1 v fs) (h : Below B w w1) (hg : w1.grownBy w2 v.ownBlock) (hB : B ≤ w1.heap.size) : Below B w w2 := h.grown hg hB (fun j hj => (World.ownsRow.lt hr j hj).1)
theorem run_appK (w : World) (ty : TypeId) (B : Nat) (v : Value) (l : List Pk) (hrow : RowK B w v l) (ax : Option Addr) (len cx : Nat) (us : List Pk) (hu : KsAt w ax len us) (hc : len ≤ cx) (hn : ax = none → cx = 0) (hb : l.length + len ≤ 1000000) (hB : B ≤ w.heap.size) :
    ∃ a' c' w', (Builtin.append_ #[51, 51] ty #[v, .slice ax len cx]).run Try.prog w = .ok (.slice a' (l.length + len) c') w' ∧ RowK B w' (.slice a' (l.length + len) c') (l ++ us) ∧ w.grownBy w' v.ownBlock ∧ ((Value.slice a' (l.length + len) c').ownBlock = v.ownBlock ∨ (Value.slice a' (l.length + len) c').ownBlock = some w.heap.size) := by
  obtain ⟨v', w', h1, h2, h3, h4⟩ := run_app eltK w ty B v l.length (flK l) hrow ax len cx (flK us) (by rw [flK_len, hu.size]) (fun ad e => by subst e; exact ksAt_news hu) (flK_one us) hc hn hb hB
  have hr : RowK B w' v' (l ++ us) := by
    unfold RowK
    rw [List.length_append, hu.size, flK_app]
    exact h2
  obtain ⟨a', c', e, _⟩ := hr.is
  rw [List.length_append, hu.size] at e
  subst e
  exact ⟨a', c', w', h1, hr, h3, h4⟩
theorem wpList_appK {ops : Array Oper} {rest : List Oper} {o : Oper} {a : Act} {Q : Exit → Act → World → Prop} {w : World} (hgd : o.guard = none) (s x : Operand)
    (ho : o.op = .call { callee := .builtin .append, args := #[s, x], argTypes := #[51, 51] })
    (B : Nat) (v : Value) (l : List Pk) (hs : a.eval s = v) (hrow : RowK B w v l) (ax : Option Addr) (len cx : Nat) (hx : a.eval x = .slice ax len cx) (us : List Pk) (hu : KsAt w ax len us) (hc : len ≤ cx) (hn : ax = none → cx = 0) (hb : l.length + len ≤ 1000000) (hB : B ≤ w.heap.size)
    (h : ∀ a' c' w', RowK B w' (.slice a' (l.length + len) c') (l ++ us) → w.grownBy w' v.ownBlock → ((Value.slice a' (l.length + len) c').ownBlock = v.ownBlock ∨ (Value.slice a' (l.length + len) c').ownBlock = some w.heap.size) → wpList Try.prog ops Q rest (a.put o.dst (.slice a' (l.length + len) c')) w') :
    wpList Try.prog ops Q (o :: rest) a w := by
  refine wpList_plain hgd fun K hK => ?_
  obtain ⟨a', c', w', hr, h2, h3, h4⟩ := run_appK w o.type B v l hrow ax len cx us hu hc hn hb hB
  unfold Oper.wp execOp
  simp only [ho, resolve, invoke, builtin, Sem.run_bind, Sem.run_pure, Result.andThen_ok, List.map_toArray, List.map_cons, List.map_nil, hs, hx, hr]
  exact hK _ _ (h a' c' w' h2 h3 h4)
theorem step_appK {ops : Array Oper} {o : Oper} {a : Act} {K : Act → World → Prop} {Q : Exit → Act → World → Prop} {E : Prop} {w : World} (hw : Region.wanted o (yielded ops a.tmps) = true) (s x : Operand)
    (ho : o.op = .call { callee := .builtin .append, args := #[s, x], argTypes := #[51, 51] })
    (B : Nat) (v : Value) (l : List Pk) (hs : a.eval s = v) (hrow : RowK B w v l) (ax : Option Addr) (len cx : Nat) (hx : a.eval x = .slice ax len cx) (us : List Pk) (hu : KsAt w ax len us) (hc : len ≤ cx) (hn : ax = none → cx = 0) (hb : l.length + len ≤ 1000000) (hB : B ≤ w.heap.size)
    (h : ∀ a' c' w', RowK B w' (.slice a' (l.length + len) c') (l ++ us) → w.grownBy w' v.ownBlock → ((Value.slice a' (l.length + len) c').ownBlock = v.ownBlock ∨ (Value.slice a' (l.length + len) c').ownBlock = some w.heap.size) → K (a.put o.dst (.slice a' (l.length + len) c')) w') :
    if Region.wanted o (yielded ops a.tmps) = true then Oper.wp Try.prog o a w K Q else E := by
  rw [if_pos hw]
  obtain ⟨a', c', w', hr, h2, h3, h4⟩ := run_appK w o.type B v l hrow ax len cx us hu hc hn hb hB
  unfold Oper.wp execOp
  simp only [ho, resolve, invoke, builtin, Sem.run_bind, Sem.run_pure, Result.andThen_ok, List.map_toArray, List.map_cons, List.map_nil, hs, hx, hr]
  exact h a' c' w' h2 h3 h4
/-- One laid as a row. -/
theorem ksAt_one (w : World) (frx : Int) (tox : Int) (dx : ByteArray) (mx : Bool) : KsAt (w.alloc (.cells #[.int .i64 frx, .int .i64 tox, .string dx, .bool mx] 60)) (some ⟨w.heap.size, 0, none⟩) 1 [(frx, tox, dx, mx)] := ((rowK_lit w frx tox dx mx).isK rfl).1
theorem wpList_appK0 {ops : Array Oper} {rest : List Oper} {o : Oper} {a : Act} {Q : Exit → Act → World → Prop} {w : World} (hgd : o.guard = none) (s x : Operand)
    (ho : o.op = .call { callee := .builtin .append, args := #[s, x], argTypes := #[51, 51] })
    (hs : a.eval s = .slice (some ⟨w.heap.size, 0, none⟩) 0 0) (ax : Option Addr) (len cx : Nat) (hx : a.eval x = .slice ax len cx) (us : List Pk) (hu : KsAt w ax len us) (hc : len ≤ cx) (hn : ax = none → cx = 0) (hb : len ≤ 1000000)
    (h : ∀ a' c' w', RowK w.heap.size w' (.slice a' len c') us → Below w.heap.size w w' → wpList Try.prog ops Q rest (a.put o.dst (.slice a' len c')) w') :
    wpList Try.prog ops Q (o :: rest) a (w.alloc (.cells #[] 60)) := by
  refine wpList_appK hgd s x ho w.heap.size _ [] hs (rowK_new w) ax len cx hx us (ksAt_below hu (Joins.below_alloc1 _ _)) hc hn (by simpa using hb) (by simp) ?_
  intro a' c' w' h1 h2 _
  simp only [List.length_nil, Nat.zero_add, List.nil_append] at h1 ⊢
  exact h a' c' w' h1 (belK (rowK_new w) (Joins.below_alloc1 _ _) h2 (by simp))
/-- Slicings. -/
theorem slK_front (a : Option Addr) (len cap n : Nat) (h : n ≤ cap) (w : World) : (Instr.sliceAt 51 (.slice a len cap) none (some (.int .i64 n)) none).run Try.prog w = .ok (.slice a n cap) w := by
  rw [run_sliceAt_slice _ _ _ _ _ _ Try.underlying51]
  cases a <;> simp [Instr.slice, Instr.sliceBounds, Instr.sliceBound, asIntOf, run_underlying Try.underlying51, go_sem] <;> (intro hx; omega)
theorem slK_back (a : Option Addr) (len cap n : Nat) (h : n ≤ len) (w : World) : (Instr.sliceAt 51 (.slice a len cap) (some (.int .i64 n)) none none).run Try.prog w = .ok (.slice (if cap = n then a else a.map (·.add (n * 4))) (len - n) (cap - n)) w := by
  rw [run_sliceAt_slice _ _ _ _ _ _ Try.underlying51]
  simp [Instr.slice, Instr.sliceBounds, Instr.sliceBound, asIntOf, run_underlying Try.underlying51, go_sem]
  intro hx; omega
theorem KsAt.take {w : World} {a : Option Addr} {len : Nat} {ts : List Pk} (h : KsAt w a len ts) {n : Nat} (hn : n ≤ len) : KsAt w a n (ts.take n) := by
  have hs := h.size
  refine ⟨by rw [List.length_take]; omega, fun h0 => ?_⟩
  obtain ⟨b, off, rfl, hl, hf⟩ := h.lies (by omega)
  refine ⟨b, off, rfl, hl, fun i hi => ?_⟩
  have := hf i (by omega)
  rw [show (ts.take n).getD i pq0 = ts.getD i pq0 by simp [List.getD_eq_getElem?_getD, hi]]
  exact this
theorem KsAt.back {w : World} {a : Option Addr} {len cap : Nat} {ts : List Pk} (h : KsAt w a len ts) (hlc : len ≤ cap) {n : Nat} (hn : n ≤ len) : KsAt w (if cap = n then a else a.map (·.add (n * 4))) (len - n) (ts.drop n) := by
  have hs := h.size
  refine ⟨by rw [List.length_drop]; omega, fun h0 => ?_⟩
  obtain ⟨b, off, rfl, hl, hf⟩ := h.lies (by omega)
  have e : (if cap = n then some (⟨b, off, none⟩ : Addr) else (some (⟨b, off, none⟩ : Addr)).map (·.add (n * 4))) = some ⟨b, off + n * 4, none⟩ := by
    rw [if_neg (by omega)]
    simp [Addr.add_lit]
  refine ⟨b, off + n * 4, e, hl, fun i hi => ?_⟩
  have := hf (n + i) (by omega)
  rw [show off + n * 4 + i * 4 = off + (n + i) * 4 by omega, show (ts.drop n).getD i pq0 = ts.getD (n + i) pq0 by simp [List.getD_eq_getElem?_getD]]
  exact this
theorem back_noneK {a : Option Addr} {cap n : Nat} (h : a = none → cap = 0) : (if cap = n then a else a.map (·.add (n * 4))) = none → cap - n = 0 := fun e => by
  split at e
  · rw [h e]; simp
  · cases a with
    | none => rw [h rfl]; simp
    | some x => cases e
theorem flK_set (fs : List Pk) (i r : Nat) (hi : i < fs.length) (hr : r < 4) (v : Value) (f : Pk) (hf : c4K f = (c4K (fs.getD i pq0)).set r v) : (flK fs).set (i * 4 + r) v = flK (fs.set i f) := by
  induction fs generalizing i with
  | nil => exact absurd hi (by simp)
  | cons u us ih =>
    have hl : (c4K u).length = 4 := rfl
    cases i with
    | zero =>
      rw [List.set_cons_zero, flK_cons, flK_cons, Nat.zero_mul, Nat.zero_add, List.set_append_left _ _ (by rw [hl]; exact hr), hf]
      rfl
    | succ i =>
      rw [List.set_cons_succ, flK_cons, flK_cons, List.set_append_right _ _ (by rw [hl]; omega), hl, show (i + 1) * 4 + r - 4 = i * 4 + r by omega, ih i (by simpa using hi) (by simpa using hf)]
/-- A mark. -/
abbrev Bo := Bool
def bo0 : Bo := false
def c4B (f : Bo) : List Value := [.bool f]
def flB (fs : List Bo) : List Value := fs.flatMap c4B
theorem flB_cons (f : Bo) (fs : List Bo) : flB (f :: fs) = c4B f ++ flB fs := rfl
theorem flB_app (fs gs : List Bo) : flB (fs ++ gs) = flB fs ++ flB gs := by simp [flB]
theorem flB_len (fs : List Bo) : (flB fs).length = fs.length * 1 := by
  induction fs with
  | nil => rfl
  | cons u l ih =>
    have hl : (c4B u).length = 1 := rfl
    rw [flB_cons, List.length_append, ih, hl, List.length_cons]
    omega
theorem flB_one (fs : List Bo) : ∀ u ∈ flB fs, u.oneCell' = true := by
  intro u hu
  simp only [flB, List.mem_flatMap, c4B, List.mem_cons, List.not_mem_nil, or_false] at hu
  obtain ⟨f, _, rfl⟩ := hu
  rfl
theorem flB_get : ∀ (fs : List Bo) (i r : Nat), i < fs.length → r < 1 → (flB fs)[i * 1 + r]? = (c4B (fs.getD i bo0))[r]?
  | [], i, r, h, _ => absurd h (by simp)
  | u :: us, 0, r, _, hr => by
    rw [flB_cons, Nat.zero_mul, Nat.zero_add, List.getElem?_append_left (by show r < 1; exact hr)]
    rfl
  | u :: us, i + 1, r, h, hr => by
    have hl : (c4B u).length = 1 := rfl
    rw [flB_cons, List.getElem?_append_right (by rw [hl]; omega), hl, show (i + 1) * 1 + r - 1 = i * 1 + r by omega, flB_get us i r (by simpa using h) hr]
    rfl
theorem eltB : Elt 27 4 1 := elt_of (bytes := 1) Try.underlying27 (by kernel_rfl) (by kernel_rfl) (by decide) (by decide)
/-- The four cells of a frame lie there. -/
structure B4 (w : World) (b o : Nat) (f : Bo) : Prop where
  m : w.cell? ⟨b, o, none⟩ = some (.bool f)
theorem B4.kept {w w' : World} {b o : Nat} {f : Bo} (h : B4 w b o f) (hb : w'.heap[b]? = w.heap[b]?) : B4 w' b o f := by
  obtain ⟨h1⟩ := h
  constructor <;> (unfold World.cell? at *; rw [hb]; assumption)
theorem B4.below {w w' : World} {B b o : Nat} {f : Bo} (h : B4 w b o f) (hb : Below B w w') (hl : b < B) : B4 w' b o f := h.kept (hb.block b hl)
/-- The cells of frames lie there. -/
structure BsAt (w : World) (a : Option Addr) (len : Nat) (fs : List Bo) : Prop where
  size : fs.length = len
  lies : 0 < len → ∃ b off, a = some ⟨b, off, none⟩ ∧ b < w.heap.size ∧ ∀ i, i < len → B4 w b (off + i * 1) (fs.getD i bo0)
theorem bsAt_below {w w' : World} {B : Nat} {a : Option Addr} {len : Nat} {fs : List Bo} (h : BsAt w a len fs) (hb : Below B w w') (hB : w.heap.size ≤ B := by exact Nat.le_refl _) : BsAt w' a len fs :=
  ⟨h.size, fun h0 => by
    obtain ⟨b, off, e, hl, hf⟩ := h.lies h0
    exact ⟨b, off, e, by have := hb.size; omega, fun i hi => (hf i hi).below hb (by omega)⟩⟩
theorem BsAt.asit {w w' : World} {a : Option Addr} {len : Nat} {fs : List Bo} (h : BsAt w a len fs) (e : w'.heap = w.heap) : BsAt w' a len fs :=
  ⟨h.size, fun h0 => by
    obtain ⟨b, off, e1, hl, hf⟩ := h.lies h0
    exact ⟨b, off, e1, by rw [e]; exact hl, fun i hi => (hf i hi).kept (by rw [e])⟩⟩
theorem bsAt_news {w : World} {ad : Addr} {len : Nat} {fs : List Bo} (h : BsAt w (some ad) len fs) : ∀ j v, (flB fs)[j]? = some v → w.cell? (ad.add j) = some v := by
  intro j v hj
  have hs := h.size
  have hjl : j < fs.length * 1 := by
    have := (List.getElem?_eq_some_iff.1 hj).1
    rw [flB_len] at this
    exact this
  obtain ⟨b, off, e, _, hf⟩ := h.lies (by omega)
  simp only [Option.some.injEq] at e
  subst e
  have hi := hf (j / 1) (by omega)
  have hg := flB_get fs (j / 1) (j % 1) (by omega) (by omega)
  rw [show j / 1 * 1 + j % 1 = j by omega, hj] at hg
  rw [Go.WideShapes.add_plain]
  have hj4 : off + j = off + j / 1 * 1 + j % 1 := by omega
  rw [hj4, hg]
  rw [show j % 1 = 0 by omega]
  exact hi.m
/-- A row of frames of the call's own. -/
def RowB (B : Nat) (w : World) (v : Value) (fs : List Bo) : Prop := w.ownsRow B 4 1 v fs.length (flB fs)
theorem RowB.f4 {B w g c fs} (h : RowB B w (.slice (some ⟨g, 0, none⟩) fs.length c) fs) (i : Nat) (hi : i < fs.length) : B4 w g (i * 1) (fs.getD i bo0) := by
  have k0 := World.ownsRow.cellAt h (i * 1) (by omega)
  have hg := flB_get fs i 0 hi (by decide)
  rw [Nat.add_zero] at hg
  rw [hg] at k0
  exact ⟨k0⟩
theorem RowB.is {B w v fs} (h : RowB B w v fs) : ∃ a c, v = .slice a fs.length c ∧ BsAt w a fs.length fs ∧ fs.length ≤ c ∧ (a = none → c = 0) := by
  rcases h.2 with ⟨rfl, h0⟩ | ⟨g, cap, cur, rfl, _, hg, hc, _⟩
  · rw [h0]; exact ⟨none, 0, rfl, ⟨h0, fun hx => absurd hx (Nat.lt_irrefl _)⟩, Nat.le_refl _, fun _ => rfl⟩
  · refine ⟨some ⟨g, 0, none⟩, cap, rfl, ⟨rfl, fun _ => ⟨g, 0, rfl, (Array.getElem?_eq_some_iff.1 hg).1, fun i hi => ?_⟩⟩, hc, fun e => by cases e⟩
    rw [Nat.zero_add]
    exact RowB.f4 h i hi
theorem RowB.isB {B w a n c fs} (h : RowB B w (.slice a n c) fs) (hn : n = fs.length) : BsAt w a n fs ∧ n ≤ c ∧ (a = none → c = 0) := by
  subst hn
  obtain ⟨a', c', e, hi, h1, h2⟩ := h.is
  cases e
  exact ⟨hi, h1, h2⟩
theorem rowB_nil (B : Nat) (w : World) : RowB B w (.slice none 0 0) [] := World.ownsRow_nil w B _ _
theorem RowB.lt {B w v fs} (h : RowB B w v fs) (j : Nat) (hj : v.ownBlock = some j) : B ≤ j ∧ j < w.heap.size := World.ownsRow.lt h j hj
theorem RowB.typ {B w v fs} (h : RowB B w v fs) (j : Nat) (hj : v.ownBlock = some j) : ∃ cur, w.heap[j]? = some (.cells cur 4 (0, 0)) := by
  rcases h.2 with ⟨rfl, _⟩ | ⟨g, cap, cur, rfl, _, hg, _⟩
  · cases hj
  · simp only [Value.ownBlock, Option.some.injEq] at hj
    subst hj
    exact ⟨cur, hg⟩
theorem RowB.kept {B w w1 v fs} (h : RowB B w v fs) {row : Option Nat} (hg : w.grownBy w1 row) (hne : v.ownBlock = none ∨ v.ownBlock ≠ row) : RowB B w1 v fs := World.ownsRow.kept h hg hne
theorem RowB.below {B w w1 v fs} (h : RowB B w v fs) (hb : Below w.heap.size w w1) : RowB B w1 v fs := h.kept (grownOf none hb) (Classical.em _)
theorem RowB.alloc {B w v fs} (h : RowB B w v fs) (o : Obj) : RowB B (w.alloc o) v fs := World.ownsRow.alloc h o
theorem RowB.same {B w w' v fs} (h : RowB B w v fs) (hv : ∀ j, v.ownBlock = some j → w'.heap[j]? = w.heap[j]?) : RowB B w' v fs := by
  obtain ⟨h1, h2⟩ := h
  refine ⟨h1, ?_⟩
  rcases h2 with h2 | ⟨g, cap, cur, rfl, hb, hg, r⟩
  · exact .inl h2
  · exact .inr ⟨g, cap, cur, rfl, hb, (hv g rfl).trans hg, r⟩
theorem RowB.asit {B w w' v fs} (h : RowB B w v fs) (e : w'.heap = w.heap) : RowB B w' v fs := h.same fun j _ => by rw [e]
theorem RowB.lower {B B' w v fs} (h : RowB B w v fs) (hB : B' ≤ B) : RowB B' w v fs := by
  obtain ⟨h1, h2⟩ := h
  refine ⟨h1, ?_⟩
  rcases h2 with h0 | ⟨g, cap, cur, e, hb, r⟩
  · exact .inl h0
  · exact .inr ⟨g, cap, cur, e, by omega, r⟩
theorem rowB_new (w : World) : RowB w.heap.size (w.alloc (.cells #[] 4)) (.slice (some ⟨w.heap.size, 0, none⟩) 0 0) [] := World.ownsRow_lit w #[] 0 (Nat.le_refl _) (Nat.zero_le _) rfl
/-- A literal of one. -/
theorem rowB_lit (w : World) (mx : Bool) : RowB w.heap.size (w.alloc (.cells #[.bool mx] 4)) (.slice (some ⟨w.heap.size, 0, none⟩) 1 1) [mx] :=
  ⟨rfl, .inr ⟨w.heap.size, 1, _, rfl, Nat.le_refl _, heap_alloc_new _ _, Nat.le_refl _, by unfold maxLen; omega, rfl, rfl⟩⟩
theorem belB {B : Nat} {w w1 w2 : World} {v : Value} {fs : List Bo} (hr : RowB B w1 v fs) (h : Below B w w1) (hg : w1.grownBy w2 v.ownBlock) (hB : B ≤ w1.heap.size) : Below B w w2 := h.grown hg hB (fun j hj => (World.ownsRow.lt hr j hj).1)
theorem run_appB (w : World) (ty : TypeId) (B : Nat) (v : Value) (l : List Bo) (hrow : RowB B w v l) (ax : Option Addr) (len cx : Nat) (us : List Bo) (hu : BsAt w ax len us) (hc : len ≤ cx) (hn : ax = none → cx = 0) (hb : l.length + len ≤ 1000000) (hB : B ≤ w.heap.size) :
    ∃ a' c' w', (Builtin.append_ #[27, 27] ty #[v, .slice ax len cx]).run Try.prog w = .ok (.slice a' (l.length + len) c') w' ∧ RowB B w' (.slice a' (l.length + len) c') (l ++ us) ∧ w.grownBy w' v.ownBlock ∧ ((Value.slice a' (l.length + len) c').ownBlock = v.ownBlock ∨ (Value.slice a' (l.length + len) c').ownBlock = some w.heap.size) := by
  obtain ⟨v', w', h1, h2, h3, h4⟩ := run_app eltB w ty B v l.length (flB l) hrow ax len cx (flB us) (by rw [flB_len, hu.size]) (fun ad e => by subst e; exact bsAt_news hu) (flB_one us) hc hn hb hB
  have hr : RowB B w' v' (l ++ us) := by
    unfold RowB
    rw [List.length_append, hu.size, flB_app]
    exact h2
  obtain ⟨a', c', e, _⟩ := hr.is
  rw [List.length_append, hu.size] at e
  subst e
  exact ⟨a', c', w', h1, hr, h3, h4⟩
theorem wpList_appB {ops : Array Oper} {rest : List Oper} {o : Oper} {a : Act} {Q : Exit → Act → World → Prop} {w : World} (hgd : o.guard = none) (s x : Operand)
    (ho : o.op = .call { callee := .builtin .append, args := #[s, x], argTypes := #[27, 27] })
    (B : Nat) (v : Value) (l : List Bo) (hs : a.eval s = v) (hrow : RowB B w v l) (ax : Option Addr) (len cx : Nat) (hx : a.eval x = .slice ax len cx) (us : List Bo) (hu : BsAt w ax len us) (hc : len ≤ cx) (hn : ax = none → cx = 0) (hb : l.length + len ≤ 1000000) (hB : B ≤ w.heap.size)
    (h : ∀ a' c' w', RowB B w' (.slice a' (l.length + len) c') (l ++ us) → w.grownBy w' v.ownBlock → ((Value.slice a' (l.length + len) c').ownBlock = v.ownBlock ∨ (Value.slice a' (l.length + len) c').ownBlock = some w.heap.size) → wpList Try.prog ops Q rest (a.put o.dst (.slice a' (l.length + len) c')) w') :
    wpList Try.prog ops Q (o :: rest) a w := by
  refine wpList_plain hgd fun K hK => ?_
  obtain ⟨a', c', w', hr, h2, h3, h4⟩ := run_appB w o.type B v l hrow ax len cx us hu hc hn hb hB
  unfold Oper.wp execOp
  simp only [ho, resolve, invoke, builtin, Sem.run_bind, Sem.run_pure, Result.andThen_ok, List.map_toArray, List.map_cons, List.map_nil, hs, hx, hr]
  exact hK _ _ (h a' c' w' h2 h3 h4)
theorem step_appB {ops : Array Oper} {o : Oper} {a : Act} {K : Act → World → Prop} {Q : Exit → Act → World → Prop} {E : Prop} {w : World} (hw : Region.wanted o (yielded ops a.tmps) = true) (s x : Operand)
    (ho : o.op = .call { callee := .builtin .append, args := #[s, x], argTypes := #[27, 27] })
    (B : Nat) (v : Value) (l : List Bo) (hs : a.eval s = v) (hrow : RowB B w v l) (ax : Option Addr) (len cx : Nat) (hx : a.eval x = .slice ax len cx) (us : List Bo) (hu : BsAt w ax len us) (hc : len ≤ cx) (hn : ax = none → cx = 0) (hb : l.length + len ≤ 1000000) (hB : B ≤ w.heap.size)
    (h : ∀ a' c' w', RowB B w' (.slice a' (l.length + len) c') (l ++ us) → w.grownBy w' v.ownBlock → ((Value.slice a' (l.length + len) c').ownBlock = v.ownBlock ∨ (Value.slice a' (l.length + len) c').ownBlock = some w.heap.size) → K (a.put o.dst (.slice a' (l.length + len) c')) w') :
    if Region.wanted o (yielded ops a.tmps) = true then Oper.wp Try.prog o a w K Q else E := by
  rw [if_pos hw]
  obtain ⟨a', c', w', hr, h2, h3, h4⟩ := run_appB w o.type B v l hrow ax len cx us hu hc hn hb hB
  unfold Oper.wp execOp
  simp only [ho, resolve, invoke, builtin, Sem.run_bind, Sem.run_pure, Result.andThen_ok, List.map_toArray, List.map_cons, List.map_nil, hs, hx, hr]
  exact h a' c' w' h2 h3 h4
/-- One laid as a row. -/
theorem bsAt_one (w : World) (mx : Bool) : BsAt (w.alloc (.cells #[.bool mx] 4)) (some ⟨w.heap.size, 0, none⟩) 1 [mx] := ((rowB_lit w mx).isB rfl).1
theorem wpList_appB0 {ops : Array Oper} {rest : List Oper} {o : Oper} {a : Act} {Q : Exit → Act → World → Prop} {w : World} (hgd : o.guard = none) (s x : Operand)
    (ho : o.op = .call { callee := .builtin .append, args := #[s, x], argTypes := #[27, 27] })
    (hs : a.eval s = .slice (some ⟨w.heap.size, 0, none⟩) 0 0) (ax : Option Addr) (len cx : Nat) (hx : a.eval x = .slice ax len cx) (us : List Bo) (hu : BsAt w ax len us) (hc : len ≤ cx) (hn : ax = none → cx = 0) (hb : len ≤ 1000000)
    (h : ∀ a' c' w', RowB w.heap.size w' (.slice a' len c') us → Below w.heap.size w w' → wpList Try.prog ops Q rest (a.put o.dst (.slice a' len c')) w') :
    wpList Try.prog ops Q (o :: rest) a (w.alloc (.cells #[] 4)) := by
  refine wpList_appB hgd s x ho w.heap.size _ [] hs (rowB_new w) ax len cx hx us (bsAt_below hu (Joins.below_alloc1 _ _)) hc hn (by simpa using hb) (by simp) ?_
  intro a' c' w' h1 h2 _
  simp only [List.length_nil, Nat.zero_add, List.nil_append] at h1 ⊢
  exact h a' c' w' h1 (belB (rowB_new w) (Joins.below_alloc1 _ _) h2 (by simp))
/-- Slicings. -/
theorem slB_front (a : Option Addr) (len cap n : Nat) (h : n ≤ cap) (w : World) : (Instr.sliceAt 27 (.slice a len cap) none (some (.int .i64 n)) none).run Try.prog w = .ok (.slice a n cap) w := by
  rw [run_sliceAt_slice _ _ _ _ _ _ Try.underlying27]
  cases a <;> simp [Instr.slice, Instr.sliceBounds, Instr.sliceBound, asIntOf, run_underlying Try.underlying27, go_sem] <;> (intro hx; omega)
theorem slB_back (a : Option Addr) (len cap n : Nat) (h : n ≤ len) (w : World) : (Instr.sliceAt 27 (.slice a len cap) (some (.int .i64 n)) none none).run Try.prog w = .ok (.slice (if cap = n then a else a.map (·.add (n * 1))) (len - n) (cap - n)) w := by
  rw [run_sliceAt_slice _ _ _ _ _ _ Try.underlying27]
  simp [Instr.slice, Instr.sliceBounds, Instr.sliceBound, asIntOf, run_underlying Try.underlying27, go_sem]
  intro hx; omega
theorem BsAt.take {w : World} {a : Option Addr} {len : Nat} {ts : List Bo} (h : BsAt w a len ts) {n : Nat} (hn : n ≤ len) : BsAt w a n (ts.take n) := by
  have hs := h.size
  refine ⟨by rw [List.length_take]; omega, fun h0 => ?_⟩
  obtain ⟨b, off, rfl, hl, hf⟩ := h.lies (by omega)
  refine ⟨b, off, rfl, hl, fun i hi => ?_⟩
  have := hf i (by omega)
  rw [show (ts.take n).getD i bo0 = ts.getD i bo0 by simp [List.getD_eq_getElem?_getD, hi]]
  exact this
theorem BsAt.back {w : World} {a : Option Addr} {len cap : Nat} {ts : List Bo} (h : BsAt w a len ts) (hlc : len ≤ cap) {n : Nat} (hn : n ≤ len) : BsAt w (if cap = n then a else a.map (·.add (n * 1))) (len - n) (ts.drop n) := by
  have hs := h.size
  refine ⟨by rw [List.length_drop]; omega, fun h0 => ?_⟩
  obtain ⟨b, off, rfl, hl, hf⟩ := h.lies (by omega)
  have e : (if cap = n then some (⟨b, off, none⟩ : Addr) else (some (⟨b, off, none⟩ : Addr)).map (·.add (n * 1))) = some ⟨b, off + n * 1, none⟩ := by
    rw [if_neg (by omega)]
    simp [Addr.add_lit]
  refine ⟨b, off + n * 1, e, hl, fun i hi => ?_⟩
  have := hf (n + i) (by omega)
  rw [show off + n * 1 + i * 1 = off + (n + i) * 1 by omega, show (ts.drop n).getD i bo0 = ts.getD (n + i) bo0 by simp [List.getD_eq_getElem?_getD]]
  exact this
theorem back_noneB {a : Option Addr} {cap n : Nat} (h : a = none → cap = 0) : (if cap = n then a else a.map (·.add (n * 1))) = none → cap - n = 0 := fun e => by
  split at e
  · rw [h e]; simp
  · cases a with
    | none => rw [h rfl]; simp
    | some x => cases e
theorem flB_set (fs : List Bo) (i r : Nat) (hi : i < fs.length) (hr : r < 1) (v : Value) (f : Bo) (hf : c4B f = (c4B (fs.getD i bo0)).set r v) : (flB fs).set (i * 1 + r) v = flB (fs.set i f) := by
  induction fs generalizing i with
  | nil => exact absurd hi (by simp)
  | cons u us ih =>
    have hl : (c4B u).length = 1 := rfl
    cases i with
    | zero =>
      rw [List.set_cons_zero, flB_cons, flB_cons, Nat.zero_mul, Nat.zero_add, List.set_append_left _ _ (by rw [hl]; exact hr), hf]
      rfl
    | succ i =>
      rw [List.set_cons_succ, flB_cons, flB_cons, List.set_append_right _ _ (by rw [hl]; omega), hl, show (i + 1) * 1 + r - 1 = i * 1 + r by omega, ih i (by simpa using hi) (by simpa using hf)]
end Go.Proofs.Ytjnjpphbclepbaa
