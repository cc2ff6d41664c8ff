/- Rows that grow: of updates, of rounds; append, in one law each. -/
import Derived.Test.YteonmljchcekpaaYP
import Derived.Laws.OwnMore
import Derived.Maps.AppendAt
namespace Go.Proofs.Yteonmljchcekpaa
open Go Go.RowKit
set_option maxRecDepth 20000
/-- The cells of updates, one behind the other. -/
def cellsU4 (u : Up) : List Value := [.string u.1, .int .i64 u.2.1, .int .i64 u.2.2.1, .string u.2.2.2]
def flU (us : List Up) : List Value := us.flatMap cellsU4
theorem flU_snoc (us : List Up) (u : Up) : flU (us ++ [u]) = flU us ++ cellsU4 u := by simp [flU]
theorem flU_len (us : List Up) : (flU us).length = us.length * 4 := by
  induction us with
  | nil => rfl
  | cons u l ih =>
    have e : flU (u :: l) = cellsU4 u ++ flU l := rfl
    have hl : (cellsU4 u).length = 4 := rfl
    rw [e, List.length_append, ih, hl, List.length_cons]
    omega
theorem flU_get : ∀ (us : List Up) (i r : Nat), i < us.length → r < 4 → (flU us)[i * 4 + r]? = (cellsU4 (us.getD i up0))[r]?
  | [], i, r, h, _ => absurd h (by simp)
  | u :: us, 0, r, _, hr => by
    have e : flU (u :: us) = cellsU4 u ++ flU us := rfl
    rw [e, Nat.zero_mul, Nat.zero_add, List.getElem?_append_left (by show r < 4; exact hr)]
    rfl
  | u :: us, i + 1, r, h, hr => by
    have e : flU (u :: us) = cellsU4 u ++ flU us := rfl
    have hl : (cellsU4 u).length = 4 := rfl
    rw [e, List.getElem?_append_right (by rw [hl]; omega), hl, show (i + 1) * 4 + r - 4 = i * 4 + r by omega, flU_get us i r (by simpa using h) hr]
    rfl
/-- Two lists of updates are one if their cells are. -/
theorem flU_at (us : List Up) (j : Nat) (h : j < us.length * 4) : (flU us)[j]? = (cellsU4 (us.getD (j / 4) up0))[j % 4]? := by
  have := flU_get us (j / 4) (j % 4) (by omega) (by omega)
  rw [show j / 4 * 4 + j % 4 = j by omega] at this
  exact this
/-- The cells of rounds, one behind the other. -/
def cellsR3 (u : Rn) : List Value := [.int .i64 u.o, .int .i64 u.n, .slice u.a u.len u.cap]
def flR (us : List Rn) : List Value := us.flatMap cellsR3
theorem flR_snoc (us : List Rn) (u : Rn) : flR (us ++ [u]) = flR us ++ cellsR3 u := by simp [flR]
theorem flR_len (us : List Rn) : (flR us).length = us.length * 3 := by
  induction us with
  | nil => rfl
  | cons u l ih =>
    have e : flR (u :: l) = cellsR3 u ++ flR l := rfl
    have hl : (cellsR3 u).length = 3 := rfl
    rw [e, List.length_append, ih, hl, List.length_cons]
    omega
theorem flR_get : ∀ (us : List Rn) (i r : Nat), i < us.length → r < 3 → (flR us)[i * 3 + r]? = (cellsR3 (us.getD i rn0))[r]?
  | [], i, r, h, _ => absurd h (by simp)
  | u :: us, 0, r, _, hr => by
    have e : flR (u :: us) = cellsR3 u ++ flR us := rfl
    rw [e, Nat.zero_mul, Nat.zero_add, List.getElem?_append_left (by show r < 3; exact hr)]
    rfl
  | u :: us, i + 1, r, h, hr => by
    have e : flR (u :: us) = cellsR3 u ++ flR us := rfl
    have hl : (cellsR3 u).length = 3 := rfl
    rw [e, List.getElem?_append_right (by rw [hl]; omega), hl, show (i + 1) * 3 + r - 3 = i * 3 + r by omega, flR_get us i r (by simpa using h) hr]
    rfl
/-- Two lists of rounds are one if their cells are. -/
theorem flR_at (us : List Rn) (j : Nat) (h : j < us.length * 3) : (flR us)[j]? = (cellsR3 (us.getD (j / 3) rn0))[j % 3]? := by
  have := flR_get us (j / 3) (j % 3) (by omega) (by omega)
  rw [show j / 3 * 3 + j % 3 = j by omega] at this
  exact this
theorem flU_app (us vs : List Up) : flU (us ++ vs) = flU us ++ flU vs := by simp [flU]
theorem flR_app (us vs : List Rn) : flR (us ++ vs) = flR us ++ flR vs := by simp [flR]
theorem flU_one (us : List Up) : ∀ v ∈ flU us, v.oneCell' = true := by
  intro v hv
  simp only [flU, List.mem_flatMap] at hv
  obtain ⟨u, _, hu⟩ := hv
  simp only [cellsU4, List.mem_cons, List.not_mem_nil, or_false] at hu
  rcases hu with rfl | rfl | rfl | rfl <;> rfl
theorem flR_one (us : List Rn) : ∀ v ∈ flR us, v.oneCell' = true := by
  intro v hv
  simp only [flR, List.mem_flatMap] at hv
  obtain ⟨u, _, hu⟩ := hv
  simp only [cellsR3, List.mem_cons, List.not_mem_nil, or_false] at hu
  rcases hu with rfl | rfl | rfl <;> rfl
/-- The cells of rounds lie there. -/
structure RsAt (w : World) (a : Option Addr) (len : Nat) (rs : List Rn) : Prop where
  size : rs.length = len
  lies : 0 < len → ∃ b off, a = some ⟨b, off, none⟩ ∧ Rs w b off rs
theorem IsRs.at {w : World} {a : Option Addr} {len : Nat} {rs : List Rn} (h : IsRs w a len rs) : RsAt w a len rs := ⟨h.size, h.lies⟩
theorem rsAt_below {w w' : World} {B : Nat} {a : Option Addr} {len : Nat} {rs : List Rn} (h : RsAt w a len rs) (hb : Below B w w') (hB : w.heap.size ≤ B := by exact Nat.le_refl _) : RsAt w' a len rs :=
  ⟨h.size, fun h0 => by
    obtain ⟨b, off, e, hf⟩ := h.lies h0
    have hl := hf.lt (by rw [h.size]; exact h0)
    exact ⟨b, off, e, hf.below hb (by omega)⟩⟩
theorem isUs_news {w : World} {ad : Addr} {len : Nat} {us : List Up} (h : IsUs w (some ad) len us) : ∀ j v, (flU us)[j]? = some v → w.cell? (ad.add j) = some v := by
  intro j v hj
  have hs := h.size
  have hjl : j < us.length * 4 := by
    have := (List.getElem?_eq_some_iff.1 hj).1
    rw [flU_len] at this
    exact this
  obtain ⟨b, off, e, hf⟩ := h.lies (by omega)
  simp only [Option.some.injEq] at e
  subst e
  rw [flU_at us j hjl] at hj
  have ea : (⟨b, off, none⟩ : Addr).add j = ⟨b, off + j / 4 * 4 + j % 4, none⟩ := by rw [Go.WideShapes.add_plain]; congr 1; omega
  rw [ea]
  have hi : j / 4 < us.length := by omega
  rcases (show j % 4 = 0 ∨ j % 4 = 1 ∨ j % 4 = 2 ∨ j % 4 = 3 by omega) with h0 | h0 | h0 | h0
  · rw [h0] at hj ⊢; rw [← hj]; exact hf.key _ hi
  · rw [h0] at hj ⊢; rw [← hj]; exact hf.k _ hi
  · rw [h0] at hj ⊢; rw [← hj]; exact hf.n _ hi
  · rw [h0] at hj ⊢; rw [← hj]; exact hf.t _ hi
theorem rsAt_news {w : World} {ad : Addr} {len : Nat} {us : List Rn} (h : RsAt w (some ad) len us) : ∀ j v, (flR us)[j]? = some v → w.cell? (ad.add j) = some v := by
  intro j v hj
  have hs := h.size
  have hjl : j < us.length * 3 := by
    have := (List.getElem?_eq_some_iff.1 hj).1
    rw [flR_len] at this
    exact this
  obtain ⟨b, off, e, hf⟩ := h.lies (by omega)
  simp only [Option.some.injEq] at e
  subst e
  rw [flR_at us j hjl] at hj
  have ea : (⟨b, off, none⟩ : Addr).add j = ⟨b, off + j / 3 * 3 + j % 3, none⟩ := by rw [Go.WideShapes.add_plain]; congr 1; omega
  rw [ea]
  have hi : j / 3 < us.length := by omega
  rcases (show j % 3 = 0 ∨ j % 3 = 1 ∨ j % 3 = 2 by omega) with h0 | h0 | h0
  · rw [h0] at hj ⊢; rw [← hj]; exact hf.o _ hi
  · rw [h0] at hj ⊢; rw [← hj]; exact hf.n _ hi
  · rw [h0] at hj ⊢; rw [← hj]; exact hf.u _ hi
/-- A row of updates of the call's own. -/
def RowU (B : Nat) (w : World) (v : Value) (l : List Up) : Prop := w.ownsRow B 42 4 v l.length (flU l)
/-- A row of rounds of the call's own. -/
def RowR (B : Nat) (w : World) (v : Value) (l : List Rn) : Prop := w.ownsRow B 45 3 v l.length (flR l)
theorem RowU.is {B w v l} (h : RowU B w v l) : ∃ a c, v = .slice a l.length c ∧ IsUs w a l.length l ∧ l.length ≤ c ∧ (a = none → c = 0) := by
  rcases h.2 with ⟨rfl, h0⟩ | ⟨g, cap, cur, rfl, _, _, hc, _⟩
  · rw [h0]; exact ⟨none, 0, rfl, ⟨h0, fun hx => absurd hx (Nat.lt_irrefl _)⟩, Nat.le_refl _, fun _ => rfl⟩
  · refine ⟨some ⟨g, 0, none⟩, cap, rfl, ⟨rfl, fun _ => ⟨g, 0, rfl, four fun i hi => ?_⟩⟩, hc, fun e => by cases e⟩
    have hc : ∀ r, r < 4 → w.cell? ⟨g, 0 + i * 4 + r, none⟩ = (cellsU4 (l.getD i up0))[r]? := fun r hr => by
      rw [Nat.zero_add, World.ownsRow.cellAt h (i * 4 + r) (by omega), flU_get l i r hi hr]
    exact ⟨hc 0 (by omega), hc 1 (by omega), hc 2 (by omega), hc 3 (by omega)⟩
theorem RowR.is {B w v l} (h : RowR B w v l) : ∃ a c, v = .slice a l.length c ∧ RsAt w a l.length l ∧ l.length ≤ c ∧ (a = none → c = 0) := by
  rcases h.2 with ⟨rfl, h0⟩ | ⟨g, cap, cur, rfl, _, _, hc, _⟩
  · rw [h0]; exact ⟨none, 0, rfl, ⟨h0, fun hx => absurd hx (Nat.lt_irrefl _)⟩, Nat.le_refl _, fun _ => rfl⟩
  · refine ⟨some ⟨g, 0, none⟩, cap, rfl, ⟨rfl, fun _ => ⟨g, 0, rfl, three fun i hi => ?_⟩⟩, hc, fun e => by cases e⟩
    have hc : ∀ r, r < 3 → w.cell? ⟨g, 0 + i * 3 + r, none⟩ = (cellsR3 (l.getD i rn0))[r]? := fun r hr => by
      rw [Nat.zero_add, World.ownsRow.cellAt h (i * 3 + r) (by omega), flR_get l i r hi hr]
    exact ⟨hc 0 (by omega), hc 1 (by omega), hc 2 (by omega)⟩
theorem RowU.isU {B w a n c l} (h : RowU B w (.slice a n c) l) (hn : n = l.length) : IsUs w a n l ∧ n ≤ c ∧ (a = none → c = 0) := by
  subst hn
  obtain ⟨a', c', e, hi, h1, h2⟩ := h.is
  cases e
  exact ⟨hi, h1, h2⟩
theorem RowR.isR {B w a n c l} (h : RowR B w (.slice a n c) l) (hn : n = l.length) (he : ∀ r ∈ l, Ru w r) : IsRs w a n l ∧ n ≤ c ∧ (a = none → c = 0) := by
  subst hn
  obtain ⟨a', c', e, hi, h1, h2⟩ := h.is
  cases e
  exact ⟨⟨hi.size, hi.lies, he⟩, h1, h2⟩
theorem RowU.kept {B w w1 v l} (h : RowU B w v l) {row : Option Nat} (hg : w.grownBy w1 row) (hne : v.ownBlock = none ∨ v.ownBlock ≠ row) : RowU B w1 v l := World.ownsRow.kept h hg hne
theorem RowR.kept {B w w1 v l} (h : RowR B w v l) {row : Option Nat} (hg : w.grownBy w1 row) (hne : v.ownBlock = none ∨ v.ownBlock ≠ row) : RowR B w1 v l := World.ownsRow.kept h hg hne
theorem grownOf {a b : World} (row : Option Nat) (h : Below a.heap.size a b) : a.grownBy b row := ⟨h.os, h.tape, h.output, h.size, fun j hj _ => h.block j hj⟩
theorem RowU.below {B w w1 v l} (h : RowU B w v l) (hb : Below w.heap.size w w1) : RowU B w1 v l := h.kept (grownOf none hb) (Classical.em _)
theorem RowR.below {B w w1 v l} (h : RowR B w v l) (hb : Below w.heap.size w w1) : RowR B w1 v l := h.kept (grownOf none hb) (Classical.em _)
theorem RowU.alloc {B w v l} (h : RowU B w v l) (o : Obj) : RowU B (w.alloc o) v l := World.ownsRow.alloc h o
theorem RowR.alloc {B w v l} (h : RowR B w v l) (o : Obj) : RowR B (w.alloc o) v l := World.ownsRow.alloc h o
theorem rowU_new (w : World) : RowU w.heap.size (w.alloc (.cells #[] 42)) (.slice (some ⟨w.heap.size, 0, none⟩) 0 0) [] := World.ownsRow_lit w #[] 0 (Nat.le_refl _) (Nat.zero_le _) rfl
theorem rowR_new (w : World) : RowR w.heap.size (w.alloc (.cells #[] 45)) (.slice (some ⟨w.heap.size, 0, none⟩) 0 0) [] := World.ownsRow_lit w #[] 0 (Nat.le_refl _) (Nat.zero_le _) rfl
theorem rowR_nil (B : Nat) (w : World) : RowR B w (.slice none 0 0) [] := World.ownsRow_nil w B _ _
/-- Below, behind an append to a row from the base on. -/
theorem belU {B : Nat} {w w1 w2 : World} {v : Value} {l : List Up} (hr : RowU B w1 v l) (h : Below B w w1) (hg : w1.grownBy w2 v.ownBlock) (hB : B ≤ w1.heap.size) : Below B w w2 := h.grown hg hB (fun j hj => (World.ownsRow.lt hr j hj).1)
theorem belR {B : Nat} {w w1 w2 : World} {v : Value} {l : List Rn} (hr : RowR B w1 v l) (h : Below B w w1) (hg : w1.grownBy w2 v.ownBlock) (hB : B ≤ w1.heap.size) : Below B w w2 := h.grown hg hB (fun j hj => (World.ownsRow.lt hr j hj).1)
/-- A row's elements. -/
def Elt (t e : TypeId) (size : Nat) : Prop := ∃ i z, Try.prog.underlying t = some (.slice e) ∧ Try.prog.info? e = some i ∧ i.zero = some z ∧ i.size = size ∧ i.bytes ≤ 100 ∧ z.cells.size = size ∧ 0 < size
theorem elt_of {t e : TypeId} {size bytes : Nat} (ht : Try.prog.underlying t = some (.slice e)) (h1 : (Try.prog.info? e).map (fun i => (i.size, i.bytes)) = some (size, bytes)) (h2 : ((Try.prog.info? e).bind (·.zero)).map (fun z => z.cells.size) = some size) (hb : bytes ≤ 100) (hs : 0 < size) : Elt t e size := by
  unfold Elt
  cases h : Try.prog.info? e with
  | none => rw [h] at h1; cases h1
  | some i =>
    rw [h] at h1 h2
    simp at h1 h2
    obtain ⟨z, hz, hs'⟩ := h2
    exact ⟨i, z, ht, rfl, hz, h1.1, by omega, hs', hs⟩
theorem eltU : Elt 22 42 4 := elt_of (bytes := 48) Try.underlying22 (by kernel_rfl) (by kernel_rfl) (by decide) (by decide)
theorem eltR : Elt 23 45 3 := elt_of (bytes := 40) Try.underlying23 (by kernel_rfl) (by kernel_rfl) (by decide) (by decide)
theorem run_app {t e : TypeId} {size : Nat} (hE : Elt t e size) (w : World) (ty : TypeId) (B : Nat) (v : Value) (n : Nat) (xs : List Value) (hown : w.ownsRow B e size v n xs) (ax : Option Addr) (len cx : Nat) (news : List Value) (hl : news.length = len * size)
    (hnews : ∀ ad, ax = some ad → ∀ j u, news[j]? = some u → w.cell? (ad.add j) = some u) (h1 : ∀ u ∈ news, u.oneCell' = true) (hc : len ≤ cx) (hn : ax = none → cx = 0) (hb : n + len ≤ 1000000) (hB : B ≤ w.heap.size) :
    ∃ v' w', (Builtin.append_ #[t, t] ty #[v, .slice ax len cx]).run Try.prog w = .ok v' w' ∧ w'.ownsRow B e size v' (n + len) (xs ++ news) ∧ w.grownBy w' v.ownBlock ∧ (v'.ownBlock = v.ownBlock ∨ v'.ownBlock = some w.heap.size) := by
  obtain ⟨i, z, ht, hi, hz, hs, hby, hzs, hpos⟩ := hE
  cases ax with
  | none =>
    obtain rfl := hn rfl
    obtain rfl : len = 0 := by omega
    obtain rfl : news = [] := List.eq_nil_of_length_eq_zero (by simpa using hl)
    exact ⟨v, w, run_append_owned_none w B t ty e i size ht hi v n xs hown, by simpa using hown, World.grownBy.refl _ _, .inl rfl⟩
  | some ad =>
    have hbb : (n + len) * i.bytes ≤ 1000000 * 100 := Nat.mul_le_mul hb hby
    obtain ⟨v', w', r1, r2, r3, _, r5⟩ := run_append_own_at (P := Try.prog) w B t ty e i z size i.bytes ht hi hz hs rfl hzs hpos v n xs hown ad len cx news hl (hnews ad rfl) h1 (by unfold maxLen; omega) (by omega) hB
    exact ⟨v', w', r1, r2, r3, r5⟩
theorem run_appU (w : World) (ty : TypeId) (B : Nat) (v : Value) (l : List Up) (hrow : RowU B w v l) (ax : Option Addr) (len cx : Nat) (us : List Up) (hu : IsUs w ax len us) (hc : len ≤ cx) (hn : ax = none → cx = 0) (hb : l.length + len ≤ 1000000) (hB : B ≤ w.heap.size) :
    ∃ a' c' w', (Builtin.append_ #[22, 22] ty #[v, .slice ax len cx]).run Try.prog w = .ok (.slice a' (l.length + len) c') w' ∧ RowU B w' (.slice a' (l.length + len) c') (l ++ us) ∧ w.grownBy w' v.ownBlock ∧ ((Value.slice a' (l.length + len) c').ownBlock = v.ownBlock ∨ (Value.slice a' (l.length + len) c').ownBlock = some w.heap.size) := by
  obtain ⟨v', w', h1, h2, h3, h4⟩ := run_app eltU w ty B v l.length (flU l) hrow ax len cx (flU us) (by rw [flU_len, hu.size]) (fun ad e => by subst e; exact isUs_news hu) (flU_one us) hc hn hb hB
  have hr : RowU B w' v' (l ++ us) := by
    unfold RowU
    rw [List.length_append, hu.size, flU_app]
    exact h2
  obtain ⟨a', c', e, _⟩ := hr.is
  rw [List.length_append, hu.size] at e
  subst e
  exact ⟨a', c', w', h1, hr, h3, h4⟩
theorem wpList_appU {ops : Array Oper} {rest : List Oper} {o : Oper} {a : Act} {Q : Exit → Act → World → Prop} {w : World} (hgd : o.guard = none) (s x : Operand)
    (ho : o.op = .call { callee := .builtin .append, args := #[s, x], argTypes := #[22, 22] })
    (B : Nat) (v : Value) (l : List Up) (hs : a.eval s = v) (hrow : RowU B w v l) (ax : Option Addr) (len cx : Nat) (hx : a.eval x = .slice ax len cx) (us : List Up) (hu : IsUs w ax len us) (hc : len ≤ cx) (hn : ax = none → cx = 0) (hb : l.length + len ≤ 1000000) (hB : B ≤ w.heap.size)
    (h : ∀ a' c' w', RowU B w' (.slice a' (l.length + len) c') (l ++ us) → w.grownBy w' v.ownBlock → ((Value.slice a' (l.length + len) c').ownBlock = v.ownBlock ∨ (Value.slice a' (l.length + len) c').ownBlock = some w.heap.size) → wpList Try.prog ops Q rest (a.put o.dst (.slice a' (l.length + len) c')) w') :
    wpList Try.prog ops Q (o :: rest) a w := by
  refine wpList_plain hgd fun K hK => ?_
  obtain ⟨a', c', w', hr, h2, h3, h4⟩ := run_appU w o.type B v l hrow ax len cx us hu hc hn hb hB
  unfold Oper.wp execOp
  simp only [ho, resolve, invoke, builtin, Sem.run_bind, Sem.run_pure, Result.andThen_ok, List.map_toArray, List.map_cons, List.map_nil, hs, hx, hr]
  exact hK _ _ (h a' c' w' h2 h3 h4)
theorem step_appU {ops : Array Oper} {o : Oper} {a : Act} {K : Act → World → Prop} {Q : Exit → Act → World → Prop} {E : Prop} {w : World} (hw : Region.wanted o (yielded ops a.tmps) = true) (s x : Operand)
    (ho : o.op = .call { callee := .builtin .append, args := #[s, x], argTypes := #[22, 22] })
    (B : Nat) (v : Value) (l : List Up) (hs : a.eval s = v) (hrow : RowU B w v l) (ax : Option Addr) (len cx : Nat) (hx : a.eval x = .slice ax len cx) (us : List Up) (hu : IsUs w ax len us) (hc : len ≤ cx) (hn : ax = none → cx = 0) (hb : l.length + len ≤ 1000000) (hB : B ≤ w.heap.size)
    (h : ∀ a' c' w', RowU B w' (.slice a' (l.length + len) c') (l ++ us) → w.grownBy w' v.ownBlock → ((Value.slice a' (l.length + len) c').ownBlock = v.ownBlock ∨ (Value.slice a' (l.length + len) c').ownBlock = some w.heap.size) → K (a.put o.dst (.slice a' (l.length + len) c')) w') :
    if Region.wanted o (yielded ops a.tmps) = true then Oper.wp Try.prog o a w K Q else E := by
  rw [if_pos hw]
  obtain ⟨a', c', w', hr, h2, h3, h4⟩ := run_appU w o.type B v l hrow ax len cx us hu hc hn hb hB
  unfold Oper.wp execOp
  simp only [ho, resolve, invoke, builtin, Sem.run_bind, Sem.run_pure, Result.andThen_ok, List.map_toArray, List.map_cons, List.map_nil, hs, hx, hr]
  exact h a' c' w' h2 h3 h4
theorem run_appR (w : World) (ty : TypeId) (B : Nat) (v : Value) (l : List Rn) (hrow : RowR B w v l) (ax : Option Addr) (len cx : Nat) (us : List Rn) (hu : RsAt w ax len us) (hc : len ≤ cx) (hn : ax = none → cx = 0) (hb : l.length + len ≤ 1000000) (hB : B ≤ w.heap.size) :
    ∃ a' c' w', (Builtin.append_ #[23, 23] ty #[v, .slice ax len cx]).run Try.prog w = .ok (.slice a' (l.length + len) c') w' ∧ RowR B w' (.slice a' (l.length + len) c') (l ++ us) ∧ w.grownBy w' v.ownBlock ∧ ((Value.slice a' (l.length + len) c').ownBlock = v.ownBlock ∨ (Value.slice a' (l.length + len) c').ownBlock = some w.heap.size) := by
  obtain ⟨v', w', h1, h2, h3, h4⟩ := run_app eltR w ty B v l.length (flR l) hrow ax len cx (flR us) (by rw [flR_len, hu.size]) (fun ad e => by subst e; exact rsAt_news hu) (flR_one us) hc hn hb hB
  have hr : RowR B w' v' (l ++ us) := by
    unfold RowR
    rw [List.length_append, hu.size, flR_app]
    exact h2
  obtain ⟨a', c', e, _⟩ := hr.is
  rw [List.length_append, hu.size] at e
  subst e
  exact ⟨a', c', w', h1, hr, h3, h4⟩
theorem wpList_appR {ops : Array Oper} {rest : List Oper} {o : Oper} {a : Act} {Q : Exit → Act → World → Prop} {w : World} (hgd : o.guard = none) (s x : Operand)
    (ho : o.op = .call { callee := .builtin .append, args := #[s, x], argTypes := #[23, 23] })
    (B : Nat) (v : Value) (l : List Rn) (hs : a.eval s = v) (hrow : RowR B w v l) (ax : Option Addr) (len cx : Nat) (hx : a.eval x = .slice ax len cx) (us : List Rn) (hu : RsAt w ax len us) (hc : len ≤ cx) (hn : ax = none → cx = 0) (hb : l.length + len ≤ 1000000) (hB : B ≤ w.heap.size)
    (h : ∀ a' c' w', RowR B w' (.slice a' (l.length + len) c') (l ++ us) → w.grownBy w' v.ownBlock → ((Value.slice a' (l.length + len) c').ownBlock = v.ownBlock ∨ (Value.slice a' (l.length + len) c').ownBlock = some w.heap.size) → wpList Try.prog ops Q rest (a.put o.dst (.slice a' (l.length + len) c')) w') :
    wpList Try.prog ops Q (o :: rest) a w := by
  refine wpList_plain hgd fun K hK => ?_
  obtain ⟨a', c', w', hr, h2, h3, h4⟩ := run_appR w o.type B v l hrow ax len cx us hu hc hn hb hB
  unfold Oper.wp execOp
  simp only [ho, resolve, invoke, builtin, Sem.run_bind, Sem.run_pure, Result.andThen_ok, List.map_toArray, List.map_cons, List.map_nil, hs, hx, hr]
  exact hK _ _ (h a' c' w' h2 h3 h4)
theorem step_appR {ops : Array Oper} {o : Oper} {a : Act} {K : Act → World → Prop} {Q : Exit → Act → World → Prop} {E : Prop} {w : World} (hw : Region.wanted o (yielded ops a.tmps) = true) (s x : Operand)
    (ho : o.op = .call { callee := .builtin .append, args := #[s, x], argTypes := #[23, 23] })
    (B : Nat) (v : Value) (l : List Rn) (hs : a.eval s = v) (hrow : RowR B w v l) (ax : Option Addr) (len cx : Nat) (hx : a.eval x = .slice ax len cx) (us : List Rn) (hu : RsAt w ax len us) (hc : len ≤ cx) (hn : ax = none → cx = 0) (hb : l.length + len ≤ 1000000) (hB : B ≤ w.heap.size)
    (h : ∀ a' c' w', RowR B w' (.slice a' (l.length + len) c') (l ++ us) → w.grownBy w' v.ownBlock → ((Value.slice a' (l.length + len) c').ownBlock = v.ownBlock ∨ (Value.slice a' (l.length + len) c').ownBlock = some w.heap.size) → K (a.put o.dst (.slice a' (l.length + len) c')) w') :
    if Region.wanted o (yielded ops a.tmps) = true then Oper.wp Try.prog o a w K Q else E := by
  rw [if_pos hw]
  obtain ⟨a', c', w', hr, h2, h3, h4⟩ := run_appR w o.type B v l hrow ax len cx us hu hc hn hb hB
  unfold Oper.wp execOp
  simp only [ho, resolve, invoke, builtin, Sem.run_bind, Sem.run_pure, Result.andThen_ok, List.map_toArray, List.map_cons, List.map_nil, hs, hx, hr]
  exact h a' c' w' h2 h3 h4
/-- One round in a block of its own. -/
theorem rsAt_one (w : World) (r : Rn) : RsAt (w.alloc (.cells #[.int .i64 r.o, .int .i64 r.n, .slice r.a r.len r.cap] 45)) (some ⟨w.heap.size, 0, none⟩) 1 [r] := by
  refine ⟨rfl, fun _ => ⟨w.heap.size, 0, rfl, three fun i hi => ?_⟩⟩
  obtain rfl : i = 0 := by simpa using hi
  have h := Rb.new w r.o r.n r.a r.len r.cap
  exact ⟨h.c0, h.c1, h.c2⟩
/-- A row of updates and a row of rounds never lie in one block. -/
theorem RowU.neR {B B' w v l v' l'} (h : RowU B w v l) (k : RowR B' w v' l') : v.ownBlock = none ∨ v.ownBlock ≠ v'.ownBlock := by
  rcases h.2 with ⟨rfl, _⟩ | ⟨g, cap, cur, rfl, _, hc, _⟩
  · exact .inl rfl
  · refine .inr fun e => ?_
    rcases k.2 with ⟨rfl, _⟩ | ⟨g', cap', cur', rfl, _, hc', _⟩
    · simp [Value.ownBlock] at e
    · simp only [Value.ownBlock, Option.some.injEq] at e
      subst e
      rw [hc] at hc'
      injection hc' with hc'
      injection hc' with _ hc2 _
      exact absurd hc2 (by decide)
end Go.Proofs.Yteonmljchcekpaa
