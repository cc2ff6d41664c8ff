/- Rows of texts that grow. -/
import Derived.Test.YtclobdejlihblaaZ0
namespace Go.Proofs.Ytclobdejlihblaa
open Go Go.RowKit
set_option maxRecDepth 20000
def flS (ts : List ByteArray) : List Value := ts.map Value.string
theorem flS_len (ts : List ByteArray) : (flS ts).length = ts.length * 1 := by simp [flS]
theorem flS_app (us vs : List ByteArray) : flS (us ++ vs) = flS us ++ flS vs := by simp [flS]
theorem flS_one (ts : List ByteArray) : ∀ u ∈ flS ts, u.oneCell' = true := by
  intro u hu
  simp only [flS, List.mem_map] at hu
  obtain ⟨t, _, rfl⟩ := hu
  rfl
/-- The cells of texts lie there. -/
structure SsAt (w : World) (a : Option Addr) (len : Nat) (ts : List ByteArray) : Prop where
  size : ts.length = len
  lies : 0 < len → ∃ b off, a = some ⟨b, off, none⟩ ∧ b < w.heap.size ∧ ∀ i, i < ts.length → w.cell? ⟨b, off + i, none⟩ = some (.string (ts.getD i emp))
theorem ssAt_below {w w' : World} {B : Nat} {a : Option Addr} {len : Nat} {ts : List ByteArray} (h : SsAt w a len ts) (hb : Below B w w') (hB : w.heap.size ≤ B := by exact Nat.le_refl _) : SsAt w' a len ts :=
  ⟨h.size, fun h0 => by
    obtain ⟨b, off, e, hl, hf⟩ := h.lies h0
    exact ⟨b, off, e, by have := hb.size; omega, fun i hi => (hb.cell (show b < B by omega)).trans (hf i hi)⟩⟩
theorem ssAt_news {w : World} {ad : Addr} {len : Nat} {ts : List ByteArray} (h : SsAt w (some ad) len ts) : ∀ j v, (flS ts)[j]? = some v → w.cell? (ad.add j) = some v := by
  intro j v hj
  have hs := h.size
  have hjl : j < ts.length := by
    have := (List.getElem?_eq_some_iff.1 hj).1
    rw [flS_len] at this
    omega
  obtain ⟨b, off, e, _, hf⟩ := h.lies (by omega)
  simp only [Option.some.injEq] at e
  subst e
  rw [Go.WideShapes.add_plain, hf j hjl, ← hj]
  simp [flS, List.getD_eq_getElem?_getD, hjl]
/-- A row of texts of the call's own. -/
def RowS (B : Nat) (w : World) (v : Value) (l : List ByteArray) : Prop := w.ownsRow B 9 1 v l.length (flS l)
theorem RowS.is {B w v l} (h : RowS B w v l) : ∃ a c, v = .slice a l.length c ∧ SsAt w a l.length l ∧ l.length ≤ c ∧ (a = none → c = 0) := by
  rcases h.2 with ⟨rfl, h0⟩ | ⟨g, cap, cur, rfl, _, hg, hc, _⟩
  · rw [h0]; exact ⟨none, 0, rfl, ⟨h0, fun hx => absurd hx (Nat.lt_irrefl _)⟩, Nat.le_refl _, fun _ => rfl⟩
  · refine ⟨some ⟨g, 0, none⟩, cap, rfl, ⟨rfl, fun _ => ⟨g, 0, rfl, (Array.getElem?_eq_some_iff.1 hg).1, fun i hi => ?_⟩⟩, hc, fun e => by cases e⟩
    rw [Nat.zero_add, World.ownsRow.cellAt h i (by omega)]
    simp [flS, List.getD_eq_getElem?_getD, hi]
theorem RowS.isS {B w a n c l} (h : RowS B w (.slice a n c) l) (hn : n = l.length) : SsAt w a n l ∧ n ≤ c ∧ (a = none → c = 0) := by
  subst hn
  obtain ⟨a', c', e, hi, h1, h2⟩ := h.is
  cases e
  exact ⟨hi, h1, h2⟩
theorem rowS_nil (B : Nat) (w : World) : RowS B w (.slice none 0 0) [] := World.ownsRow_nil w B _ _
theorem RowS.lt {B w v l} (h : RowS B w v l) (j : Nat) (hj : v.ownBlock = some j) : B ≤ j ∧ j < w.heap.size := World.ownsRow.lt h j hj
theorem RowS.typ {B w v l} (h : RowS B w v l) (j : Nat) (hj : v.ownBlock = some j) : ∃ cur, w.heap[j]? = some (.cells cur 9 (0, 0)) := by
  rcases h.2 with ⟨rfl, _⟩ | ⟨g, cap, cur, rfl, _, hg, _⟩
  · cases hj
  · simp only [Value.ownBlock, Option.some.injEq] at hj
    subst hj
    exact ⟨cur, hg⟩
theorem RowS.kept {B w w1 v l} (h : RowS B w v l) {row : Option Nat} (hg : w.grownBy w1 row) (hne : v.ownBlock = none ∨ v.ownBlock ≠ row) : RowS B w1 v l := World.ownsRow.kept h hg hne
theorem RowS.below {B w w1 v l} (h : RowS B w v l) (hb : Below w.heap.size w w1) : RowS B w1 v l := h.kept (grownOf none hb) (Classical.em _)
theorem RowS.alloc {B w v l} (h : RowS B w v l) (o : Obj) : RowS B (w.alloc o) v l := World.ownsRow.alloc h o
theorem rowS_new (w : World) : RowS w.heap.size (w.alloc (.cells #[] 9)) (.slice (some ⟨w.heap.size, 0, none⟩) 0 0) [] := World.ownsRow_lit w #[] 0 (Nat.le_refl _) (Nat.zero_le _) rfl
theorem belS {B : Nat} {w w1 w2 : World} {v : Value} {l : List ByteArray} (hr : RowS B w1 v l) (h : Below B w w1) (hg : w1.grownBy w2 v.ownBlock) (hB : B ≤ w1.heap.size) : Below B w w2 := h.grown hg hB (fun j hj => (World.ownsRow.lt hr j hj).1)
theorem run_appS (w : World) (ty : TypeId) (B : Nat) (v : Value) (l : List ByteArray) (hrow : RowS B w v l) (ax : Option Addr) (len cx : Nat) (us : List ByteArray) (hu : SsAt w ax len us) (hc : len ≤ cx) (hn : ax = none → cx = 0) (hb : l.length + len ≤ 1000000) (hB : B ≤ w.heap.size) :
    ∃ a' c' w', (Builtin.append_ #[51, 51] ty #[v, .slice ax len cx]).run Try.prog w = .ok (.slice a' (l.length + len) c') w' ∧ RowS B w' (.slice a' (l.length + len) c') (l ++ us) ∧ w.grownBy w' v.ownBlock ∧ ((Value.slice a' (l.length + len) c').ownBlock = v.ownBlock ∨ (Value.slice a' (l.length + len) c').ownBlock = some w.heap.size) := by
  obtain ⟨v', w', h1, h2, h3, h4⟩ := run_app eltS w ty B v l.length (flS l) hrow ax len cx (flS us) (by rw [flS_len, hu.size]) (fun ad e => by subst e; exact ssAt_news hu) (flS_one us) hc hn hb hB
  have hr : RowS B w' v' (l ++ us) := by
    unfold RowS
    rw [List.length_append, hu.size, flS_app]
    exact h2
  obtain ⟨a', c', e, _⟩ := hr.is
  rw [List.length_append, hu.size] at e
  subst e
  exact ⟨a', c', w', h1, hr, h3, h4⟩
theorem wpList_appS {ops : Array Oper} {rest : List Oper} {o : Oper} {a : Act} {Q : Exit → Act → World → Prop} {w : World} (hgd : o.guard = none) (s x : Operand)
    (ho : o.op = .call { callee := .builtin .append, args := #[s, x], argTypes := #[51, 51] })
    (B : Nat) (v : Value) (l : List ByteArray) (hs : a.eval s = v) (hrow : RowS B w v l) (ax : Option Addr) (len cx : Nat) (hx : a.eval x = .slice ax len cx) (us : List ByteArray) (hu : SsAt w ax len us) (hc : len ≤ cx) (hn : ax = none → cx = 0) (hb : l.length + len ≤ 1000000) (hB : B ≤ w.heap.size)
    (h : ∀ a' c' w', RowS B w' (.slice a' (l.length + len) c') (l ++ us) → w.grownBy w' v.ownBlock → ((Value.slice a' (l.length + len) c').ownBlock = v.ownBlock ∨ (Value.slice a' (l.length + len) c').ownBlock = some w.heap.size) → wpList Try.prog ops Q rest (a.put o.dst (.slice a' (l.length + len) c')) w') :
    wpList Try.prog ops Q (o :: rest) a w := by
  refine wpList_plain hgd fun K hK => ?_
  obtain ⟨a', c', w', hr, h2, h3, h4⟩ := run_appS w o.type B v l hrow ax len cx us hu hc hn hb hB
  unfold Oper.wp execOp
  simp only [ho, resolve, invoke, builtin, Sem.run_bind, Sem.run_pure, Result.andThen_ok, List.map_toArray, List.map_cons, List.map_nil, hs, hx, hr]
  exact hK _ _ (h a' c' w' h2 h3 h4)
theorem step_appS {ops : Array Oper} {o : Oper} {a : Act} {K : Act → World → Prop} {Q : Exit → Act → World → Prop} {E : Prop} {w : World} (hw : Region.wanted o (yielded ops a.tmps) = true) (s x : Operand)
    (ho : o.op = .call { callee := .builtin .append, args := #[s, x], argTypes := #[51, 51] })
    (B : Nat) (v : Value) (l : List ByteArray) (hs : a.eval s = v) (hrow : RowS B w v l) (ax : Option Addr) (len cx : Nat) (hx : a.eval x = .slice ax len cx) (us : List ByteArray) (hu : SsAt w ax len us) (hc : len ≤ cx) (hn : ax = none → cx = 0) (hb : l.length + len ≤ 1000000) (hB : B ≤ w.heap.size)
    (h : ∀ a' c' w', RowS B w' (.slice a' (l.length + len) c') (l ++ us) → w.grownBy w' v.ownBlock → ((Value.slice a' (l.length + len) c').ownBlock = v.ownBlock ∨ (Value.slice a' (l.length + len) c').ownBlock = some w.heap.size) → K (a.put o.dst (.slice a' (l.length + len) c')) w') :
    if Region.wanted o (yielded ops a.tmps) = true then Oper.wp Try.prog o a w K Q else E := by
  rw [if_pos hw]
  obtain ⟨a', c', w', hr, h2, h3, h4⟩ := run_appS w o.type B v l hrow ax len cx us hu hc hn hb hB
  unfold Oper.wp execOp
  simp only [ho, resolve, invoke, builtin, Sem.run_bind, Sem.run_pure, Result.andThen_ok, List.map_toArray, List.map_cons, List.map_nil, hs, hx, hr]
  exact h a' c' w' h2 h3 h4
theorem wpList_appS0 {ops : Array Oper} {rest : List Oper} {o : Oper} {a : Act} {Q : Exit → Act → World → Prop} {w : World} (hgd : o.guard = none) (s x : Operand)
    (ho : o.op = .call { callee := .builtin .append, args := #[s, x], argTypes := #[51, 51] })
    (hs : a.eval s = .slice (some ⟨w.heap.size, 0, none⟩) 0 0) (ax : Option Addr) (len cx : Nat) (hx : a.eval x = .slice ax len cx) (us : List ByteArray) (hu : SsAt w ax len us) (hc : len ≤ cx) (hn : ax = none → cx = 0) (hb : len ≤ 1000000)
    (h : ∀ a' c' w', RowS w.heap.size w' (.slice a' len c') us → Below w.heap.size w w' → wpList Try.prog ops Q rest (a.put o.dst (.slice a' len c')) w') :
    wpList Try.prog ops Q (o :: rest) a (w.alloc (.cells #[] 9)) := by
  refine wpList_appS hgd s x ho w.heap.size _ [] hs (rowS_new w) ax len cx hx us (ssAt_below hu (Joins.below_alloc1 _ _)) hc hn (by simpa using hb) (by simp) ?_
  intro a' c' w' h1 h2 _
  simp only [List.length_nil, Nat.zero_add, List.nil_append] at h1 ⊢
  exact h a' c' w' h1 (belS (rowS_new w) (Joins.below_alloc1 _ _) h2 (by simp))
theorem ssAt_one (w : World) (x : ByteArray) : SsAt (w.alloc (.cells #[.string x] 9)) (some ⟨w.heap.size, 0, none⟩) 1 [x] :=
  ⟨rfl, fun _ => ⟨w.heap.size, 0, rfl, by simp, fun i hi => by
    obtain rfl : i = 0 := by simpa using hi
    exact cell_at (new_at rfl) 0 _ rfl⟩⟩
theorem slS_front (a : Option Addr) (len cap n : Nat) (h : n ≤ cap) (w : World) : (Instr.sliceAt 51 (.slice a len cap) none (some (.int .i64 n)) none).run Try.prog w = .ok (.slice a n cap) w := by
  rw [run_sliceAt_slice _ _ _ _ _ _ Try.underlying51]
  cases a <;> simp [Instr.slice, Instr.sliceBounds, Instr.sliceBound, asIntOf, run_underlying Try.underlying51, go_sem] <;> (intro hx; omega)
theorem slS_back (a : Option Addr) (len cap n : Nat) (h : n ≤ len) (w : World) : (Instr.sliceAt 51 (.slice a len cap) (some (.int .i64 n)) none none).run Try.prog w = .ok (.slice (if cap = n then a else a.map (·.add (n * 1))) (len - n) (cap - n)) w := by
  rw [run_sliceAt_slice _ _ _ _ _ _ Try.underlying51]
  simp [Instr.slice, Instr.sliceBounds, Instr.sliceBound, asIntOf, run_underlying Try.underlying51, go_sem]
  intro hx; omega
theorem RowS.front {B w a n c l} (h : RowS B w (.slice a n c) l) (hn : n = l.length) {j : Nat} (hj : j ≤ n) : RowS B w (.slice a j c) (l.take j) := by
  subst hn
  obtain ⟨hl, h⟩ := h
  have hlt : (l.take j).length = j := by rw [List.length_take]; omega
  unfold RowS
  rw [hlt]
  rcases h with ⟨h0, h1⟩ | ⟨g', cap', cur, hv, hb, hc, h1, h2, h3, h4⟩
  · have e : j = 0 := by omega
    subst e
    simp only [Value.slice.injEq] at h0
    obtain ⟨rfl, _, rfl⟩ := h0
    exact World.ownsRow_nil _ _ _ _
  cases hv
  refine ⟨by simp [flS]; omega, .inr ⟨g', c, cur, rfl, hb, hc, by omega, h2, h3, ?_⟩⟩
  rw [show flS (l.take j) = (flS l).take (j * 1) by simp [flS, List.map_take], ← h4, List.take_take]
  congr 1
  omega
theorem SsAt.back {w : World} {a : Option Addr} {len cap : Nat} {ts : List ByteArray} (h : SsAt w a len ts) (hlc : len ≤ cap) {n : Nat} (hn : n ≤ len) : SsAt w (if cap = n then a else a.map (·.add (n * 1))) (len - n) (ts.drop n) := by
  have hs := h.size
  refine ⟨by rw [List.length_drop]; omega, fun h0 => ?_⟩
  obtain ⟨b, off, rfl, hl, hf⟩ := h.lies (by omega)
  have e : (if cap = n then some (⟨b, off, none⟩ : Addr) else (some (⟨b, off, none⟩ : Addr)).map (·.add (n * 1))) = some ⟨b, off + n, none⟩ := by
    rw [if_neg (by omega)]
    simp [Addr.add_lit]
  refine ⟨b, off + n, e, hl, fun i hi => ?_⟩
  rw [List.length_drop] at hi
  have := hf (n + i) (by omega)
  rw [show off + n + i = off + (n + i) by omega, this]
  simp [List.getD_eq_getElem?_getD]
theorem back_none {a : Option Addr} {cap n : Nat} (h : a = none → cap = 0) : (if cap = n then a else a.map (·.add (n * 1))) = none → cap - n = 0 := fun e => by
  split at e
  · rw [h e]; simp
  · cases a with
    | none => rw [h rfl]; simp
    | some x => cases e
theorem RowS.drew {B w v l} (h : RowS B w v l) : RowS B w.drew v l := h
theorem SsAt.drew {w : World} {a : Option Addr} {len : Nat} {ts : List ByteArray} (h : SsAt w a len ts) : SsAt w.drew a len ts := ⟨h.size, h.lies⟩
end Go.Proofs.Ytclobdejlihblaa
