/- A journal, as it lies in memory: told by the blocks that are its own. -/
import Derived.Test.YtbbgibekplfacaaDoorI0a
namespace Go.Proofs.YtbbgibekplfacaaDoor
open Go Go.RowKit
set_option maxRecDepth 20000
/-- Two blocks of unlike types are two. -/
theorem two_types {w : World} {i j : Nat} {c c' : Array Value} {t t' : TypeId} {f f' : Nat × Nat} (h : w.heap[i]? = some (.cells c t f)) (h' : w.heap[j]? = some (.cells c' t' f')) (ht : t ≠ t') : i ≠ j := fun e => by
  subst e
  rw [h] at h'
  injection h' with h'
  injection h' with _ h' _
  exact ht h'
/-- A row's block may be looked at in another world. -/
theorem RowR.same {B : Nat} {w w1 : World} {v : Value} {l : List Rn} (h : RowR B w v l) (hg : ∀ j, v.ownBlock = some j → w1.heap[j]? = w.heap[j]?) : RowR B w1 v l := by
  refine ⟨h.1, ?_⟩
  rcases h.2 with h' | ⟨g, cap, cur, rfl, hb, hh, r⟩
  · exact .inl h'
  · exact .inr ⟨g, cap, cur, rfl, hb, (hg g rfl).trans hh, r⟩
theorem RowR.typ {B : Nat} {w : World} {v : Value} {l : List Rn} (h : RowR B w v l) (j : Nat) (hj : v.ownBlock = some j) : B ≤ j ∧ ∃ cur, w.heap[j]? = some (.cells cur 35 (0, 0)) := by
  rcases h.2 with ⟨rfl, _⟩ | ⟨g, cap, cur, rfl, hb, hh, _⟩
  · cases hj
  · simp only [Value.ownBlock, Option.some.injEq] at hj
    subst hj
    exact ⟨hb, cur, hh⟩
theorem isUs_same {w w' : World} {a : Option Addr} {len : Nat} {us : List Up} (h : IsUs w a len us) (hk : ∀ b off, a = some ⟨b, off, none⟩ → w'.heap[b]? = w.heap[b]?) : IsUs w' a len us := by
  refine ⟨h.size, fun h0 => ?_⟩
  obtain ⟨b, off, e, hf⟩ := h.lies h0
  have hh : ∀ i, w'.cell? ⟨b, i, none⟩ = w.cell? ⟨b, i, none⟩ := fun i => World.cell?_of_block (hk b off e)
  exact ⟨b, off, e, four fun i hi => ⟨(hh _).trans (hf.key i hi), (hh _).trans (hf.k i hi), (hh _).trans (hf.n i hi), (hh _).trans (hf.t i hi)⟩⟩
/-- What is played is short. -/
def Sm (us : List Up) : Prop := us.length ≤ 1000 ∧ ∀ i, i < us.length → (us.getD i up0).1.size ≤ 140737488355328 ∧ (us.getD i up0).2.2.2.size ≤ 140737488355328
/-- Rounds of the origin o, numbered behind k, with these updates. -/
structure Of (o : Int) (k : Nat) (uss : List (List Up)) (rs : List Rn) : Prop where
  len : rs.length = uss.length
  at' : ∀ i, i < uss.length → (rs.getD i rn0).o = o ∧ (rs.getD i rn0).n = ((k + i + 1 : Nat) : Int) ∧ (rs.getD i rn0).us = uss.getD i []
theorem Of.nil (o : Int) (k : Nat) : Of o k [] [] := ⟨rfl, fun i h => absurd h (by simp)⟩
theorem Of.snoc {o : Int} {k : Nat} {uss : List (List Up)} {rs : List Rn} (h : Of o k uss rs) (r : Rn) (ho : r.o = o) (hn : r.n = ((k + uss.length + 1 : Nat) : Int)) : Of o k (uss ++ [r.us]) (rs ++ [r]) := by
  refine ⟨by simp [h.len], fun i hi => ?_⟩
  rw [List.length_append, List.length_singleton] at hi
  have hl := h.len
  by_cases hlt : i < uss.length
  · have := h.at' i hlt
    simp only [List.getD_eq_getElem?_getD] at this ⊢
    rw [List.getElem?_append_left (by omega), List.getElem?_append_left hlt]
    exact this
  · obtain rfl : i = uss.length := by omega
    simp only [List.getD_eq_getElem?_getD]
    rw [List.getElem?_append_right (by omega), List.getElem?_append_right (Nat.le_refl _), hl, Nat.sub_self]
    exact ⟨ho, hn, rfl⟩
theorem Of.drop {o : Int} {k : Nat} {uss : List (List Up)} {rs : List Rn} (h : Of o k uss rs) (m : Nat) : Of o (k + m) (uss.drop m) (rs.drop m) := by
  refine ⟨by simp [h.len], fun i hi => ?_⟩
  rw [List.length_drop] at hi
  have := h.at' (m + i) (by omega)
  simp only [List.getD_eq_getElem?_getD, List.getElem?_drop] at this ⊢
  rw [show k + m + i + 1 = k + (m + i) + 1 by omega]
  exact this
/-- A journal in block b, of type T: its row of rounds in the slice v, their updates in the blocks S. -/
structure Jn (T : TypeId) (B : Nat) (w : World) (b : Nat) (v : Value) (S : Nat → Prop) (o last : Int) (rs : List Rn) : Prop where
  lo : B ≤ b
  blk : w.heap[b]? = some (.cells #[.int .i64 o, .int .i64 last, v] T (0, 0))
  row : RowR B w v rs
  each : ∀ r ∈ rs, Ru w r ∧ ∀ g off, r.a = some ⟨g, off, none⟩ → S g
  own : ∀ g, S g → B ≤ g ∧ ∃ cur, w.heap[g]? = some (.cells cur 32 (0, 0))
/-- The blocks that are a journal's own. -/
def Jf (b : Nat) (v : Value) (S : Nat → Prop) (k : Nat) : Prop := k = b ∨ v.ownBlock = some k ∨ S k
section
variable {T : TypeId} {B b : Nat} {w w' : World} {v : Value} {S : Nat → Prop} {o last : Int} {rs : List Rn}
theorem Jn.c0 (h : Jn T B w b v S o last rs) : w.cell? ⟨b, 0, none⟩ = some (.int .i64 o) := cell_at h.blk 0 _ rfl
theorem Jn.c1 (h : Jn T B w b v S o last rs) : w.cell? ⟨b, 1, none⟩ = some (.int .i64 last) := cell_at h.blk 1 _ rfl
theorem Jn.c2 (h : Jn T B w b v S o last rs) : w.cell? ⟨b, 2, none⟩ = some v := cell_at h.blk 2 _ rfl
theorem Jn.f0 (h : Jn T B w b v S o last rs) (i : Nat) : w.frozen? ⟨b, i, none⟩ = false := by have := h.blk; simp [World.frozen?, this]
theorem Jn.lt (h : Jn T B w b v S o last rs) : b < w.heap.size := (Array.getElem?_eq_some_iff.1 h.blk).1
theorem Jn.foot (h : Jn T B w b v S o last rs) (k : Nat) (hk : Jf b v S k) : B ≤ k ∧ k < w.heap.size := by
  rcases hk with rfl | hk | hk
  · exact ⟨h.lo, h.lt⟩
  · obtain ⟨h1, cur, h2⟩ := h.row.typ k hk
    exact ⟨h1, (Array.getElem?_eq_some_iff.1 h2).1⟩
  · obtain ⟨h1, cur, h2⟩ := h.own k hk
    exact ⟨h1, (Array.getElem?_eq_some_iff.1 h2).1⟩
theorem Jn.keep (h : Jn T B w b v S o last rs) (hk : ∀ k, Jf b v S k → w'.heap[k]? = w.heap[k]?) : Jn T B w' b v S o last rs :=
  ⟨h.lo, (hk b (.inl rfl)).trans h.blk, h.row.same fun j hj => hk j (.inr (.inl hj)), fun r hr => ⟨⟨isUs_same (h.each r hr).1.1 fun b off e => hk b (.inr (.inr ((h.each r hr).2 b off e))), (h.each r hr).1.2⟩, (h.each r hr).2⟩, fun g hg => ⟨(h.own g hg).1, by
    obtain ⟨cur, hc⟩ := (h.own g hg).2
    exact ⟨cur, (hk g (.inr (.inr hg))).trans hc⟩⟩⟩
theorem Jn.next (h : Jn T B w b v S o last rs) (hb : Below w.heap.size w w') : Jn T B w' b v S o last rs := h.keep fun k hk => hb.block k (h.foot k hk).2
theorem Jn.asit (h : Jn T B w b v S o last rs) (e : w'.heap = w.heap) : Jn T B w' b v S o last rs := h.keep fun k _ => by rw [e]
theorem Jn.is (h : Jn T B w b v S o last rs) : ∃ a c, v = .slice a rs.length c ∧ IsRs w a rs.length rs ∧ rs.length ≤ c ∧ (a = none → c = 0) := by
  obtain ⟨a, c, rfl, hx, hc, hn⟩ := h.row.is
  exact ⟨a, c, rfl, ⟨rfl, hx.lies, fun r hr => (h.each r hr).1⟩, hc, hn⟩
end
/-- A journal of type T in block b, whose own blocks are F: the updates of its rounds are uss. -/
def Jx (T : TypeId) (B : Nat) (w : World) (b : Nat) (F : Nat → Prop) (o last : Int) (uss : List (List Up)) : Prop :=
  ∃ v S rs, Jn T B w b v S o last rs ∧ Of o 0 uss rs ∧ (∀ us ∈ uss, Sm us) ∧ F = Jf b v S
/-- What a call leaves: all blocks but those. -/
structure Lv (w w' : World) (F : Nat → Prop) : Prop where
  os : w'.os = w.os
  tape : w'.tape = w.tape
  output : w'.output = w.output
  size : w.heap.size ≤ w'.heap.size
  block : ∀ k, k < w.heap.size → ¬ F k → w'.heap[k]? = w.heap[k]?
section
variable {T : TypeId} {B b : Nat} {w w' w1 : World} {F : Nat → Prop} {o last : Int} {uss : List (List Up)}
theorem Jx.foot (h : Jx T B w b F o last uss) (k : Nat) (hk : F k) : B ≤ k ∧ k < w.heap.size := by
  obtain ⟨v, S, rs, hj, _, _, rfl⟩ := h
  exact hj.foot k hk
theorem Jx.keep (h : Jx T B w b F o last uss) (hk : ∀ k, F k → w'.heap[k]? = w.heap[k]?) : Jx T B w' b F o last uss := by
  obtain ⟨v, S, rs, hj, ho, hs, rfl⟩ := h
  exact ⟨v, S, rs, hj.keep hk, ho, hs, rfl⟩
theorem Jx.next (h : Jx T B w b F o last uss) (hb : Below w.heap.size w w') : Jx T B w' b F o last uss := h.keep fun k hk => hb.block k (h.foot k hk).2
theorem Jx.asit (h : Jx T B w b F o last uss) (e : w'.heap = w.heap) : Jx T B w' b F o last uss := h.keep fun k _ => by rw [e]
theorem Jx.other {G : Nat → Prop} (h : Jx T B w b F o last uss) (hl : Lv w w' G) (hd : ∀ k, F k → ¬ G k) : Jx T B w' b F o last uss := h.keep fun k hk => hl.block k (h.foot k hk).2 (hd k hk)
theorem Jx.setnew (h : Jx T B w b F o last uss) {g : Nat} (hg : ¬ F g) (i : Nat) (x : Value) : Jx T B (w.setCell ⟨g, i, none⟩ x) b F o last uss := h.keep fun k hk => Below.heap_setCell _ _ _ _ (fun e => hg (by have e' : k = g := e; rw [← e']; exact hk))
theorem Jx.me (h : Jx T B w b F o last uss) : F b := by
  obtain ⟨v, S, rs, hj, _, _, rfl⟩ := h
  exact .inl rfl
theorem Lv.ofBelow (h : Below w.heap.size w w') (F : Nat → Prop) : Lv w w' F := ⟨h.os, h.tape, h.output, h.size, fun k hk _ => h.block k hk⟩
theorem Lv.trans (h : Lv w w1 F) (h' : Lv w1 w' F) : Lv w w' F := ⟨h'.os.trans h.os, h'.tape.trans h.tape, h'.output.trans h.output, Nat.le_trans h.size h'.size, fun k hk hF => (h'.block k (Nat.lt_of_lt_of_le hk h.size) hF).trans (h.block k hk hF)⟩
theorem Lv.grown {row : Option Nat} (h : w.grownBy w' row) (hr : ∀ k, row = some k → F k) : Lv w w' F := ⟨h.os, h.tape, h.output, h.size, fun k hk hF => h.block k hk (fun e => hF (hr k e.symm))⟩
theorem Lv.set {g : Nat} (hg : F g) (i : Nat) (x : Value) : Lv w (w.setCell ⟨g, i, none⟩ x) F := ⟨rfl, rfl, rfl, by simp, fun k _ hF => Below.heap_setCell _ _ _ _ (fun e => hF (by have e' : k = g := e; rw [e']; exact hg))⟩
theorem Lv.below {w0 : World} (h : Lv w w' F) (hb : Below B w0 w) (hF : ∀ k, F k → B ≤ k) (hB : B ≤ w.heap.size) : Below B w0 w' :=
  ⟨h.os.trans hb.os, h.tape.trans hb.tape, h.output.trans hb.output, Nat.le_trans hb.size h.size, fun k hk => (h.block k (Nat.lt_of_lt_of_le hk hB) (fun e => Nat.not_le_of_lt hk (hF k e))).trans (hb.block k hk)⟩
end
/-- What an added list is answered: an error; the rounds' updates then; the round. -/
def addE (o last : Int) (uss : List (List Up)) (us : List Up) : Int := if last ≤ (uss.length : Int) then 8 else mayR o ((uss.length + 1 : Nat) : Int) us
def addL (o last : Int) (uss : List (List Up)) (us : List Up) : List (List Up) := if addE o last uss us = 0 then uss ++ [us] else uss
structure AddR (o last : Int) (uss : List (List Up)) (us : List Up) (r : Rn) : Prop where
  o' : r.o = if addE o last uss us = 0 then o else 0
  n' : r.n = if addE o last uss us = 0 then ((uss.length + 1 : Nat) : Int) else 0
  us' : r.us = if addE o last uss us = 0 then us else []
/-- The last number that counts. -/
def lastOf (l : Int) : Int := if l < 1 then 1 else if 1099511627776 < l then 1099511627776 else l
end Go.Proofs.YtbbgibekplfacaaDoor
