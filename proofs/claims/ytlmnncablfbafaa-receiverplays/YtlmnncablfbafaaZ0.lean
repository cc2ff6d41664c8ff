/- Plain: rows that grow. (Z0 without pieces.) -/
import Derived.Test.YtlmnncablfbafaaProg
import Derived.WalkKit
import Derived.Lib.Hide
import Derived.Handy
import Derived.Lib.SmallJoins
import Derived.Laws.StructEq
import Derived.Laws.NewDeep
import Derived.Laws.OwnMore
import Derived.Maps.AppendAt
import Derived.Lib.SliceRun
import Derived.Deep.RegionLawGrows
namespace Go.Proofs.Ytlmnncablfbafaa
open Go Go.RowKit
set_option maxRecDepth 20000
theorem Below.next {w w1 w2 : World} (h : Below w.heap.size w w1) (hb : Below w1.heap.size w1 w2) : Below w.heap.size w w2 := h.trans (hb.mono h.size)
theorem cell_at {w : World} {b : Nat} {xs : Array Value} {t : TypeId} (h : w.heap[b]? = some (.cells xs t (0, 0))) (i : Nat) (v : Value) (hv : xs[i]? = some v) : w.cell? ⟨b, i, none⟩ = some v := by simp [World.cell?, h, hv]
theorem new_at {W : World} {o : Obj} {n : Nat} (h : W.heap.size = n) : (W.alloc o).heap[n]? = some o := h ▸ heap_alloc_new W o
theorem kept_at {W w1 : World} {x : Obj} {n : Nat} (h : W.heap[n]? = some x) (hb : Below W.heap.size W w1) : w1.heap[n]? = some x := (hb.block n (Array.getElem?_eq_some_iff.1 h).1).trans h
theorem grownOf {a b : World} (row : Option Nat) (h : Below a.heap.size a b) : a.grownBy b row := ⟨h.os, h.tape, h.output, h.size, fun j hj _ => h.block j hj⟩
theorem belowOf {a b : World} (h : a.grownBy b none) : Below a.heap.size a b := ⟨h.os, h.tape, h.output, h.size, fun j hj => h.block j hj (by simp)⟩
def emp : ByteArray := ⟨#[]⟩
/-- A row's elements. -/
def Elt (t e : TypeId) (size : Nat) : Prop := ∃ i z, Try.prog.underlying t = some (.slice e) ∧ Try.prog.info? e = some i ∧ i.zero = some z ∧ i.size = size ∧ i.bytes ≤ 100 ∧ z.cells.size = size ∧ 0 < size
theorem elt_of {t e : TypeId} {size bytes : Nat} (ht : Try.prog.underlying t = some (.slice e)) (h1 : (Try.prog.info? e).map (fun i => (i.size, i.bytes)) = some (size, bytes)) (h2 : ((Try.prog.info? e).bind (·.zero)).map (fun z => z.cells.size) = some size) (hb : bytes ≤ 100) (hs : 0 < size) : Elt t e size := by
  unfold Elt
  cases h : Try.prog.info? e with
  | none => rw [h] at h1; cases h1
  | some i =>
    rw [h] at h1 h2
    simp at h1 h2
    obtain ⟨z, hz, hs'⟩ := h2
    exact ⟨i, z, ht, rfl, hz, h1.1, by omega, hs', hs⟩
theorem eltS : Elt 35 9 1 := elt_of (bytes := 16) Try.underlying35 (by kernel_rfl) (by kernel_rfl) (by decide) (by decide)
theorem run_app {t e : TypeId} {size : Nat} (hE : Elt t e size) (w : World) (ty : TypeId) (B : Nat) (v : Value) (n : Nat) (xs : List Value) (hown : w.ownsRow B e size v n xs) (ax : Option Addr) (len cx : Nat) (news : List Value) (hl : news.length = len * size)
    (hnews : ∀ ad, ax = some ad → ∀ j u, news[j]? = some u → w.cell? (ad.add j) = some u) (h1 : ∀ u ∈ news, u.oneCell' = true) (hc : len ≤ cx) (hn : ax = none → cx = 0) (hb : n + len ≤ 1000000) (hB : B ≤ w.heap.size) :
    ∃ v' w', (Builtin.append_ #[t, t] ty #[v, .slice ax len cx]).run Try.prog w = .ok v' w' ∧ w'.ownsRow B e size v' (n + len) (xs ++ news) ∧ w.grownBy w' v.ownBlock ∧ (v'.ownBlock = v.ownBlock ∨ v'.ownBlock = some w.heap.size) := by
  obtain ⟨i, z, ht, hi, hz, hs, hby, hzs, hpos⟩ := hE
  cases ax with
  | none =>
    obtain rfl := hn rfl
    obtain rfl : len = 0 := by omega
    obtain rfl : news = [] := List.eq_nil_of_length_eq_zero (by simpa using hl)
    exact ⟨v, w, run_append_owned_none w B t ty e i size ht hi v n xs hown, by simpa using hown, World.grownBy.refl _ _, .inl rfl⟩
  | some ad =>
    have hbb : (n + len) * i.bytes ≤ 1000000 * 100 := Nat.mul_le_mul hb hby
    obtain ⟨v', w', r1, r2, r3, _, r5⟩ := run_append_own_at (P := Try.prog) w B t ty e i z size i.bytes ht hi hz hs rfl hzs hpos v n xs hown ad len cx news hl (hnews ad rfl) h1 (by unfold maxLen; omega) (by omega) hB
    exact ⟨v', w', r1, r2, r3, r5⟩
/-- What a sender's call leaves: all but its block and its row. -/
structure Fr (w w' : World) (b : Nat) (r : Option Nat) : Prop where
  os : w'.os = w.os
  tape : w'.tape = w.tape
  output : w'.output = w.output
  size : w.heap.size ≤ w'.heap.size
  block : ∀ i, i < w.heap.size → i ≠ b → some i ≠ r → w'.heap[i]? = w.heap[i]?
theorem Fr.refl (w : World) (b : Nat) (r : Option Nat) : Fr w w b r := ⟨rfl, rfl, rfl, Nat.le_refl _, fun _ _ _ _ => rfl⟩
theorem Fr.trans {w1 w2 w3 : World} {b : Nat} {r : Option Nat} (h : Fr w1 w2 b r) (k : Fr w2 w3 b r) : Fr w1 w3 b r :=
  ⟨k.os.trans h.os, k.tape.trans h.tape, k.output.trans h.output, Nat.le_trans h.size k.size, fun i hi h1 h2 => (k.block i (Nat.lt_of_lt_of_le hi h.size) h1 h2).trans (h.block i hi h1 h2)⟩
theorem Fr.ofRow {w w' : World} {b : Nat} {r : Option Nat} (h : w.grownBy w' r) : Fr w w' b r := ⟨h.os, h.tape, h.output, h.size, fun i hi _ h2 => h.block i hi h2⟩
theorem Fr.ofBelow {w w' : World} {b : Nat} {r : Option Nat} (h : Below w.heap.size w w') : Fr w w' b r := ⟨h.os, h.tape, h.output, h.size, fun i hi _ _ => h.block i hi⟩
theorem Fr.set (w : World) (b i : Nat) (v : Value) (r : Option Nat) : Fr w (w.setCell ⟨b, i, none⟩ v) b r := ⟨rfl, rfl, rfl, by simp [World.setCell], fun k _ hk _ => Below.heap_setCell _ _ _ _ hk⟩
theorem Fr.below {B : Nat} {w0 w w' : World} {b : Nat} {r : Option Nat} (h : Below B w0 w) (k : Fr w w' b r) (h1 : B ≤ b) (h2 : ∀ j, r = some j → B ≤ j) (hB : B ≤ w.heap.size) : Below B w0 w' :=
  h.trans ⟨k.os, k.tape, k.output, k.size, fun i hi => k.block i (by omega) (by omega) (fun e => by have := h2 i e.symm; omega)⟩
theorem grown_set (w : World) (b i : Nat) (v : Value) : w.grownBy (w.setCell ⟨b, i, none⟩ v) (some b) := ⟨rfl, rfl, rfl, by simp [World.setCell], fun k _ hk => Below.heap_setCell _ _ _ _ (fun e => hk (by rw [e]))⟩
/-- Cells stored one behind the other. -/
theorem setCells_row : ∀ (vs : List Value) (w : World) (b o : Nat) (cur : Array Value) (t : TypeId) (fr : Nat × Nat), w.heap[b]? = some (.cells cur t fr) →
    (∃ cur', (w.setCells b o vs).heap[b]? = some (.cells cur' t fr) ∧ cur'.size = cur.size ∧ ∀ j, o + vs.length ≤ j → cur'[j]? = cur[j]?) ∧ w.grownBy (w.setCells b o vs) (some b)
  | [], w, b, o, cur, t, fr, h => ⟨⟨cur, h, rfl, fun _ _ => rfl⟩, World.grownBy.refl _ _⟩
  | x :: vs, w, b, o, cur, t, fr, h => by
    have e : w.setCells b o (x :: vs) = (w.setCell ⟨b, o, none⟩ x).setCells b (o + 1) vs := rfl
    have h1 : (w.setCell ⟨b, o, none⟩ x).heap[b]? = some (.cells (cur.setIfInBounds o x) t fr) := by simp [World.setCell, Array.getElem?_modify, h]
    obtain ⟨⟨cur', h2, h3, h4⟩, h5⟩ := setCells_row vs (w.setCell ⟨b, o, none⟩ x) b (o + 1) _ t fr h1
    rw [e]
    refine ⟨⟨cur', h2, by simpa using h3, fun j hj => ?_⟩, World.grownBy.trans (grown_set w b o x) h5⟩
    rw [List.length_cons] at hj
    rw [h4 j (by omega), Array.getElem?_setIfInBounds, if_neg (by omega)]
end Go.Proofs.Ytlmnncablfbafaa
