/- A receiver and the document's, side by side. -/
import Derived.Test.YtlmnncablfbafaaEG
namespace Go.Proofs.Ytlmnncablfbafaa
open Go Go.RowKit
set_option maxRecDepth 20000
/-- How the two stand within a law that began in w0. -/
structure Tr (B : Nat) (w0 w : World) (b b' : Nat) (v : Value) (room : Int) (k : Nat) (ps L pre ps' : List ByteArray) : Prop where
  rv : Rv B w b room k ps L
  dr : Dr B w b' v room pre ps'
  bel : Below B w0 w
  le : B ≤ w.heap.size
section
variable {B : Nat} {w0 w w' : World} {b b' : Nat} {v : Value} {room : Int} {k : Nat} {ps L pre ps' : List ByteArray}
theorem Tr.next (h : Tr B w0 w b b' v room k ps L pre ps') (hb : Below w.heap.size w w') : Tr B w0 w' b b' v room k ps L pre ps' := ⟨h.rv.next hb, h.dr.next hb, h.bel.trans (hb.mono h.le), Nat.le_trans h.le hb.size⟩
theorem Tr.asit (h : Tr B w0 w b b' v room k ps L pre ps') (e : w'.heap = w.heap) (e1 : w'.os = w.os) (e2 : w'.tape = w.tape) (e3 : w'.output = w.output) : Tr B w0 w' b b' v room k ps L pre ps' := h.next (below_asit e e1 e2 e3)
theorem Tr.ne (h : Tr B w0 w b b' v room k ps L pre ps') : b ≠ b' := two_types h.rv.blk h.dr.blk (by decide)
theorem Tr.gr {k1 : Nat} {ps1 L1 : List ByteArray} (h : Tr B w0 w b b' v room k ps L pre ps') (hs : Rv B w' b room k1 ps1 L1) (hg : w.grownBy w' (some b)) : Tr B w0 w' b b' v room k1 ps1 L1 pre ps' :=
  ⟨hs, h.dr.same (hg.block b' h.dr.lt (fun e => by cases e; exact h.ne rfl)) (fun j hj => hg.block j (h.dr.row.lt j hj).2 (fun e => by
    cases e
    obtain ⟨c, hc⟩ := h.dr.row.typ _ hj
    exact two_types hc h.rv.blk (by decide) rfl)), h.bel.grown hg h.le (fun j hj => by cases hj; exact h.rv.lo), Nat.le_trans h.le hg.size⟩
theorem Tr.dgr {v1 : Value} {pre1 ps1 : List ByteArray} (h : Tr B w0 w b b' v room k ps L pre ps') (hd : Dr B w' b' v1 room pre1 ps1) (hg : w.grownBy w' (some b')) : Tr B w0 w' b b' v1 room k ps L pre1 ps1 :=
  ⟨h.rv.same (hg.block b h.rv.lt (fun e => by cases e; exact h.ne rfl)), hd, h.bel.grown hg h.le (fun j hj => by cases hj; exact h.dr.lo), Nat.le_trans h.le hg.size⟩
/-- Blocks of other types are left. -/
def OthR (w w' : World) : Prop := ∀ (X : Nat) (cur : Array Value) (t : TypeId) (fr : Nat × Nat), w.heap[X]? = some (.cells cur t fr) → t ≠ 49 → t ≠ 37 → w'.heap[X]? = w.heap[X]?
theorem OthR.of (h : Tr B w0 w b b' v room k ps L pre ps') (hg : w.grownBy w' (some b)) : OthR w w' := fun X cur t fr hX h1 h2 =>
  hg.block X (Array.getElem?_eq_some_iff.1 hX).1 (fun e => by cases e; exact two_types hX h.rv.blk h1 rfl)
theorem OthR.ofD (h : Tr B w0 w b b' v room k ps L pre ps') (hg : w.grownBy w' (some b')) : OthR w w' := fun X cur t fr hX h1 h2 =>
  hg.block X (Array.getElem?_eq_some_iff.1 hX).1 (fun e => by cases e; exact two_types hX h.dr.blk h2 rfl)
theorem OthR.trans {w1 w2 w3 : World} (h : OthR w1 w2) (k : OthR w2 w3) : OthR w1 w3 := fun X cur t fr hX h1 h2 => (k X cur t fr ((h X cur t fr hX h1 h2).trans hX) h1 h2).trans (h X cur t fr hX h1 h2)
/-- The call that the law laid aside stands. -/
theorem act_keptR {W w1 : World} {x : Array Value} (h : OthR (W.alloc (.cells x 30)) w1) : w1.heap[W.heap.size]? = some (.cells x 30 (0, 0)) :=
  (h _ _ _ _ (heap_alloc_new _ _) (by decide) (by decide)).trans (heap_alloc_new _ _)
theorem tr_hear (seq : Int) (x : ByteArray) (hx : x.size ≤ 1000) (hk : k + ps.length ≤ 1000000) (h : Tr B w0 w b b' v room k ps L pre ps') :
    Calls Try.prog 11 #[.pointer (some ⟨b, 0, none⟩), .int .i64 seq, .string x] w fun e w' => e = .returned (.bool (decide (takes room k ps seq))) ∧ (∃ L', Tr B w0 w' b b' v room k (hearD room k ps seq x) L' pre ps') ∧ OthR w w' := by
  refine (hear_any seq x hx hk w h.rv).mono ?_
  rintro e w1 ⟨rfl, ⟨L', hs⟩, hg⟩
  exact ⟨rfl, ⟨L', h.gr hs hg⟩, OthR.of h hg⟩
theorem tr_dhear (seq : Int) (hr : seq ≤ 9223372036854775807) (x : ByteArray) (hx : x.size ≤ 1000) (hk : pre.length + ps'.length ≤ 10000) (h : Tr B w0 w b b' v room k ps L pre ps') :
    Calls Try.prog 12 #[.pointer (some ⟨b', 0, none⟩), .int .i64 seq, .string x] w fun e w' => e = .returned (.bool (decide (takes room pre.length ps' seq))) ∧ (∃ v', Tr B w0 w' b b' v' room k ps L pre (hearD room pre.length ps' seq x)) ∧ OthR w w' := by
  refine (dhear_any seq hr x hx hk w h.dr).mono ?_
  rintro e w1 ⟨rfl, ⟨v', hd⟩, hg⟩
  exact ⟨rfl, ⟨v', h.dgr hd hg⟩, OthR.ofD h hg⟩
theorem tr_pop {hd : ByteArray} {he : Bool} (h1 : ps.headD emp = hd) (h2 : (!ps.isEmpty) = he) (hk : k + ps.length ≤ 1000000) (h : Tr B w0 w b b' v room k ps L pre ps') :
    Calls Try.prog 13 #[.pointer (some ⟨b, 0, none⟩)] w fun e w' => e = .returned (.tuple #[.string hd, .bool he]) ∧ (∃ L', Tr B w0 w' b b' v room (k + (ps.take 1).length) (ps.drop 1) L' pre ps') ∧ OthR w w' := by
  subst h1 h2
  cases ps with
  | nil =>
    refine (pop_none w h.rv).mono ?_
    rintro e w1 ⟨rfl, rfl⟩
    exact ⟨rfl, ⟨L, h⟩, fun _ _ _ _ _ _ _ => rfl⟩
  | cons x ps =>
    refine (pop_yes x (by simpa using hk) w h.rv).mono ?_
    rintro e w1 ⟨rfl, ⟨L', hs⟩, hg⟩
    exact ⟨rfl, ⟨L', h.gr hs hg⟩, OthR.of h hg⟩
theorem tr_dpop {hd : ByteArray} {he : Bool} (h1 : ps'.headD emp = hd) (h2 : (!ps'.isEmpty) = he) (hk : pre.length + ps'.length ≤ 10000) (h : Tr B w0 w b b' v room k ps L pre ps') :
    Calls Try.prog 14 #[.pointer (some ⟨b', 0, none⟩)] w fun e w' => e = .returned (.tuple #[.string hd, .bool he]) ∧ Tr B w0 w' b b' v room k ps L (pre ++ ps'.take 1) (ps'.drop 1) ∧ OthR w w' := by
  subst h1 h2
  cases ps' with
  | nil =>
    refine (dpop_none w h.dr).mono ?_
    rintro e w1 ⟨rfl, e1, e2, e3, e4⟩
    refine ⟨rfl, ?_, fun X _ _ _ _ _ _ => by rw [e1]⟩
    have := h.asit e1 e2 e3 e4
    simpa using this
  | cons x ps' =>
    refine (dpop_yes x (by omega) w h.dr).mono ?_
    rintro e w1 ⟨rfl, hd, hg⟩
    exact ⟨rfl, h.dgr hd hg, OthR.ofD h hg⟩
theorem Tr.both2 {m : Nat} (h : Tr B w0 w b b' v room (pre.length + (ps.take m).length) (ps.drop m) L (pre ++ ps.take m) (ps.drop m)) : Tr B w0 w b b' v room (pre ++ ps.take m).length (ps.drop m) L (pre ++ ps.take m) (ps.drop m) := by
  rw [List.length_append]; exact h
theorem hearD_len (room : Int) (k : Nat) (ps : List ByteArray) (seq : Int) (x : ByteArray) : (hearD room k ps seq x).length ≤ ps.length + 1 := by
  unfold hearD
  split
  · simp
  · omega
theorem pop_len : (pre ++ ps.take 1).length + (ps.drop 1).length = pre.length + ps.length := by
  rw [List.length_append, List.length_take, List.length_drop]; omega
/-- Both made, in this order or the other. -/
theorem tr_start1 {w1 w2 : World} {n : Nat} (hn : w.heap.size = n) (hw : Below B w0 w) (hB : B ≤ w.heap.size) (hs : Rv n w1 b room 0 [] L) (hb1 : Below w.heap.size w w1) (hd : Dr w1.heap.size w2 b' v room [] []) (hb2 : Below w1.heap.size w1 w2) : Tr B w0 w2 b b' v room 0 [] L [] [] := by
  have h1 := hb1.size
  exact ⟨(hs.lower (by omega)).next hb2, hd.lower (by omega), (hw.trans (hb1.mono hB)).trans (hb2.mono (by omega)), by have := hb2.size; omega⟩
end
end Go.Proofs.Ytlmnncablfbafaa
