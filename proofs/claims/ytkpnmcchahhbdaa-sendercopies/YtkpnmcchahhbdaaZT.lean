/- A sender and the document's, side by side. -/
import Derived.Test.YtkpnmcchahhbdaaZA
import Derived.Test.YtkpnmcchahhbdaaZG
namespace Go.Proofs.Ytkpnmcchahhbdaa
open Go Go.RowKit
set_option maxRecDepth 20000
/-- Blocks of other types are left. -/
def Oth (w w' : World) : Prop := ∀ (X : Nat) (cur : Array Value) (t : TypeId) (fr : Nat × Nat), w.heap[X]? = some (.cells cur t fr) → t ≠ 53 → t ≠ 46 → t ≠ 55 → w'.heap[X]? = w.heap[X]?
section
variable {B : Nat} {w0 w w' : World} {b b' : Nat} {v v' : Value} {win last : Int} {k : Nat} {ds pre ps : List ByteArray}
theorem Oth.ofSn (h : Sn B w b v win last k ds) (hf : Fr w w' b v.ownBlock) : Oth w w' := fun X cur t fr hX h1 h2 h3 => by
  refine hf.block X (Array.getElem?_eq_some_iff.1 hX).1 (two_types hX h.blk h1) (fun e => ?_)
  obtain ⟨c, hc⟩ := h.row.typ X e.symm
  exact two_types hX hc h2 rfl
theorem Oth.ofDm (h : Dm B w b' v' win last pre ps) (hg : w.grownBy w' (some b')) : Oth w w' := fun X cur t fr hX h1 h2 h3 =>
  hg.block X (Array.getElem?_eq_some_iff.1 hX).1 (fun e => by cases e; exact two_types hX h.blk h3 rfl)
theorem Oth.ofBelow (h : Below w.heap.size w w') : Oth w w' := fun X _ _ _ hX _ _ _ => h.block X (Array.getElem?_eq_some_iff.1 hX).1
theorem Oth.trans {w1 w2 w3 : World} (h : Oth w1 w2) (k : Oth w2 w3) : Oth w1 w3 := fun X cur t fr hX h1 h2 h3 => (k X cur t fr ((h X cur t fr hX h1 h2 h3).trans hX) h1 h2 h3).trans (h X cur t fr hX h1 h2 h3)
theorem Dm.cross (hd : Dm B w b' v' win last pre ps) (hs : Sn B w b v win last k ds) (hf : Fr w w' b v.ownBlock) : Dm B w' b' v' win last pre ps := by
  have key : ∀ (X : Nat) (cur : Array Value) (t : TypeId) (fr : Nat × Nat), w.heap[X]? = some (.cells cur t fr) → t ≠ 53 → t ≠ 46 → w'.heap[X]? = w.heap[X]? := fun X cur t fr hX h1 h2 => by
    refine hf.block X (Array.getElem?_eq_some_iff.1 hX).1 (two_types hX hs.blk h1) (fun e => ?_)
    obtain ⟨c, hc⟩ := hs.row.typ X e.symm
    exact two_types hX hc h2 rfl
  refine hd.same (key _ _ _ _ hd.blk (by decide) (by decide)) (fun j hj => ?_)
  obtain ⟨c, hc⟩ := hd.row.typ j hj
  exact key _ _ _ _ hc (by decide) (by decide)
theorem Sn.cross (hs : Sn B w b v win last k ds) (hd : Dm B w b' v' win last pre ps) (hg : w.grownBy w' (some b')) : Sn B w' b v win last k ds := by
  refine hs.same (hg.block b hs.lt (fun e => by cases e; exact two_types hs.blk hd.blk (by decide) rfl)) (fun j hj => hg.block j (hs.row.lt j hj).2 (fun e => ?_))
  cases e
  obtain ⟨c, hc⟩ := hs.row.typ _ hj
  exact two_types hc hd.blk (by decide) rfl
/-- How the two stand within a law that began in w0. -/
structure Tw (B : Nat) (w0 w : World) (b : Nat) (v : Value) (b' : Nat) (v' : Value) (win last : Int) (k : Nat) (ds pre ps : List ByteArray) : Prop where
  sn : Sn B w b v win last k ds
  dm : Dm B w b' v' win last pre ps
  bel : Below B w0 w
  le : B ≤ w.heap.size
theorem Tw.next (h : Tw B w0 w b v b' v' win last k ds pre ps) (hb : Below w.heap.size w w') : Tw B w0 w' b v b' v' win last k ds pre ps := ⟨h.sn.next hb, h.dm.next hb, h.bel.trans (hb.mono h.le), Nat.le_trans h.le hb.size⟩
theorem Tw.asit (h : Tw B w0 w b v b' v' win last k ds pre ps) (e : w'.heap = w.heap) (e1 : w'.os = w.os) (e2 : w'.tape = w.tape) (e3 : w'.output = w.output) : Tw B w0 w' b v b' v' win last k ds pre ps :=
  h.next ⟨e1, e2, e3, by rw [e]; exact Nat.le_refl _, fun i _ => by rw [e]⟩
theorem Tw.fr {v1 : Value} {k1 : Nat} {ds1 : List ByteArray} (h : Tw B w0 w b v b' v' win last k ds pre ps) (hs : Sn B w' b v1 win last k1 ds1) (hf : Fr w w' b v.ownBlock) : Tw B w0 w' b v1 b' v' win last k1 ds1 pre ps :=
  ⟨hs, h.dm.cross h.sn hf, Fr.below h.bel hf h.sn.lo (fun j hj => (h.sn.row.lt j hj).1) h.le, Nat.le_trans h.le hf.size⟩
theorem Tw.gr {v1 : Value} {pre1 ps1 : List ByteArray} (h : Tw B w0 w b v b' v' win last k ds pre ps) (hd : Dm B w' b' v1 win last pre1 ps1) (hg : w.grownBy w' (some b')) : Tw B w0 w' b v b' v1 win last k ds pre1 ps1 :=
  ⟨h.sn.cross h.dm hg, hd, h.bel.grown hg h.le (fun j hj => by cases hj; exact h.dm.lo), Nat.le_trans h.le hg.size⟩
theorem tw_off (x : ByteArray) (hx : x.size ≤ 1000) (h : Tw B w0 w b v b' v' win last k ds pre ps) :
    Calls Try.prog 12 #[.pointer (some ⟨b, 0, none⟩), .string x] w fun e w' => e = .returned (.tuple #[.int .i64 (offN win last k ds), .int .i64 (offE win last k ds)]) ∧ ∃ v1, Tw B w0 w' b v1 b' v' win last k (offD win last k ds x) pre ps ∧ Oth w w' := by
  refine (off_any x hx w h.sn).mono ?_
  rintro e w1 ⟨rfl, v1, hs, hf, _⟩
  exact ⟨rfl, v1, h.fr hs hf, Oth.ofSn h.sn hf⟩
theorem tw_doff (x : ByteArray) (hx : x.size ≤ 1000) (hb : pre.length + ps.length ≤ 10000) (h : Tw B w0 w b v b' v' win last k ds pre ps) :
    Calls Try.prog 13 #[.pointer (some ⟨b', 0, none⟩), .string x] w fun e w' => e = .returned (.tuple #[.int .i64 (offN win last pre.length ps), .int .i64 (offE win last pre.length ps)]) ∧ ∃ v1, Tw B w0 w' b v b' v1 win last k ds pre (offD win last pre.length ps x) ∧ Oth w w' := by
  refine (doff_any x hx hb w h.dm).mono ?_
  rintro e w1 ⟨rfl, v1, hs, hf, _⟩
  exact ⟨rfl, v1, h.gr hs hf, Oth.ofDm h.dm hf⟩
theorem tw_ack (n : Int) (h : Tw B w0 w b v b' v' win last k ds pre ps) :
    Calls Try.prog 14 #[.pointer (some ⟨b, 0, none⟩), .int .i64 n] w fun e w' => e = .returned (.int .i64 (ackM k ds.length n : Int)) ∧ ∃ v1, Tw B w0 w' b v1 b' v' win last (k + ackM k ds.length n) (ds.drop (ackM k ds.length n)) pre ps ∧ Oth w w' := by
  refine (ack_any n w h.sn).mono ?_
  rintro e w1 ⟨rfl, v1, hs, hf, _⟩
  exact ⟨rfl, v1, h.fr hs hf, Oth.ofSn h.sn hf⟩
theorem tw_dack (n : Int) (h : Tw B w0 w b v b' v' win last k ds pre ps) :
    Calls Try.prog 15 #[.pointer (some ⟨b', 0, none⟩), .int .i64 n] w fun e w' => e = .returned (.int .i64 (ackM pre.length ps.length n : Int)) ∧ Tw B w0 w' b v b' v' win last k ds (pre ++ ps.take (ackM pre.length ps.length n)) (ps.drop (ackM pre.length ps.length n)) ∧ Oth w w' := by
  refine (dack_any n w h.dm).mono ?_
  rintro e w1 ⟨rfl, hs, hf⟩
  exact ⟨rfl, h.gr hs hf, Oth.ofDm h.dm hf⟩
theorem tw_alike (hb : pre.length ≤ 10000) (h : Tw B w0 w b v b' v' win last pre.length ds pre ds) :
    Calls Try.prog 18 #[.pointer (some ⟨b, 0, none⟩), .pointer (some ⟨b', 0, none⟩)] w fun e w' => e = .returned (.bool true) ∧ Tw B w0 w' b v b' v' win last pre.length ds pre ds := by
  refine (alike_yes hb w h.sn h.dm).mono ?_
  rintro e w1 ⟨rfl, hb⟩
  exact ⟨rfl, h.next hb⟩
theorem ackM_le (k len : Nat) (n : Int) : ackM k len n ≤ len := by
  unfold ackM
  split
  · exact Nat.zero_le _
  · omega
theorem Tw.both {m : Nat} (hm : m ≤ ds.length) (h : Tw B w0 w b v b' v' win last (pre.length + m) (ds.drop m) (pre ++ ds.take m) (ds.drop m)) : Tw B w0 w b v b' v' win last (pre ++ ds.take m).length (ds.drop m) (pre ++ ds.take m) (ds.drop m) := by
  have e : (pre ++ ds.take m).length = pre.length + m := by rw [List.length_append, List.length_take]; omega
  rw [e]; exact h
theorem both_len {m : Nat} : (pre ++ ds.take m).length + (ds.drop m).length = pre.length + ds.length := by
  rw [List.length_append, List.length_take, List.length_drop]; omega
theorem offD_len (x : ByteArray) : (offD win last k ds x).length ≤ ds.length + 1 := by
  unfold offD
  split
  · omega
  · split
    · omega
    · simp
/-- A copy, then what is done to the first one: the copy stands. -/
theorem tw_copy (h : Tw B w0 w b v b' v' win last k ds pre ps) :
    Calls Try.prog 16 #[.pointer (some ⟨b, 0, none⟩)] w fun e w' => e = .returned (.pointer (some ⟨w.heap.size, 0, none⟩)) ∧ Tw B w0 w' b v b' v' win last k ds pre ps ∧ ∃ vc, Sn w.heap.size w' w.heap.size vc win last k ds ∧ Below w.heap.size w w' := by
  refine (copy_any w h.sn).mono ?_
  rintro e w1 ⟨rfl, vc, hs, hb⟩
  exact ⟨rfl, h.next hb, vc, hs, hb⟩
end
end Go.Proofs.Ytkpnmcchahhbdaa
