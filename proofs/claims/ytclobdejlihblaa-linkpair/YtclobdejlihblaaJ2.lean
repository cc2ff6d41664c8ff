/- An end, as it lies there; begin, New, Epoch, Offer. -/
import Derived.Test.YtclobdejlihblaaJE6
import Derived.Test.YtclobdejlihblaaJ1
namespace Go.Proofs.Ytclobdejlihblaa
open Go Go.RowKit
set_option maxRecDepth 20000
/-- An end: its epoch, its bounds as they were told, passive or not; its sender's pieces ds behind k; its receiver's ps that wait behind q. -/
structure En where
  ep : Int
  wa : Int
  ra : Int
  pas : Bool
  k : Nat
  ds : List ByteArray
  q : Nat
  ps : List ByteArray
def clampE (e : Int) : Int := min (max e 0) 1099511627776
def En.fresh (E : En) (ep : Int) : En := ⟨clampE ep, E.wa, E.ra, E.pas, 0, [], 0, []⟩
/-- A block of six cells. -/
def Lb (t : TypeId) (w : World) (b : Nat) (x0 x1 x2 x3 x4 x5 : Value) : Prop := w.heap[b]? = some (.cells #[x0, x1, x2, x3, x4, x5] t (0, 0))
section
variable {t : TypeId} {w w' : World} {b : Nat} {x0 x1 x2 x3 x4 x5 : Value}
theorem Lb.c0 (h : Lb t w b x0 x1 x2 x3 x4 x5) : w.cell? ⟨b, 0, none⟩ = some x0 := cell_at h 0 _ rfl
theorem Lb.c1 (h : Lb t w b x0 x1 x2 x3 x4 x5) : w.cell? ⟨b, 1, none⟩ = some x1 := cell_at h 1 _ rfl
theorem Lb.c2 (h : Lb t w b x0 x1 x2 x3 x4 x5) : w.cell? ⟨b, 2, none⟩ = some x2 := cell_at h 2 _ rfl
theorem Lb.c3 (h : Lb t w b x0 x1 x2 x3 x4 x5) : w.cell? ⟨b, 3, none⟩ = some x3 := cell_at h 3 _ rfl
theorem Lb.c4 (h : Lb t w b x0 x1 x2 x3 x4 x5) : w.cell? ⟨b, 4, none⟩ = some x4 := cell_at h 4 _ rfl
theorem Lb.c5 (h : Lb t w b x0 x1 x2 x3 x4 x5) : w.cell? ⟨b, 5, none⟩ = some x5 := cell_at h 5 _ rfl
theorem Lb.f0 (h : Lb t w b x0 x1 x2 x3 x4 x5) (i : Nat) : w.frozen? ⟨b, i, none⟩ = false := by unfold Lb at h; simp [World.frozen?, h]
theorem Lb.lt (h : Lb t w b x0 x1 x2 x3 x4 x5) : b < w.heap.size := (Array.getElem?_eq_some_iff.1 h).1
theorem Lb.same (h : Lb t w b x0 x1 x2 x3 x4 x5) (hb : w'.heap[b]? = w.heap[b]?) : Lb t w' b x0 x1 x2 x3 x4 x5 := hb.trans h
theorem Lb.next (h : Lb t w b x0 x1 x2 x3 x4 x5) (hb : Below w.heap.size w w') : Lb t w' b x0 x1 x2 x3 x4 x5 := h.same (hb.block b h.lt)
theorem Lb.set0 (h : Lb t w b x0 x1 x2 x3 x4 x5) (y : Value) : Lb t (w.setCell ⟨b, 0, none⟩ y) b y x1 x2 x3 x4 x5 := by
  unfold Lb at *; simp [World.setCell, Array.getElem?_modify, h]
theorem Lb.set1 (h : Lb t w b x0 x1 x2 x3 x4 x5) (y : Value) : Lb t (w.setCell ⟨b, 1, none⟩ y) b x0 y x2 x3 x4 x5 := by
  unfold Lb at *; simp [World.setCell, Array.getElem?_modify, h]
theorem Lb.set2 (h : Lb t w b x0 x1 x2 x3 x4 x5) (y : Value) : Lb t (w.setCell ⟨b, 2, none⟩ y) b x0 x1 y x3 x4 x5 := by
  unfold Lb at *; simp [World.setCell, Array.getElem?_modify, h]
theorem Lb.set4 (h : Lb t w b x0 x1 x2 x3 x4 x5) (y : Value) : Lb t (w.setCell ⟨b, 4, none⟩ y) b x0 x1 x2 x3 y x5 := by
  unfold Lb at *; simp [World.setCell, Array.getElem?_modify, h]
theorem Lb.set5 (h : Lb t w b x0 x1 x2 x3 x4 x5) (y : Value) : Lb t (w.setCell ⟨b, 5, none⟩ y) b x0 x1 x2 x3 x4 y := by
  unfold Lb at *; simp [World.setCell, Array.getElem?_modify, h]
end
/-- In block b lies an end; its sender in bs, the pieces in v, its receiver in br, its ring L. -/
structure Lx (B : Nat) (w : World) (b bs : Nat) (v : Value) (br : Nat) (L : List ByteArray) (E : En) : Prop where
  lo : B ≤ b
  blk : Lb 49 w b (.int .i64 E.ep) (.int .i64 E.wa) (.int .i64 E.ra) (.bool E.pas) (.pointer (some ⟨bs, 0, none⟩)) (.pointer (some ⟨br, 0, none⟩))
  sn : Sn B w bs v (winOf E.wa) (lastOf 1125899906842624) E.k E.ds
  rv : Rcv.Rv B w br (Rcv.roomOf E.ra) E.q E.ps L
/-- The blocks of an end. -/
def ft (b bs : Nat) (v : Value) (br : Nat) (j : Nat) : Prop := j = b ∨ j = bs ∨ v.ownBlock = some j ∨ j = br
/-- What a call leaves: all but the blocks of P; what it has then is of these, or new. -/
structure Lf (w w' : World) (P P' : Nat → Prop) : Prop where
  os : w'.os = w.os
  tape : w'.tape = w.tape
  output : w'.output = w.output
  size : w.heap.size ≤ w'.heap.size
  block : ∀ j, j < w.heap.size → ¬ P j → w'.heap[j]? = w.heap[j]?
  nw : ∀ j, P' j → P j ∨ w.heap.size ≤ j
section
variable {B : Nat} {w w' : World} {b bs : Nat} {v : Value} {br : Nat} {L : List ByteArray} {E : En}
theorem Lx.same (h : Lx B w b bs v br L E) (hk : ∀ j, ft b bs v br j → w'.heap[j]? = w.heap[j]?) : Lx B w' b bs v br L E :=
  ⟨h.lo, h.blk.same (hk b (.inl rfl)), h.sn.same (hk bs (.inr (.inl rfl))) (fun j hj => hk j (.inr (.inr (.inl hj)))), h.rv.same (hk br (.inr (.inr (.inr rfl))))⟩
theorem Lx.ftlt (h : Lx B w b bs v br L E) (j : Nat) (hj : ft b bs v br j) : B ≤ j ∧ j < w.heap.size := by
  rcases hj with rfl | rfl | hj | rfl
  · exact ⟨h.lo, h.blk.lt⟩
  · exact ⟨h.sn.lo, h.sn.lt⟩
  · exact h.sn.row.lt j hj
  · exact ⟨h.rv.lo, h.rv.lt⟩
theorem Lx.next (h : Lx B w b bs v br L E) (hb : Below w.heap.size w w') : Lx B w' b bs v br L E := h.same fun j hj => hb.block j (h.ftlt j hj).2
theorem Lx.asit (h : Lx B w b bs v br L E) (e : w'.heap = w.heap) : Lx B w' b bs v br L E := h.same fun j _ => by rw [e]
theorem Lx.lower {B' : Nat} (h : Lx B w b bs v br L E) (hB : B' ≤ B) : Lx B' w b bs v br L E := ⟨Nat.le_trans hB h.lo, h.blk, h.sn.lower hB, h.rv.lower hB⟩
/-- An end's blocks are of four types. -/
theorem Lx.fty (h : Lx B w b bs v br L E) (j : Nat) (hj : ft b bs v br j) : ∃ cur t fr, w.heap[j]? = some (.cells cur t fr) ∧ (t = 49 ∨ t = 81 ∨ t = 84 ∨ t = 76) := by
  rcases hj with rfl | rfl | hj | rfl
  · exact ⟨_, _, _, h.blk, .inl rfl⟩
  · exact ⟨_, _, _, h.sn.blk, .inr (.inl rfl)⟩
  · obtain ⟨c, hc⟩ := h.sn.row.typ j hj
    exact ⟨_, _, _, hc, .inr (.inr (.inl rfl))⟩
  · exact ⟨_, _, _, h.rv.blk, .inr (.inr (.inr rfl))⟩
theorem Lx.ne1 (h : Lx B w b bs v br L E) : b ≠ bs := two_types h.blk h.sn.blk (by decide)
theorem Lx.ne2 (h : Lx B w b bs v br L E) : b ≠ br := two_types h.blk h.rv.blk (by decide)
theorem Lx.ne3 (h : Lx B w b bs v br L E) : bs ≠ br := two_types h.sn.blk h.rv.blk (by decide)
theorem Lx.ne4 (h : Lx B w b bs v br L E) : v.ownBlock ≠ some b := fun e => by
  obtain ⟨c, hc⟩ := h.sn.row.typ b e
  exact two_types hc h.blk (by decide) rfl
theorem Lx.ne5 (h : Lx B w b bs v br L E) : v.ownBlock ≠ some br := fun e => by
  obtain ⟨c, hc⟩ := h.sn.row.typ br e
  exact two_types hc h.rv.blk (by decide) rfl
/-- What a call on the sender leaves of the end. -/
theorem Lx.onSn {v' : Value} {k' : Nat} {ds' : List ByteArray} (h : Lx B w b bs v br L E) (hs : Sn B w' bs v' (winOf E.wa) (lastOf 1125899906842624) k' ds') (hf : Fr w w' bs v.ownBlock) (hn : Nw w v v') :
    Lx B w' b bs v' br L { E with k := k', ds := ds' } ∧ Lf w w' (ft b bs v br) (ft b bs v' br) := by
  refine ⟨⟨h.lo, h.blk.same (hf.block b h.blk.lt h.ne1 (fun e => h.ne4 e.symm)), hs, h.rv.same (hf.block br h.rv.lt (fun e => h.ne3 e.symm) (fun e => h.ne5 e.symm))⟩, hf.os, hf.tape, hf.output, hf.size, fun j hj hp => hf.block j hj (fun e => hp (.inr (.inl e))) (fun e => hp (.inr (.inr (.inl e.symm)))), fun j hj => ?_⟩
  rcases hj with rfl | rfl | hj | rfl
  · exact .inl (.inl rfl)
  · exact .inl (.inr (.inl rfl))
  · exact (hn j hj).imp (fun h => .inr (.inr (.inl h))) id
  · exact .inl (.inr (.inr (.inr rfl)))
/-- What a call on the receiver leaves of the end. -/
theorem Lx.onRv {q' : Nat} {ps' L' : List ByteArray} (h : Lx B w b bs v br L E) (hr : Rcv.Rv B w' br (Rcv.roomOf E.ra) q' ps' L') (hg : w.grownBy w' (some br)) :
    Lx B w' b bs v br L' { E with q := q', ps := ps' } ∧ Lf w w' (ft b bs v br) (ft b bs v br) := by
  refine ⟨⟨h.lo, h.blk.same (hg.block b h.blk.lt (fun e => h.ne2 (by simpa using e))), h.sn.same (hg.block bs h.sn.lt (fun e => h.ne3 (by simpa using e))) (fun j hj => hg.block j (h.sn.row.lt j hj).2 (fun e => h.ne5 (by rw [hj, e]))), hr⟩, hg.os, hg.tape, hg.output, hg.size, fun j hj hp => hg.block j hj (fun e => hp (.inr (.inr (.inr (by simpa using e))))), fun j hj => .inl hj⟩
theorem Lf.refl (w : World) (P : Nat → Prop) : Lf w w P P := ⟨rfl, rfl, rfl, Nat.le_refl _, fun _ _ _ => rfl, fun _ h => .inl h⟩
theorem Lf.trans {w1 w2 w3 : World} {P P' P'' : Nat → Prop} (h : Lf w1 w2 P P') (k : Lf w2 w3 P' P'') : Lf w1 w3 P P'' :=
  ⟨k.os.trans h.os, k.tape.trans h.tape, k.output.trans h.output, Nat.le_trans h.size k.size, fun j hj hp => (k.block j (Nat.lt_of_lt_of_le hj h.size) (fun hq => (h.nw j hq).elim hp (fun e => by omega))).trans (h.block j hj hp), fun j hj => (k.nw j hj).elim (fun hq => h.nw j hq) (fun e => .inr (Nat.le_trans h.size e))⟩
theorem Lf.ofBelow {P : Nat → Prop} (h : Below w.heap.size w w') : Lf w w' P P := ⟨h.os, h.tape, h.output, h.size, fun j hj _ => h.block j hj, fun _ h => .inl h⟩
theorem Lf.asit {P : Nat → Prop} (e : w'.heap = w.heap) (e1 : w'.os = w.os) (e2 : w'.tape = w.tape) (e3 : w'.output = w.output) : Lf w w' P P := .ofBelow (below_asit e e1 e2 e3)
end
set_option maxHeartbeats 1000000 in
theorem begin_any {B : Nat} {b : Nat} {e0 wa ra : Int} {pas : Bool} {s0 r0 : Value} (ep : Int) (hB : B ≤ b) (w : World) (h : Lb 49 w b (.int .i64 e0) (.int .i64 wa) (.int .i64 ra) (.bool pas) s0 r0) :
    Calls Try.prog 30 #[.pointer (some ⟨b, 0, none⟩), .int .i64 ep] w fun x w' => x = .returned (.tuple #[]) ∧ (∃ bs br, w.heap.size ≤ bs ∧ w.heap.size ≤ br ∧ Lx B w' b bs (.slice none 0 0) br (List.replicate 16 emp) ⟨clampE ep, wa, ra, pas, 0, [], 0, []⟩) ∧ w.grownBy w' (some b) := by
  have c0 := h.c0
  have f0 := h.f0 0
  have H := Lib.hid h
  have c1 := (h.set0 (.int .i64 (min (max ep 0) 1099511627776))).c1
  clear h
  go_enter Try.func30, Try.ntmps30
  go_wp2_with fail
  refine (new_any wa 1125899906842624 _).mono ?_
  rintro x w2 ⟨rfl, hs, hb⟩
  have h2 := (H.out.set0 (.int .i64 (min (max ep 0) 1099511627776))).next hb
  have hsz : (w.setCell ⟨b, 0, none⟩ (.int .i64 (min (max ep 0) 1099511627776))).heap.size = w.heap.size := by simp
  rw [hsz] at hs hb
  have HS := Lib.hid hs
  have HB := Lib.hid hb
  have c4 := h2.c4
  have f4 := h2.f0 4
  have h3 := h2.set4 (.pointer (some ⟨w.heap.size, 0, none⟩))
  have c2 := h3.c2
  have H3 := Lib.hid h3
  clear h2 h3 hs hb hsz
  go_wp2_with fail
  refine (Rcv.new_any ra _).mono ?_
  rintro x w4 ⟨rfl, hr, hb⟩
  have h4 := H3.out.next hb
  have hsz : (w2.setCell ⟨b, 4, none⟩ (.pointer (some ⟨w.heap.size, 0, none⟩))).heap.size = w2.heap.size := by simp
  rw [hsz] at hr hb
  have c5 := h4.c5
  have f5 := h4.f0 5
  have HR := Lib.hid hr
  have HB2 := Lib.hid hb
  have H4 := Lib.hid (h4.set5 (.pointer (some ⟨w2.heap.size, 0, none⟩)))
  have HL := Lib.hid H.out.lt
  clear h4 hr hb hsz H3
  go_wp2
  first | go_end0 | refine bodyPost_ret (results_none rfl _ _ _) rfl ?_
  have h1 : w.heap.size ≤ w2.heap.size := by have := HB.out.size; simpa using this
  have h2 : w2.heap.size ≤ w4.heap.size := by have := HB2.out.size; simpa using this
  have hl := HL.out
  have hx1 : w.heap.size ≠ b := by omega
  have hx2 : w2.heap.size ≠ b := by omega
  have g1 : w.grownBy w2 (some b) := World.grownBy.trans (grown_set w b 0 _) (grownOf (some b) (HB.out.mono (by simp)))
  have g2 : w.grownBy w4 (some b) := World.grownBy.trans (World.grownBy.trans g1 (grown_set w2 b 4 _)) (grownOf (some b) (HB2.out.mono (by simp)))
  refine ⟨rfl, ⟨w.heap.size, w2.heap.size, Nat.le_refl _, h1, ⟨hB, H4.out, ?_, ?_⟩⟩, World.grownBy.trans g2 (grown_set w4 b 5 _)⟩
  · refine (HS.out.lower (by omega)).same ?_ (fun j hj => by cases hj)
    have e1 : w4.heap[w.heap.size]? = (w2.setCell ⟨b, 4, none⟩ (.pointer (some ⟨w.heap.size, 0, none⟩))).heap[w.heap.size]? := HB2.out.block _ (HS.out.lt)
    rw [Below.heap_setCell _ _ _ _ hx1, e1, Below.heap_setCell _ _ _ _ hx1]
  · refine (HR.out.lower (by omega)).same ?_
    rw [Below.heap_setCell _ _ _ _ hx2]
set_option maxHeartbeats 1000000 in
theorem lnew_any (ep wa ra : Int) (pas : Bool) (w : World) :
    Calls Try.prog 9 #[.int .i64 ep, .int .i64 wa, .int .i64 ra, .bool pas] w fun x w' => x = .returned (.pointer (some ⟨w.heap.size, 0, none⟩)) ∧ (∃ bs br, Lx w.heap.size w' w.heap.size bs (.slice none 0 0) br (List.replicate 16 emp) ⟨clampE ep, wa, ra, pas, 0, [], 0, []⟩) ∧ Below w.heap.size w w' := by
  go_enter Try.func9, Try.ntmps9
  go_wp2_with fail
  refine (begin_any (B := w.heap.size) ep (Nat.le_refl _) _ (heap_alloc_new w _)).mono ?_
  rintro x w1 ⟨rfl, ⟨bs, br, _, _, hx⟩, hg⟩
  have HX := Lib.hid hx
  have HB := Lib.hid ((Joins.below_alloc1 w _).grown hg (by simp) (fun j hj => by cases hj; exact Nat.le_refl _))
  clear hx hg
  go_wp2
  go_ret
  exact ⟨rfl, ⟨bs, br, HX.out⟩, HB.out⟩
section
variable {B : Nat} {w w' : World} {b bs : Nat} {v : Value} {br : Nat} {L : List ByteArray} {E : En}
theorem epoch_any (w : World) (h : Lx B w b bs v br L E) : Calls Try.prog 20 #[.pointer (some ⟨b, 0, none⟩)] w fun x w' => x = .returned (.int .i64 E.ep) ∧ w' = w := by
  have c0 := h.blk.c0
  generalize E.ep = S at *
  clear h
  go_enter Try.func20, Try.ntmps20
  go_wp2
  go_ret
  exact ⟨rfl, rfl⟩
/-- An offer, and what it answers. -/
def En.off (E : En) (x : ByteArray) : En := { E with ds := offD (winOf E.wa) (lastOf 1125899906842624) E.k E.ds x }
def En.offe (E : En) : Int := offE (winOf E.wa) (lastOf 1125899906842624) E.k E.ds
set_option maxHeartbeats 1000000 in
theorem loff_any (x : ByteArray) (hx : x.size ≤ 1000) (w : World) (h : Lx B w b bs v br L E) :
    Calls Try.prog 14 #[.pointer (some ⟨b, 0, none⟩), .string x] w fun e w' => e = .returned (.int .i64 E.offe) ∧ ∃ v', Lx B w' b bs v' br L (E.off x) ∧ Lf w w' (ft b bs v br) (ft b bs v' br) := by
  have c4 := h.blk.c4
  have HC := Lib.hid (off_any x hx w h.sn)
  have H := Lib.hid h
  clear h
  unfold En.offe En.off
  generalize offN (winOf E.wa) (lastOf 1125899906842624) E.k E.ds = N at *
  generalize offE (winOf E.wa) (lastOf 1125899906842624) E.k E.ds = Er at *
  generalize offD (winOf E.wa) (lastOf 1125899906842624) E.k E.ds x = D at *
  go_enter Try.func14, Try.ntmps14
  go_wp2_with fail
  refine HC.out.mono ?_
  rintro e w1 ⟨rfl, v', hs, hf, hn⟩
  have HL := Lib.hid (H.out.onSn hs hf hn)
  clear hs hf hn HC c4
  go_wp2
  go_ret
  exact ⟨rfl, v', HL.out⟩
end
end Go.Proofs.Ytclobdejlihblaa
