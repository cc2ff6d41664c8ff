/- The document's end: fresh, New, Hear. -/
import Derived.Test.YtjmkdgjdemndaaaDoorJ3
namespace Go.Proofs.YtjmkdgjdemndaaaDoor.K
open Go Go.RowKit
set_option maxRecDepth 20000
/-- In block b lies the document's end. -/
structure Dx (B : Nat) (w : World) (b bs : Nat) (v : Value) (br : Nat) (v2 : Value) (pre pre2 : List ByteArray) (E : En) : Prop where
  lo : B ≤ b
  blk : Lb 82 w b (.int .i64 E.ep) (.pointer (some ⟨bs, 0, none⟩)) (.pointer (some ⟨br, 0, none⟩)) (.int .i64 E.wa) (.int .i64 E.ra) (.bool E.pas)
  sn : Dm B w bs v (winOf E.wa) (lastOf 1125899906842624) pre E.ds
  kk : pre.length = E.k
  dr : Rcv.Dr B w br v2 (Rcv.roomOf E.ra) pre2 E.ps
  qq : pre2.length = E.q
/-- The blocks that its calls turn. -/
def dft (b bs br : Nat) (j : Nat) : Prop := j = b ∨ j = bs ∨ j = br
section
variable {B : Nat} {w w' : World} {b bs : Nat} {v : Value} {br : Nat} {v2 : Value} {pre pre2 : List ByteArray} {E : En}
theorem Dm.lower {win last : Int} {ds : List ByteArray} {B' : Nat} (h : Dm B w b v win last pre ds) (hB : B' ≤ B) : Dm B' w b v win last pre ds := ⟨Nat.le_trans hB h.lo, h.blk, h.row.lower hB, h.ok⟩
theorem Dx.same (h : Dx B w b bs v br v2 pre pre2 E) (hk : ∀ j, dft b bs br j ∨ v.ownBlock = some j ∨ v2.ownBlock = some j → w'.heap[j]? = w.heap[j]?) : Dx B w' b bs v br v2 pre pre2 E :=
  ⟨h.lo, h.blk.same (hk b (.inl (.inl rfl))), h.sn.same (hk bs (.inl (.inr (.inl rfl)))) (fun j hj => hk j (.inr (.inl hj))), h.kk, h.dr.same (hk br (.inl (.inr (.inr rfl)))) (fun j hj => hk j (.inr (.inr hj))), h.qq⟩
theorem Dx.fty (h : Dx B w b bs v br v2 pre pre2 E) (j : Nat) (hj : dft b bs br j ∨ v.ownBlock = some j ∨ v2.ownBlock = some j) : ∃ cur t fr, w.heap[j]? = some (.cells cur t fr) ∧ (t = 82 ∨ t = 100 ∨ t = 102 ∨ t = 9) := by
  rcases hj with (rfl | rfl | rfl) | hj | hj
  · exact ⟨_, _, _, h.blk, .inl rfl⟩
  · exact ⟨_, _, _, h.sn.blk, .inr (.inl rfl)⟩
  · exact ⟨_, _, _, h.dr.blk, .inr (.inr (.inl rfl))⟩
  · obtain ⟨c, hc⟩ := h.sn.row.typ j hj
    exact ⟨_, _, _, hc, .inr (.inr (.inr rfl))⟩
  · obtain ⟨c, hc⟩ := h.dr.row.typ j hj
    exact ⟨_, _, _, hc, .inr (.inr (.inr rfl))⟩
theorem Dx.ftlt (h : Dx B w b bs v br v2 pre pre2 E) (j : Nat) (hj : dft b bs br j ∨ v.ownBlock = some j ∨ v2.ownBlock = some j) : B ≤ j ∧ j < w.heap.size := by
  rcases hj with (rfl | rfl | rfl) | hj | hj
  · exact ⟨h.lo, h.blk.lt⟩
  · exact ⟨h.sn.lo, h.sn.lt⟩
  · exact ⟨h.dr.lo, h.dr.lt⟩
  · exact h.sn.row.lt j hj
  · exact h.dr.row.lt j hj
theorem Dx.next (h : Dx B w b bs v br v2 pre pre2 E) (hb : Below w.heap.size w w') : Dx B w' b bs v br v2 pre pre2 E := h.same fun j hj => hb.block j (h.ftlt j hj).2
theorem Dx.asit (h : Dx B w b bs v br v2 pre pre2 E) (e : w'.heap = w.heap) : Dx B w' b bs v br v2 pre pre2 E := h.same fun j _ => by rw [e]
theorem Dx.lower {B' : Nat} (h : Dx B w b bs v br v2 pre pre2 E) (hB : B' ≤ B) : Dx B' w b bs v br v2 pre pre2 E := ⟨Nat.le_trans hB h.lo, h.blk, ⟨Nat.le_trans hB h.sn.lo, h.sn.blk, h.sn.row.lower hB, h.sn.ok⟩, h.kk, h.dr.lower hB, h.qq⟩
theorem Dx.other (h : Dx B w b bs v br v2 pre pre2 E) {X : Nat} {cur : Array Value} {t : TypeId} {fr : Nat × Nat} (hX : w.heap[X]? = some (.cells cur t fr)) (h1 : t ≠ 82) (h2 : t ≠ 100) (h3 : t ≠ 102) : ¬ dft b bs br X := fun hf => by
  rcases hf with rfl | rfl | rfl
  · exact two_types hX h.blk h1 rfl
  · exact two_types hX h.sn.blk h2 rfl
  · exact two_types hX h.dr.blk h3 rfl
theorem Dx.ne1 (h : Dx B w b bs v br v2 pre pre2 E) : b ≠ bs := two_types h.blk h.sn.blk (by decide)
theorem Dx.ne2 (h : Dx B w b bs v br v2 pre pre2 E) : b ≠ br := two_types h.blk h.dr.blk (by decide)
theorem Dx.ne3 (h : Dx B w b bs v br v2 pre pre2 E) : bs ≠ br := two_types h.sn.blk h.dr.blk (by decide)
theorem dsome {i j : Nat} (h : i ≠ j) : some j ≠ some i := fun e => h (by simpa using e.symm)
theorem RowS.notat {t : TypeId} {x : Value} {l : List ByteArray} {X : Nat} {cur : Array Value} (h : RowS B w x l) (hX : w.heap[X]? = some (.cells cur t (0, 0))) (ht : t ≠ 9) : x.ownBlock ≠ some X := fun e => by
  obtain ⟨c, hc⟩ := h.typ X e
  exact two_types hX hc ht rfl
theorem Dx.onS {v' : Value} {ds' : List ByteArray} (h : Dx B w b bs v br v2 pre pre2 E) (hs : Dm B w' bs v' (winOf E.wa) (lastOf 1125899906842624) pre ds') (hg : w.grownBy w' (some bs)) :
    Dx B w' b bs v' br v2 pre pre2 { E with ds := ds' } ∧ Lf w w' (dft b bs br) (dft b bs br) :=
  ⟨⟨h.lo, h.blk.same (hg.block b h.blk.lt (dsome h.ne1.symm)), hs, h.kk, h.dr.same (hg.block br h.dr.lt (dsome h.ne3)) (fun j hj => hg.block j (h.dr.row.lt j hj).2 (fun e => h.dr.row.notat h.sn.blk (by decide) (by rw [hj, e]))), h.qq⟩,
    hg.os, hg.tape, hg.output, hg.size, fun j hj hp => hg.block j hj (fun e => hp (.inr (.inl (by simpa using e)))), fun j hj => .inl hj⟩
theorem dackM_le (k len : Nat) (n : Int) : ackM k len n ≤ len := by
  unfold ackM
  split
  · exact Nat.zero_le _
  · omega
theorem Dx.onSa {n : Int} (h : Dx B w b bs v br v2 pre pre2 E) (hs : Dm B w' bs v (winOf E.wa) (lastOf 1125899906842624) (pre ++ E.ds.take (ackM pre.length E.ds.length n)) (E.ds.drop (ackM pre.length E.ds.length n))) (hg : w.grownBy w' (some bs)) :
    Dx B w' b bs v br v2 (pre ++ E.ds.take (ackM pre.length E.ds.length n)) pre2 { E with k := E.k + ackM E.k E.ds.length n, ds := E.ds.drop (ackM E.k E.ds.length n) } ∧ Lf w w' (dft b bs br) (dft b bs br) := by
  have hk := h.kk
  refine ⟨⟨h.lo, h.blk.same (hg.block b h.blk.lt (dsome h.ne1.symm)), ?_, ?_, h.dr.same (hg.block br h.dr.lt (dsome h.ne3)) (fun j hj => hg.block j (h.dr.row.lt j hj).2 (fun e => h.dr.row.notat h.sn.blk (by decide) (by rw [hj, e]))), h.qq⟩,
    hg.os, hg.tape, hg.output, hg.size, fun j hj hp => hg.block j hj (fun e => hp (.inr (.inl (by simpa using e)))), fun j hj => .inl hj⟩
  · rw [hk] at hs ⊢
    exact hs
  · have := dackM_le pre.length E.ds.length n
    rw [List.length_append, List.length_take, ← hk]
    simp only
    omega
theorem Dx.onR {v' : Value} {ps' : List ByteArray} (h : Dx B w b bs v br v2 pre pre2 E) (hr : Rcv.Dr B w' br v' (Rcv.roomOf E.ra) pre2 ps') (hg : w.grownBy w' (some br)) :
    Dx B w' b bs v br v' pre pre2 { E with ps := ps' } ∧ Lf w w' (dft b bs br) (dft b bs br) :=
  ⟨⟨h.lo, h.blk.same (hg.block b h.blk.lt (dsome h.ne2.symm)), h.sn.same (hg.block bs h.sn.lt (dsome h.ne3.symm)) (fun j hj => hg.block j (h.sn.row.lt j hj).2 (fun e => h.sn.row.notat h.dr.blk (by decide) (by rw [hj, e]))), h.kk, hr, h.qq⟩,
    hg.os, hg.tape, hg.output, hg.size, fun j hj hp => hg.block j hj (fun e => hp (.inr (.inr (by simpa using e)))), fun j hj => .inl hj⟩
end
set_option maxHeartbeats 1000000 in
theorem dfresh_low {B : Nat} {b : Nat} {e0 wa ra : Int} {pas : Bool} {s0 r0 : Value} (ep : Int) (hB : B ≤ b) (w : World) (h1 : ep < 0) (h : Lb 82 w b (.int .i64 e0) s0 r0 (.int .i64 wa) (.int .i64 ra) (.bool pas)) :
    Calls Tryd.prog 31 #[.pointer (some ⟨b, 0, none⟩), .int .i64 ep] w fun x w' => x = .returned (.tuple #[]) ∧ (∃ bs br, w.heap.size ≤ bs ∧ w.heap.size ≤ br ∧ Dx B w' b bs (.slice none 0 0) br (.slice none 0 0) [] [] ⟨clampE ep, wa, ra, pas, 0, [], 0, []⟩) ∧ w.grownBy w' (some b) := by
  have e : clampE ep = 0 := by unfold clampE; omega
  rw [e]
  have c0 := h.c0
  have f0 := h.f0 0
  have H := Lib.hid h
  have c3 := (h.set0 (.int .i64 0)).c3
  clear h
  go_enter Tryd.func31, Tryd.ntmps31
  go_wp2_with fail
  refine (dnew_any wa 1125899906842624 _).mono ?_
  rintro x w2 ⟨rfl, hs, hb⟩
  have h2 := (H.out.set0 (.int .i64 0)).next hb
  have hsz : (w.setCell ⟨b, 0, none⟩ (.int .i64 0)).heap.size = w.heap.size := by simp
  rw [hsz] at hs hb
  have HS := Lib.hid hs
  have HB := Lib.hid hb
  have c1 := h2.c1
  have f1 := h2.f0 1
  have h3 := h2.set1 (.pointer (some ⟨w.heap.size, 0, none⟩))
  have c4 := h3.c4
  have H3 := Lib.hid h3
  clear h2 h3 hs hb hsz
  go_wp2_with fail
  refine (Rcv.dnew_any ra _).mono ?_
  rintro x w4 ⟨rfl, hr, hb⟩
  have h4 := H3.out.next hb
  have hsz : (w2.setCell ⟨b, 1, none⟩ (.pointer (some ⟨w.heap.size, 0, none⟩))).heap.size = w2.heap.size := by simp
  rw [hsz] at hr hb
  have c2 := h4.c2
  have f2 := h4.f0 2
  have HR := Lib.hid hr
  have HB2 := Lib.hid hb
  have H4 := Lib.hid (h4.set2 (.pointer (some ⟨w2.heap.size, 0, none⟩)))
  have HL := Lib.hid H.out.lt
  clear h4 hr hb hsz H3
  go_wp2
  first | go_end0 | refine bodyPost_ret (results_none rfl _ _ _) rfl ?_
  have h1 : w.heap.size ≤ w2.heap.size := by have := HB.out.size; simpa using this
  have h2 : w2.heap.size ≤ w4.heap.size := by have := HB2.out.size; simpa using this
  have hl := HL.out
  have hx1 : w.heap.size ≠ b := by omega
  have hx2 : w2.heap.size ≠ b := by omega
  have g1 : w.grownBy w2 (some b) := World.grownBy.trans (grown_set w b 0 _) (grownOf (some b) (HB.out.mono (by simp)))
  have g2 : w.grownBy w4 (some b) := World.grownBy.trans (World.grownBy.trans g1 (grown_set w2 b 1 _)) (grownOf (some b) (HB2.out.mono (by simp)))
  refine ⟨rfl, ⟨w.heap.size, w2.heap.size, Nat.le_refl _, h1, ⟨hB, H4.out, ?_, rfl, ?_, rfl⟩⟩, World.grownBy.trans g2 (grown_set w4 b 2 _)⟩
  · refine (HS.out.lower (by omega)).same ?_ (fun j hj => by cases hj)
    have e1 : w4.heap[w.heap.size]? = (w2.setCell ⟨b, 1, none⟩ (.pointer (some ⟨w.heap.size, 0, none⟩))).heap[w.heap.size]? := HB2.out.block _ (HS.out.lt)
    rw [Below.heap_setCell _ _ _ _ hx1, e1, Below.heap_setCell _ _ _ _ hx1]
  · refine (HR.out.lower (by omega)).same ?_ (fun j hj => by cases hj)
    rw [Below.heap_setCell _ _ _ _ hx2]
set_option maxHeartbeats 1000000 in
theorem dfresh_high {B : Nat} {b : Nat} {e0 wa ra : Int} {pas : Bool} {s0 r0 : Value} (ep : Int) (hB : B ≤ b) (w : World) (h1 : 1099511627776 < ep) (h : Lb 82 w b (.int .i64 e0) s0 r0 (.int .i64 wa) (.int .i64 ra) (.bool pas)) :
    Calls Tryd.prog 31 #[.pointer (some ⟨b, 0, none⟩), .int .i64 ep] w fun x w' => x = .returned (.tuple #[]) ∧ (∃ bs br, w.heap.size ≤ bs ∧ w.heap.size ≤ br ∧ Dx B w' b bs (.slice none 0 0) br (.slice none 0 0) [] [] ⟨clampE ep, wa, ra, pas, 0, [], 0, []⟩) ∧ w.grownBy w' (some b) := by
  have e : clampE ep = 1099511627776 := by unfold clampE; omega
  have k1 : ¬ ep < 0 := by omega
  rw [e]
  have c0 := h.c0
  have f0 := h.f0 0
  have H := Lib.hid h
  have c3 := (h.set0 (.int .i64 1099511627776)).c3
  clear h
  go_enter Tryd.func31, Tryd.ntmps31
  go_wp2_with fail
  refine (dnew_any wa 1125899906842624 _).mono ?_
  rintro x w2 ⟨rfl, hs, hb⟩
  have h2 := (H.out.set0 (.int .i64 1099511627776)).next hb
  have hsz : (w.setCell ⟨b, 0, none⟩ (.int .i64 1099511627776)).heap.size = w.heap.size := by simp
  rw [hsz] at hs hb
  have HS := Lib.hid hs
  have HB := Lib.hid hb
  have c1 := h2.c1
  have f1 := h2.f0 1
  have h3 := h2.set1 (.pointer (some ⟨w.heap.size, 0, none⟩))
  have c4 := h3.c4
  have H3 := Lib.hid h3
  clear h2 h3 hs hb hsz
  go_wp2_with fail
  refine (Rcv.dnew_any ra _).mono ?_
  rintro x w4 ⟨rfl, hr, hb⟩
  have h4 := H3.out.next hb
  have hsz : (w2.setCell ⟨b, 1, none⟩ (.pointer (some ⟨w.heap.size, 0, none⟩))).heap.size = w2.heap.size := by simp
  rw [hsz] at hr hb
  have c2 := h4.c2
  have f2 := h4.f0 2
  have HR := Lib.hid hr
  have HB2 := Lib.hid hb
  have H4 := Lib.hid (h4.set2 (.pointer (some ⟨w2.heap.size, 0, none⟩)))
  have HL := Lib.hid H.out.lt
  clear h4 hr hb hsz H3
  go_wp2
  first | go_end0 | refine bodyPost_ret (results_none rfl _ _ _) rfl ?_
  have h1 : w.heap.size ≤ w2.heap.size := by have := HB.out.size; simpa using this
  have h2 : w2.heap.size ≤ w4.heap.size := by have := HB2.out.size; simpa using this
  have hl := HL.out
  have hx1 : w.heap.size ≠ b := by omega
  have hx2 : w2.heap.size ≠ b := by omega
  have g1 : w.grownBy w2 (some b) := World.grownBy.trans (grown_set w b 0 _) (grownOf (some b) (HB.out.mono (by simp)))
  have g2 : w.grownBy w4 (some b) := World.grownBy.trans (World.grownBy.trans g1 (grown_set w2 b 1 _)) (grownOf (some b) (HB2.out.mono (by simp)))
  refine ⟨rfl, ⟨w.heap.size, w2.heap.size, Nat.le_refl _, h1, ⟨hB, H4.out, ?_, rfl, ?_, rfl⟩⟩, World.grownBy.trans g2 (grown_set w4 b 2 _)⟩
  · refine (HS.out.lower (by omega)).same ?_ (fun j hj => by cases hj)
    have e1 : w4.heap[w.heap.size]? = (w2.setCell ⟨b, 1, none⟩ (.pointer (some ⟨w.heap.size, 0, none⟩))).heap[w.heap.size]? := HB2.out.block _ (HS.out.lt)
    rw [Below.heap_setCell _ _ _ _ hx1, e1, Below.heap_setCell _ _ _ _ hx1]
  · refine (HR.out.lower (by omega)).same ?_ (fun j hj => by cases hj)
    rw [Below.heap_setCell _ _ _ _ hx2]
set_option maxHeartbeats 1000000 in
theorem dfresh_mid {B : Nat} {b : Nat} {e0 wa ra : Int} {pas : Bool} {s0 r0 : Value} (ep : Int) (hB : B ≤ b) (w : World) (h1 : ¬ ep < 0) (h2 : ¬ 1099511627776 < ep) (h : Lb 82 w b (.int .i64 e0) s0 r0 (.int .i64 wa) (.int .i64 ra) (.bool pas)) :
    Calls Tryd.prog 31 #[.pointer (some ⟨b, 0, none⟩), .int .i64 ep] w fun x w' => x = .returned (.tuple #[]) ∧ (∃ bs br, w.heap.size ≤ bs ∧ w.heap.size ≤ br ∧ Dx B w' b bs (.slice none 0 0) br (.slice none 0 0) [] [] ⟨clampE ep, wa, ra, pas, 0, [], 0, []⟩) ∧ w.grownBy w' (some b) := by
  have e : clampE ep = ep := by unfold clampE; omega
  rw [e]
  have c0 := h.c0
  have f0 := h.f0 0
  have H := Lib.hid h
  have c3 := (h.set0 (.int .i64 ep)).c3
  clear h
  go_enter Tryd.func31, Tryd.ntmps31
  go_wp2_with fail
  refine (dnew_any wa 1125899906842624 _).mono ?_
  rintro x w2 ⟨rfl, hs, hb⟩
  have h2 := (H.out.set0 (.int .i64 ep)).next hb
  have hsz : (w.setCell ⟨b, 0, none⟩ (.int .i64 ep)).heap.size = w.heap.size := by simp
  rw [hsz] at hs hb
  have HS := Lib.hid hs
  have HB := Lib.hid hb
  have c1 := h2.c1
  have f1 := h2.f0 1
  have h3 := h2.set1 (.pointer (some ⟨w.heap.size, 0, none⟩))
  have c4 := h3.c4
  have H3 := Lib.hid h3
  clear h2 h3 hs hb hsz
  go_wp2_with fail
  refine (Rcv.dnew_any ra _).mono ?_
  rintro x w4 ⟨rfl, hr, hb⟩
  have h4 := H3.out.next hb
  have hsz : (w2.setCell ⟨b, 1, none⟩ (.pointer (some ⟨w.heap.size, 0, none⟩))).heap.size = w2.heap.size := by simp
  rw [hsz] at hr hb
  have c2 := h4.c2
  have f2 := h4.f0 2
  have HR := Lib.hid hr
  have HB2 := Lib.hid hb
  have H4 := Lib.hid (h4.set2 (.pointer (some ⟨w2.heap.size, 0, none⟩)))
  have HL := Lib.hid H.out.lt
  clear h4 hr hb hsz H3
  go_wp2
  first | go_end0 | refine bodyPost_ret (results_none rfl _ _ _) rfl ?_
  have h1 : w.heap.size ≤ w2.heap.size := by have := HB.out.size; simpa using this
  have h2 : w2.heap.size ≤ w4.heap.size := by have := HB2.out.size; simpa using this
  have hl := HL.out
  have hx1 : w.heap.size ≠ b := by omega
  have hx2 : w2.heap.size ≠ b := by omega
  have g1 : w.grownBy w2 (some b) := World.grownBy.trans (grown_set w b 0 _) (grownOf (some b) (HB.out.mono (by simp)))
  have g2 : w.grownBy w4 (some b) := World.grownBy.trans (World.grownBy.trans g1 (grown_set w2 b 1 _)) (grownOf (some b) (HB2.out.mono (by simp)))
  refine ⟨rfl, ⟨w.heap.size, w2.heap.size, Nat.le_refl _, h1, ⟨hB, H4.out, ?_, rfl, ?_, rfl⟩⟩, World.grownBy.trans g2 (grown_set w4 b 2 _)⟩
  · refine (HS.out.lower (by omega)).same ?_ (fun j hj => by cases hj)
    have e1 : w4.heap[w.heap.size]? = (w2.setCell ⟨b, 1, none⟩ (.pointer (some ⟨w.heap.size, 0, none⟩))).heap[w.heap.size]? := HB2.out.block _ (HS.out.lt)
    rw [Below.heap_setCell _ _ _ _ hx1, e1, Below.heap_setCell _ _ _ _ hx1]
  · refine (HR.out.lower (by omega)).same ?_ (fun j hj => by cases hj)
    rw [Below.heap_setCell _ _ _ _ hx2]
theorem dfresh_any {B : Nat} {b : Nat} {e0 wa ra : Int} {pas : Bool} {s0 r0 : Value} (ep : Int) (hB : B ≤ b) (w : World) (h : Lb 82 w b (.int .i64 e0) s0 r0 (.int .i64 wa) (.int .i64 ra) (.bool pas)) :
    Calls Tryd.prog 31 #[.pointer (some ⟨b, 0, none⟩), .int .i64 ep] w fun x w' => x = .returned (.tuple #[]) ∧ (∃ bs br, w.heap.size ≤ bs ∧ w.heap.size ≤ br ∧ Dx B w' b bs (.slice none 0 0) br (.slice none 0 0) [] [] ⟨clampE ep, wa, ra, pas, 0, [], 0, []⟩) ∧ w.grownBy w' (some b) := by
  by_cases h1 : ep < 0
  · exact dfresh_low ep hB w h1 h
  by_cases h2 : 1099511627776 < ep
  · exact dfresh_high ep hB w h2 h
  exact dfresh_mid ep hB w h1 h2 h
set_option maxHeartbeats 1000000 in
theorem dlnew_any (ep wa ra : Int) (pas : Bool) (w : World) :
    Calls Tryd.prog 11 #[.int .i64 ep, .int .i64 wa, .int .i64 ra, .bool pas] w fun x w' => x = .returned (.pointer (some ⟨w.heap.size, 0, none⟩)) ∧ (∃ bs br, Dx w.heap.size w' w.heap.size bs (.slice none 0 0) br (.slice none 0 0) [] [] ⟨clampE ep, wa, ra, pas, 0, [], 0, []⟩) ∧ Below w.heap.size w w' := by
  go_enter Tryd.func11, Tryd.ntmps11
  go_wp2_with fail
  refine (dfresh_any (B := w.heap.size) ep (Nat.le_refl _) _ (heap_alloc_new w _)).mono ?_
  rintro x w1 ⟨rfl, ⟨bs, br, _, _, hx⟩, hg⟩
  have HX := Lib.hid hx
  have HB := Lib.hid ((Joins.below_alloc1 w _).grown hg (by simp) (fun j hj => by cases hj; exact Nat.le_refl _))
  clear hx hg
  go_wp2
  go_ret
  exact ⟨rfl, ⟨bs, br, HX.out⟩, HB.out⟩
set_option maxHeartbeats 2000000 in
theorem dhear_old {B b bs br : Nat} {v v2 : Value} {pre pre2 : List ByteArray} {E : En} {f : Fra} (hx : f.2.2.2.size ≤ 1000) (hq : pre2.length + E.ps.length ≤ 10000) (hm1 : 1 ≤ f.1) (hm2 : f.1 ≤ 1099511627776) (hms : 0 ≤ f.2.1) (hms2 : f.2.1 ≤ 9223372036854775807) (hcase : f.1 < E.ep) (w : World) (h : Dx B w b bs v br v2 pre pre2 E) :
    Calls Tryd.prog 17 #[.pointer (some ⟨b, 0, none⟩), fv f] w fun e w' => e = .returned (.bool (E.anew f)) ∧ ∃ bs' v' br' v2' pre' pre2', Dx B w' b bs' v' br' v2' pre' pre2' (E.hear f) ∧ Lf w w' (dft b bs br) (dft b bs' br') := by
  have e1 : E.anew f = false := by unfold En.anew; rw [decide_eq_false (by omega)]; rfl
  have e2 : E.hear f = E := by unfold En.hear; rw [if_pos (.inl hcase)]
  rw [e1, e2]
  unfold fv
  obtain ⟨ep, wa, ra, pas, k, ds, q, ps⟩ := E
  obtain ⟨ee, s, a, d⟩ := f
  simp only at hx hq hcase hm1 hm2 hms hms2
  have c0 := (h.next (Joins.below_alloc1 w (.cells #[.int .i64 ee, .int .i64 s, .int .i64 a, .string d] 40))).blk.c0
  have c3 := (h.next (Joins.below_alloc1 w (.cells #[.int .i64 ee, .int .i64 s, .int .i64 a, .string d] 40))).blk.c5
  have H0 := Lib.hid h
  clear h
  go_enter Tryd.func17, Tryd.ntmps17
  have k1 : ¬ ep < ee := by omega
  have k4 : decide (ep < ee) = false := decide_eq_false (by omega)
  have k2 : (ee != ep) = true := bne_iff_ne.2 (by omega)
  have k3 : decide (ee = ep) = false := decide_eq_false (by omega)
  go_wp2_with fail
  go_quiet (fail)
  revert nq
  intro n1
  go_wp2_with fail
  go_quiet (fail)
  go_wp2
  go_ret
  exact ⟨rfl, _, _, _, _, _, _, (H0.out.next (Joins.below_alloc1 w _)).asit rfl, (Lf.ofBelow (Joins.below_alloc1 w _)).trans (.asit rfl rfl rfl rfl)⟩
set_option maxHeartbeats 2000000 in
theorem dhear_not {B b bs br : Nat} {v v2 : Value} {pre pre2 : List ByteArray} {E : En} {f : Fra} (hx : f.2.2.2.size ≤ 1000) (hq : pre2.length + E.ps.length ≤ 10000) (hm1 : 1 ≤ f.1) (hm2 : f.1 ≤ 1099511627776) (hms : 0 ≤ f.2.1) (hms2 : f.2.1 ≤ 9223372036854775807) (hcase : E.ep < f.1 ∧ E.pas = false) (w : World) (h : Dx B w b bs v br v2 pre pre2 E) :
    Calls Tryd.prog 17 #[.pointer (some ⟨b, 0, none⟩), fv f] w fun e w' => e = .returned (.bool (E.anew f)) ∧ ∃ bs' v' br' v2' pre' pre2', Dx B w' b bs' v' br' v2' pre' pre2' (E.hear f) ∧ Lf w w' (dft b bs br) (dft b bs' br') := by
  have e1 : E.anew f = false := by unfold En.anew; rw [hcase.2, Bool.and_false]
  have e2 : E.hear f = E := by unfold En.hear; rw [if_pos (.inr hcase)]
  rw [e1, e2]
  unfold fv
  obtain ⟨ep, wa, ra, pas, k, ds, q, ps⟩ := E
  obtain ⟨ee, s, a, d⟩ := f
  simp only at hx hq hcase hm1 hm2 hms hms2
  have c0 := (h.next (Joins.below_alloc1 w (.cells #[.int .i64 ee, .int .i64 s, .int .i64 a, .string d] 40))).blk.c0
  have c3 := (h.next (Joins.below_alloc1 w (.cells #[.int .i64 ee, .int .i64 s, .int .i64 a, .string d] 40))).blk.c5
  have H0 := Lib.hid h
  clear h
  go_enter Tryd.func17, Tryd.ntmps17
  obtain ⟨k0, rfl⟩ := hcase
  have k1 : ¬ ee < ep := by omega
  have k4 : decide (ep < ee) = true := decide_eq_true k0
  have k2 : (ee != ep) = true := bne_iff_ne.2 (by omega)
  have k3 : decide (ee = ep) = false := decide_eq_false (by omega)
  go_wp2_with fail
  go_quiet (fail)
  revert nq
  intro n1
  go_wp2_with fail
  go_quiet (fail)
  go_wp2
  go_ret
  exact ⟨rfl, _, _, _, _, _, _, (H0.out.next (Joins.below_alloc1 w _)).asit rfl, (Lf.ofBelow (Joins.below_alloc1 w _)).trans (.asit rfl rfl rfl rfl)⟩
set_option maxHeartbeats 4000000 in
theorem dhear_same {B b bs br : Nat} {v v2 : Value} {pre pre2 : List ByteArray} {E : En} {f : Fra} (hx : f.2.2.2.size ≤ 1000) (hq : pre2.length + E.ps.length ≤ 10000) (hm1 : 1 ≤ f.1) (hm2 : f.1 ≤ 1099511627776) (hms : 0 ≤ f.2.1) (hms2 : f.2.1 ≤ 9223372036854775807) (hcase : f.1 = E.ep) (w : World) (h : Dx B w b bs v br v2 pre pre2 E) :
    Calls Tryd.prog 17 #[.pointer (some ⟨b, 0, none⟩), fv f] w fun e w' => e = .returned (.bool (E.anew f)) ∧ ∃ bs' v' br' v2' pre' pre2', Dx B w' b bs' v' br' v2' pre' pre2' (E.hear f) ∧ Lf w w' (dft b bs br) (dft b bs' br') := by
  have e1 : E.anew f = false := by unfold En.anew; rw [decide_eq_false (by omega)]; rfl
  have e2 : E.hear f = E.take f := by unfold En.hear; rw [if_neg (by omega), if_neg (by omega)]
  rw [e1, e2]
  unfold fv
  obtain ⟨ep, wa, ra, pas, k, ds, q, ps⟩ := E
  obtain ⟨ee, s, a, d⟩ := f
  simp only at hx hq hcase hm1 hm2 hms hms2
  have c0 := (h.next (Joins.below_alloc1 w (.cells #[.int .i64 ee, .int .i64 s, .int .i64 a, .string d] 40))).blk.c0
  have c3 := (h.next (Joins.below_alloc1 w (.cells #[.int .i64 ee, .int .i64 s, .int .i64 a, .string d] 40))).blk.c5
  have H0 := Lib.hid h
  clear h
  go_enter Tryd.func17, Tryd.ntmps17
  obtain rfl : ee = ep := hcase
  have k1 : ¬ ee < ee := by omega
  have k4 : decide (ee < ee) = false := decide_eq_false (by omega)
  go_wp2_with fail
  go_quiet (fail)
  revert nq
  intro n1
  go_wp2_with fail
  go_quiet (fail)
  obtain ⟨W, hW⟩ : ∃ W, ((w.alloc (.cells #[.int .i64 ee, .int .i64 s, .int .i64 a, .string d] 40)).drewN n1).drewN nq = W := ⟨_, rfl⟩
  obtain ⟨bs1, hbs1⟩ : ∃ x, bs = x := ⟨_, rfl⟩
  obtain ⟨br1, hbr1⟩ : ∃ x, br = x := ⟨_, rfl⟩
  have HX : Hid (Dx B W b bs1 v br1 v2 pre pre2 ⟨ee, wa, ra, pas, k, ds, q, ps⟩) := Lib.hid (by subst hW hbs1 hbr1; exact (H0.out.next (Joins.below_alloc1 w _)).asit rfl)
  have HB : Hid (Fb W w.heap.size (ee, s, a, d)) := Lib.hid (by subst hW; exact heap_alloc_new w _)
  have HL : Hid (Lf w W (dft b bs br) (dft b bs1 br1)) := Lib.hid (by subst hW hbs1 hbr1; exact (Lf.ofBelow (Joins.below_alloc1 w _)).trans (.asit rfl rfl rfl rfl))
  rw [hW]
  generalize w.heap.size = H at *
  clear c0 c3 H0 hW hbs1 hbr1 k1 k4
  have z4 := HX.out.blk.c1
  have z2 : (W).cell? ⟨H, 2, none⟩ = some (.int .i64 a) := cell_at HB.out 2 _ rfl
  go_wp2_with fail
  refine wp_region_held_drew (S := fun w' => w'.cell? ⟨b, 1, none⟩ = some (.pointer (some ⟨bs1, 0, none⟩)) ∧ w'.cell? ⟨H, 2, none⟩ = some (.int .i64 a)) (by kernel_rfl) ?_ (fun hH => ?_)
  · exact ⟨z4, z2⟩
  refine wpAnyH_take (i := 0) (oi := { dst := some 30, op := Go.Op.move (Go.Operand.tmp 0), type := 32, pos := "ref.go:66", after := #[], guard := none }) (v := ?_) rfl (by kernel_rfl) (by kernel_rfl) (by kernel_rfl) (fun _ _ _ h => h) (Or.inl ⟨by rfl, ?_⟩) (by assumption) ?_
  rotate_left
  · intro w hSw
    try dsimp only at hSw
    obtain ⟨q1, q2⟩ := hSw
    go_simp
    all_goals with_reducible rfl
  try simp only [Act.put, List.setIfInBounds_toArray, List.set_cons_zero, List.set_cons_succ]
  refine wpAnyH_take (i := 1) (oi := { dst := some 31, op := Go.Op.nilCheck (Go.Operand.tmp 30), type := 0, pos := "ref.go:66", after := #[{ on := 0, ground := Go.Ground.data }], guard := none }) (v := ?_) rfl (by kernel_rfl) (by kernel_rfl) (by kernel_rfl) (fun _ _ _ h => h) (Or.inl ⟨by rfl, ?_⟩) (by assumption) ?_
  rotate_left
  · intro w hSw
    try dsimp only at hSw
    obtain ⟨q1, q2⟩ := hSw
    go_simp
    all_goals with_reducible rfl
  try simp only [Act.put, List.setIfInBounds_toArray, List.set_cons_zero, List.set_cons_succ]
  refine wpAnyH_take (i := 2) (oi := { dst := some 32, op := Go.Op.fieldAddr 82 (Go.Operand.tmp 31) 1, type := 0, pos := "ref.go:66", after := #[{ on := 1, ground := Go.Ground.data }], guard := none }) (v := ?_) rfl (by kernel_rfl) (by kernel_rfl) (by kernel_rfl) (fun _ _ _ h => h) (Or.inl ⟨by rfl, ?_⟩) (by assumption) ?_
  rotate_left
  · intro w hSw
    try dsimp only at hSw
    obtain ⟨q1, q2⟩ := hSw
    go_simp
    all_goals with_reducible rfl
  try simp only [Act.put, List.setIfInBounds_toArray, List.set_cons_zero, List.set_cons_succ]
  refine wpAnyH_take (i := 3) (oi := { dst := some 33, op := Go.Op.load 79 (Go.Operand.tmp 32), type := 79, pos := "ref.go:66", after := #[{ on := 2, ground := Go.Ground.data }], guard := none }) (v := ?_) rfl (by kernel_rfl) (by kernel_rfl) (by kernel_rfl) (fun _ _ _ h => h) (Or.inl ⟨by rfl, ?_⟩) (by assumption) ?_
  rotate_left
  · intro w hSw
    try dsimp only at hSw
    obtain ⟨q1, q2⟩ := hSw
    go_simp
    all_goals with_reducible rfl
  try simp only [Act.put, List.setIfInBounds_toArray, List.set_cons_zero, List.set_cons_succ]
  refine wpAnyH_take (i := 4) (oi := { dst := some 34, op := Go.Op.fieldAddr 40 (Go.Operand.tmp 3) 2, type := 0, pos := "ref.go:66", after := #[], guard := none }) (v := ?_) rfl (by kernel_rfl) (by kernel_rfl) (by kernel_rfl) (fun _ _ _ h => h) (Or.inl ⟨by rfl, ?_⟩) (by assumption) ?_
  rotate_left
  · intro w hSw
    try dsimp only at hSw
    obtain ⟨q1, q2⟩ := hSw
    go_simp
    all_goals with_reducible rfl
  try simp only [Act.put, List.setIfInBounds_toArray, List.set_cons_zero, List.set_cons_succ]
  refine wpAnyH_take (i := 5) (oi := { dst := some 35, op := Go.Op.load 3 (Go.Operand.tmp 34), type := 3, pos := "ref.go:66", after := #[{ on := 4, ground := Go.Ground.data }], guard := none }) (v := ?_) rfl (by kernel_rfl) (by kernel_rfl) (by kernel_rfl) (fun _ _ _ h => h) (Or.inl ⟨by rfl, ?_⟩) (by assumption) ?_
  rotate_left
  · intro w hSw
    try dsimp only at hSw
    obtain ⟨q1, q2⟩ := hSw
    go_simp
    all_goals with_reducible rfl
  try simp only [Act.put, List.setIfInBounds_toArray, List.set_cons_zero, List.set_cons_succ]
  refine wpAnyH_ready (rs := [6]) (by kernel_rfl) (by simp) ?_
  refine AllReadyH.cons (o := { dst := some 36, op := Go.Op.call { callee := Go.Callee.value (Go.Operand.func 40), args := #[Go.Operand.tmp 33, Go.Operand.tmp 35], argTypes := #[79, 3] }, type := 3, pos := "ref.go:66", after := #[{ on := 3, ground := Go.Ground.data }, { on := 5, ground := Go.Ground.data }], guard := none }) rfl (fun K hK => ?_) ?_
  · go_simp
    have hx6 := HX.out.asit (w' := (W).drew) rfl
    refine (dack_any a _ hx6.sn).mono ?_
    rintro e y1 ⟨rfl, hs, hg⟩
    have hz := hx6.onSa hs hg
    have hb1 : y1.heap[H]? = _ := (hz.2.block H (Array.getElem?_eq_some_iff.1 HB.out).1 (hx6.other (show (W).drew.heap[H]? = _ from HB.out) (by decide) (by decide) (by decide))).trans HB.out
    have HX1 := Lib.hid hz.1
    have HL1 := Lib.hid (HL.out.trans ((Lf.asit (w := W) (w' := (W).drew) rfl rfl rfl rfl).trans hz.2))
    have HB1 : Hid (Fb y1 H (ee, s, a, d)) := Lib.hid hb1
    have z5 := hz.1.blk.c2
    have z1 : y1.cell? ⟨H, 1, none⟩ = some (.int .i64 s) := cell_at hb1 1 _ rfl
    have z3 : y1.cell? ⟨H, 3, none⟩ = some (.string d) := cell_at hb1 3 _ rfl
    have q4 := hz.1.blk.c1
    have q2 : y1.cell? ⟨H, 2, none⟩ = some (.int .i64 a) := cell_at hb1 2 _ rfl
    clear hs hg hz hx6 HX HB HL hb1
    go_wp2_with fail
    refine hK.out _ _ ?_ (fun hH => ?_)
    · exact ⟨q4, q2⟩
    clear hK K
    try simp only [Act.put, List.setIfInBounds_toArray, List.set_cons_zero, List.set_cons_succ]
    refine wpAnyH_done (by kernel_rfl) ?_ _
    clear q4 q2 z4 z2
    by_cases hs0 : s = 0
    · subst hs0
      go_wp2
      go_ret
      exact ⟨rfl, _, _, _, _, _, _, by rw [take_zero]; exact HX1.out, HL1.out⟩
    have hs1 : decide (0 < s) = true := decide_eq_true (by omega)
    have hs2 : 0 < s := by omega
    go_wp2_with fail
    refine wp_region_held_drew (S := fun w' => w'.cell? ⟨b, 2, none⟩ = some (.pointer (some ⟨br1, 0, none⟩)) ∧ w'.cell? ⟨H, 1, none⟩ = some (.int .i64 s) ∧ w'.cell? ⟨H, 3, none⟩ = some (.string d)) (by kernel_rfl) ?_ (fun hH => ?_)
    · exact ⟨z5, z1, z3⟩
    refine wpAnyH_take (i := 0) (oi := { dst := some 40, op := Go.Op.move (Go.Operand.tmp 0), type := 32, pos := "ref.go:68", after := #[], guard := none }) (v := ?_) rfl (by kernel_rfl) (by kernel_rfl) (by kernel_rfl) (fun _ _ _ h => h) (Or.inl ⟨by rfl, ?_⟩) (by assumption) ?_
    rotate_left
    · intro w hSw
      try dsimp only at hSw
      obtain ⟨q1, q2, q3⟩ := hSw
      go_simp
      all_goals with_reducible rfl
    try simp only [Act.put, List.setIfInBounds_toArray, List.set_cons_zero, List.set_cons_succ]
    refine wpAnyH_take (i := 1) (oi := { dst := some 41, op := Go.Op.nilCheck (Go.Operand.tmp 40), type := 0, pos := "ref.go:68", after := #[{ on := 0, ground := Go.Ground.data }], guard := none }) (v := ?_) rfl (by kernel_rfl) (by kernel_rfl) (by kernel_rfl) (fun _ _ _ h => h) (Or.inl ⟨by rfl, ?_⟩) (by assumption) ?_
    rotate_left
    · intro w hSw
      try dsimp only at hSw
      obtain ⟨q1, q2, q3⟩ := hSw
      go_simp
      all_goals with_reducible rfl
    try simp only [Act.put, List.setIfInBounds_toArray, List.set_cons_zero, List.set_cons_succ]
    refine wpAnyH_take (i := 2) (oi := { dst := some 42, op := Go.Op.fieldAddr 82 (Go.Operand.tmp 41) 2, type := 0, pos := "ref.go:68", after := #[{ on := 1, ground := Go.Ground.data }], guard := none }) (v := ?_) rfl (by kernel_rfl) (by kernel_rfl) (by kernel_rfl) (fun _ _ _ h => h) (Or.inl ⟨by rfl, ?_⟩) (by assumption) ?_
    rotate_left
    · intro w hSw
      try dsimp only at hSw
      obtain ⟨q1, q2, q3⟩ := hSw
      go_simp
      all_goals with_reducible rfl
    try simp only [Act.put, List.setIfInBounds_toArray, List.set_cons_zero, List.set_cons_succ]
    refine wpAnyH_take (i := 3) (oi := { dst := some 43, op := Go.Op.load 80 (Go.Operand.tmp 42), type := 80, pos := "ref.go:68", after := #[{ on := 2, ground := Go.Ground.data }], guard := none }) (v := ?_) rfl (by kernel_rfl) (by kernel_rfl) (by kernel_rfl) (fun _ _ _ h => h) (Or.inl ⟨by rfl, ?_⟩) (by assumption) ?_
    rotate_left
    · intro w hSw
      try dsimp only at hSw
      obtain ⟨q1, q2, q3⟩ := hSw
      go_simp
      all_goals with_reducible rfl
    try simp only [Act.put, List.setIfInBounds_toArray, List.set_cons_zero, List.set_cons_succ]
    refine wpAnyH_take (i := 4) (oi := { dst := some 44, op := Go.Op.fieldAddr 40 (Go.Operand.tmp 3) 1, type := 0, pos := "ref.go:68", after := #[], guard := none }) (v := ?_) rfl (by kernel_rfl) (by kernel_rfl) (by kernel_rfl) (fun _ _ _ h => h) (Or.inl ⟨by rfl, ?_⟩) (by assumption) ?_
    rotate_left
    · intro w hSw
      try dsimp only at hSw
      obtain ⟨q1, q2, q3⟩ := hSw
      go_simp
      all_goals with_reducible rfl
    try simp only [Act.put, List.setIfInBounds_toArray, List.set_cons_zero, List.set_cons_succ]
    refine wpAnyH_take (i := 5) (oi := { dst := some 45, op := Go.Op.load 3 (Go.Operand.tmp 44), type := 3, pos := "ref.go:68", after := #[{ on := 4, ground := Go.Ground.data }], guard := none }) (v := ?_) rfl (by kernel_rfl) (by kernel_rfl) (by kernel_rfl) (fun _ _ _ h => h) (Or.inl ⟨by rfl, ?_⟩) (by assumption) ?_
    rotate_left
    · intro w hSw
      try dsimp only at hSw
      obtain ⟨q1, q2, q3⟩ := hSw
      go_simp
      all_goals with_reducible rfl
    try simp only [Act.put, List.setIfInBounds_toArray, List.set_cons_zero, List.set_cons_succ]
    refine wpAnyH_take (i := 6) (oi := { dst := some 46, op := Go.Op.fieldAddr 40 (Go.Operand.tmp 3) 3, type := 0, pos := "ref.go:68", after := #[], guard := none }) (v := ?_) rfl (by kernel_rfl) (by kernel_rfl) (by kernel_rfl) (fun _ _ _ h => h) (Or.inl ⟨by rfl, ?_⟩) (by assumption) ?_
    rotate_left
    · intro w hSw
      try dsimp only at hSw
      obtain ⟨q1, q2, q3⟩ := hSw
      go_simp
      all_goals with_reducible rfl
    try simp only [Act.put, List.setIfInBounds_toArray, List.set_cons_zero, List.set_cons_succ]
    refine wpAnyH_take (i := 7) (oi := { dst := some 47, op := Go.Op.load 9 (Go.Operand.tmp 46), type := 9, pos := "ref.go:68", after := #[{ on := 6, ground := Go.Ground.data }], guard := none }) (v := ?_) rfl (by kernel_rfl) (by kernel_rfl) (by kernel_rfl) (fun _ _ _ h => h) (Or.inl ⟨by rfl, ?_⟩) (by assumption) ?_
    rotate_left
    · intro w hSw
      try dsimp only at hSw
      obtain ⟨q1, q2, q3⟩ := hSw
      go_simp
      all_goals with_reducible rfl
    try simp only [Act.put, List.setIfInBounds_toArray, List.set_cons_zero, List.set_cons_succ]
    refine wpAnyH_ready (rs := [8]) (by kernel_rfl) (by simp) ?_
    refine AllReadyH.cons (o := { dst := some 48, op := Go.Op.call { callee := Go.Callee.value (Go.Operand.func 41), args := #[Go.Operand.tmp 43, Go.Operand.tmp 45, Go.Operand.tmp 47], argTypes := #[80, 3, 9] }, type := 4, pos := "ref.go:68", after := #[{ on := 3, ground := Go.Ground.data }, { on := 5, ground := Go.Ground.data }, { on := 7, ground := Go.Ground.data }], guard := none }) rfl (fun K hK => ?_) ?_
    · go_simp
      have hx8 := HX1.out.asit (w' := y1.drew) rfl
      refine (Rcv.dhear_any s hms2 d hx (hq) _ hx8.dr).mono ?_
      rintro e y2 ⟨rfl, ⟨v2, hr⟩, hg⟩
      have hqq := hx8.qq
      simp only at hqq
      rw [hqq] at hr
      have hz := hx8.onR hr hg
      have hb2 : y2.heap[H]? = _ := (hz.2.block H (Array.getElem?_eq_some_iff.1 HB1.out).1 (hx8.other (show y1.drew.heap[H]? = _ from HB1.out) (by decide) (by decide) (by decide))).trans HB1.out
      have HX2 := Lib.hid hz.1
      have HL2 := Lib.hid (HL1.out.trans ((Lf.asit (w := y1) (w' := y1.drew) rfl rfl rfl rfl).trans hz.2))
      have q5 := hz.1.blk.c2
      have q1 : y2.cell? ⟨H, 1, none⟩ = some (.int .i64 s) := cell_at hb2 1 _ rfl
      have q3 : y2.cell? ⟨H, 3, none⟩ = some (.string d) := cell_at hb2 3 _ rfl
      clear hr hg hz hx8 hb2 HX1 HL1 HB1
      go_wp2_with fail
      refine hK.out _ _ ?_ (fun hH => ?_)
      · exact ⟨q5, q1, q3⟩
      clear hK K
      try simp only [Act.put, List.setIfInBounds_toArray, List.set_cons_zero, List.set_cons_succ]
      refine wpAnyH_done (by kernel_rfl) ?_ _
      clear q5 q1 q3 z5 z1 z3
      go_wp2
      go_ret
      exact ⟨rfl, _, _, _, _, _, _, HX2.out, HL2.out⟩
    exact AllReadyH.nil
  exact AllReadyH.nil
set_option maxHeartbeats 4000000 in
theorem dhear_new {B b bs br : Nat} {v v2 : Value} {pre pre2 : List ByteArray} {E : En} {f : Fra} (hx : f.2.2.2.size ≤ 1000) (hq : pre2.length + E.ps.length ≤ 10000) (hm1 : 1 ≤ f.1) (hm2 : f.1 ≤ 1099511627776) (hms : 0 ≤ f.2.1) (hms2 : f.2.1 ≤ 9223372036854775807) (hcase : E.ep < f.1 ∧ E.pas = true) (w : World) (h : Dx B w b bs v br v2 pre pre2 E) :
    Calls Tryd.prog 17 #[.pointer (some ⟨b, 0, none⟩), fv f] w fun e w' => e = .returned (.bool (E.anew f)) ∧ ∃ bs' v' br' v2' pre' pre2', Dx B w' b bs' v' br' v2' pre' pre2' (E.hear f) ∧ Lf w w' (dft b bs br) (dft b bs' br') := by
  have e1 : E.anew f = true := by unfold En.anew; rw [decide_eq_true hcase.1, hcase.2]; rfl
  have e2 : E.hear f = (E.fresh f.1).take f := by unfold En.hear; rw [if_neg (by rw [hcase.2]; simp; omega), if_pos hcase.1]
  have e3 : clampE f.1 = f.1 := by unfold clampE; omega
  rw [e1, e2]
  unfold fv En.fresh
  rw [e3]
  obtain ⟨ep, wa, ra, pas, k, ds, q, ps⟩ := E
  obtain ⟨ee, s, a, d⟩ := f
  simp only at hx hq hcase hm1 hm2 hms hms2
  have c0 := (h.next (Joins.below_alloc1 w (.cells #[.int .i64 ee, .int .i64 s, .int .i64 a, .string d] 40))).blk.c0
  have c3 := (h.next (Joins.below_alloc1 w (.cells #[.int .i64 ee, .int .i64 s, .int .i64 a, .string d] 40))).blk.c5
  have H0 := Lib.hid h
  clear h
  go_enter Tryd.func17, Tryd.ntmps17
  obtain ⟨k0, rfl⟩ := hcase
  have k4 : decide (ep < ee) = true := decide_eq_true k0
  simp only at e3
  go_wp2_with fail
  go_quiet (fail)
  obtain ⟨W, hW⟩ : ∃ W, (w.alloc (.cells #[.int .i64 ee, .int .i64 s, .int .i64 a, .string d] 40)).drewN nq = W := ⟨_, rfl⟩
  have hX : Dx B W b bs v br v2 pre pre2 ⟨ep, wa, ra, true, k, ds, q, ps⟩ := by subst hW; exact (H0.out.next (Joins.below_alloc1 w _)).asit rfl
  have hB : W.heap[w.heap.size]? = some (.cells #[.int .i64 ee, .int .i64 s, .int .i64 a, .string d] 40 (0, 0)) := by subst hW; exact heap_alloc_new w _
  have hL : Lf w W (dft b bs br) (dft b bs br) := by subst hW; exact (Lf.ofBelow (Joins.below_alloc1 w _)).trans (.asit rfl rfl rfl rfl)
  rw [hW]
  have HC := Lib.hid (dfresh_any (B := B) ee hX.lo W hX.blk)
  have HP : Hid (∀ w1, (∃ bs1 br1, W.heap.size ≤ bs1 ∧ W.heap.size ≤ br1 ∧ Dx B w1 b bs1 (.slice none 0 0) br1 (.slice none 0 0) [] [] ⟨clampE ee, wa, ra, true, 0, [], 0, []⟩) ∧ W.grownBy w1 (some b) → ∃ bs1 br1, Hid (Dx B w1 b bs1 (.slice none 0 0) br1 (.slice none 0 0) [] [] ⟨ee, wa, ra, true, 0, [], 0, []⟩) ∧ Hid (Fb w1 w.heap.size (ee, s, a, d)) ∧ Hid (Lf w w1 (dft b bs br) (dft b bs1 br1)) ∧ w1.cell? ⟨w.heap.size, 0, none⟩ = some (.int .i64 ee) ∧ w1.cell? ⟨b, 0, none⟩ = some (.int .i64 ee)) := Lib.hid (by
    rintro w1 ⟨⟨bs1, br1, hs1, hr1, hx1⟩, hg⟩
    rw [e3] at hx1
    have hne : w.heap.size ≠ b := two_types hB hX.blk (by decide)
    have hb1 := (hg.block _ (Array.getElem?_eq_some_iff.1 hB).1 (fun e => hne (by simpa using e))).trans hB
    refine ⟨bs1, br1, Lib.hid hx1, Lib.hid hb1, Lib.hid (hL.trans ⟨hg.os, hg.tape, hg.output, hg.size, fun j hj hp => hg.block j hj (fun e => hp (.inl (by simpa using e))), fun j hj => ?_⟩), cell_at hb1 0 _ rfl, hx1.blk.c0⟩
    rcases hj with rfl | rfl | rfl
    · exact .inl (.inl rfl)
    · exact .inr hs1
    · exact .inr hr1)
  have z0 : W.cell? ⟨w.heap.size, 0, none⟩ = some (.int .i64 ee) := cell_at hB 0 _ rfl
  generalize w.heap.size = H at *
  clear c0 c3 H0 hW hX hB hL e3 k0 k4
  go_wp2_with fail
  refine HC.out.mono ?_
  rintro e w1 ⟨rfl, hnew⟩
  obtain ⟨bs1, br1, HX, HB, HL, p0, p1⟩ := HP.out w1 hnew
  clear hnew HP HC z0
  go_wp2_with fail
  go_quiet (fail)
  obtain ⟨W2, hW2⟩ : ∃ W2, w1.drewN nq = W2 := ⟨_, rfl⟩
  have HX : Hid (Dx B W2 b bs1 (.slice none 0 0) br1 (.slice none 0 0) [] [] ⟨ee, wa, ra, true, 0, [], 0, []⟩) := Lib.hid (by subst hW2; exact HX.out.asit rfl)
  have HB : Hid (Fb W2 H (ee, s, a, d)) := Lib.hid (by subst hW2; exact HB.out)
  have HL : Hid (Lf w W2 (dft b bs br) (dft b bs1 br1)) := Lib.hid (by subst hW2; exact HL.out.trans (.asit rfl rfl rfl rfl))
  rw [hW2]
  clear hW2 p0 p1
  have z4 := HX.out.blk.c1
  have z2 : (W2).cell? ⟨H, 2, none⟩ = some (.int .i64 a) := cell_at HB.out 2 _ rfl
  go_wp2_with fail
  refine wp_region_held_drew (S := fun w' => w'.cell? ⟨b, 1, none⟩ = some (.pointer (some ⟨bs1, 0, none⟩)) ∧ w'.cell? ⟨H, 2, none⟩ = some (.int .i64 a)) (by kernel_rfl) ?_ (fun hH => ?_)
  · exact ⟨z4, z2⟩
  refine wpAnyH_take (i := 0) (oi := { dst := some 30, op := Go.Op.move (Go.Operand.tmp 0), type := 32, pos := "ref.go:66", after := #[], guard := none }) (v := ?_) rfl (by kernel_rfl) (by kernel_rfl) (by kernel_rfl) (fun _ _ _ h => h) (Or.inl ⟨by rfl, ?_⟩) (by assumption) ?_
  rotate_left
  · intro w hSw
    try dsimp only at hSw
    obtain ⟨q1, q2⟩ := hSw
    go_simp
    all_goals with_reducible rfl
  try simp only [Act.put, List.setIfInBounds_toArray, List.set_cons_zero, List.set_cons_succ]
  refine wpAnyH_take (i := 1) (oi := { dst := some 31, op := Go.Op.nilCheck (Go.Operand.tmp 30), type := 0, pos := "ref.go:66", after := #[{ on := 0, ground := Go.Ground.data }], guard := none }) (v := ?_) rfl (by kernel_rfl) (by kernel_rfl) (by kernel_rfl) (fun _ _ _ h => h) (Or.inl ⟨by rfl, ?_⟩) (by assumption) ?_
  rotate_left
  · intro w hSw
    try dsimp only at hSw
    obtain ⟨q1, q2⟩ := hSw
    go_simp
    all_goals with_reducible rfl
  try simp only [Act.put, List.setIfInBounds_toArray, List.set_cons_zero, List.set_cons_succ]
  refine wpAnyH_take (i := 2) (oi := { dst := some 32, op := Go.Op.fieldAddr 82 (Go.Operand.tmp 31) 1, type := 0, pos := "ref.go:66", after := #[{ on := 1, ground := Go.Ground.data }], guard := none }) (v := ?_) rfl (by kernel_rfl) (by kernel_rfl) (by kernel_rfl) (fun _ _ _ h => h) (Or.inl ⟨by rfl, ?_⟩) (by assumption) ?_
  rotate_left
  · intro w hSw
    try dsimp only at hSw
    obtain ⟨q1, q2⟩ := hSw
    go_simp
    all_goals with_reducible rfl
  try simp only [Act.put, List.setIfInBounds_toArray, List.set_cons_zero, List.set_cons_succ]
  refine wpAnyH_take (i := 3) (oi := { dst := some 33, op := Go.Op.load 79 (Go.Operand.tmp 32), type := 79, pos := "ref.go:66", after := #[{ on := 2, ground := Go.Ground.data }], guard := none }) (v := ?_) rfl (by kernel_rfl) (by kernel_rfl) (by kernel_rfl) (fun _ _ _ h => h) (Or.inl ⟨by rfl, ?_⟩) (by assumption) ?_
  rotate_left
  · intro w hSw
    try dsimp only at hSw
    obtain ⟨q1, q2⟩ := hSw
    go_simp
    all_goals with_reducible rfl
  try simp only [Act.put, List.setIfInBounds_toArray, List.set_cons_zero, List.set_cons_succ]
  refine wpAnyH_take (i := 4) (oi := { dst := some 34, op := Go.Op.fieldAddr 40 (Go.Operand.tmp 3) 2, type := 0, pos := "ref.go:66", after := #[], guard := none }) (v := ?_) rfl (by kernel_rfl) (by kernel_rfl) (by kernel_rfl) (fun _ _ _ h => h) (Or.inl ⟨by rfl, ?_⟩) (by assumption) ?_
  rotate_left
  · intro w hSw
    try dsimp only at hSw
    obtain ⟨q1, q2⟩ := hSw
    go_simp
    all_goals with_reducible rfl
  try simp only [Act.put, List.setIfInBounds_toArray, List.set_cons_zero, List.set_cons_succ]
  refine wpAnyH_take (i := 5) (oi := { dst := some 35, op := Go.Op.load 3 (Go.Operand.tmp 34), type := 3, pos := "ref.go:66", after := #[{ on := 4, ground := Go.Ground.data }], guard := none }) (v := ?_) rfl (by kernel_rfl) (by kernel_rfl) (by kernel_rfl) (fun _ _ _ h => h) (Or.inl ⟨by rfl, ?_⟩) (by assumption) ?_
  rotate_left
  · intro w hSw
    try dsimp only at hSw
    obtain ⟨q1, q2⟩ := hSw
    go_simp
    all_goals with_reducible rfl
  try simp only [Act.put, List.setIfInBounds_toArray, List.set_cons_zero, List.set_cons_succ]
  refine wpAnyH_ready (rs := [6]) (by kernel_rfl) (by simp) ?_
  refine AllReadyH.cons (o := { dst := some 36, op := Go.Op.call { callee := Go.Callee.value (Go.Operand.func 40), args := #[Go.Operand.tmp 33, Go.Operand.tmp 35], argTypes := #[79, 3] }, type := 3, pos := "ref.go:66", after := #[{ on := 3, ground := Go.Ground.data }, { on := 5, ground := Go.Ground.data }], guard := none }) rfl (fun K hK => ?_) ?_
  · go_simp
    have hx6 := HX.out.asit (w' := (W2).drew) rfl
    refine (dack_any a _ hx6.sn).mono ?_
    rintro e y1 ⟨rfl, hs, hg⟩
    have hz := hx6.onSa hs hg
    have hb1 : y1.heap[H]? = _ := (hz.2.block H (Array.getElem?_eq_some_iff.1 HB.out).1 (hx6.other (show (W2).drew.heap[H]? = _ from HB.out) (by decide) (by decide) (by decide))).trans HB.out
    have HX1 := Lib.hid hz.1
    have HL1 := Lib.hid (HL.out.trans ((Lf.asit (w := W2) (w' := (W2).drew) rfl rfl rfl rfl).trans hz.2))
    have HB1 : Hid (Fb y1 H (ee, s, a, d)) := Lib.hid hb1
    have z5 := hz.1.blk.c2
    have z1 : y1.cell? ⟨H, 1, none⟩ = some (.int .i64 s) := cell_at hb1 1 _ rfl
    have z3 : y1.cell? ⟨H, 3, none⟩ = some (.string d) := cell_at hb1 3 _ rfl
    have q4 := hz.1.blk.c1
    have q2 : y1.cell? ⟨H, 2, none⟩ = some (.int .i64 a) := cell_at hb1 2 _ rfl
    clear hs hg hz hx6 HX HB HL hb1
    go_wp2_with fail
    refine hK.out _ _ ?_ (fun hH => ?_)
    · exact ⟨q4, q2⟩
    clear hK K
    try simp only [Act.put, List.setIfInBounds_toArray, List.set_cons_zero, List.set_cons_succ]
    refine wpAnyH_done (by kernel_rfl) ?_ _
    clear q4 q2 z4 z2
    by_cases hs0 : s = 0
    · subst hs0
      go_wp2
      go_ret
      exact ⟨rfl, _, _, _, _, _, _, by rw [take_zero]; exact HX1.out, HL1.out⟩
    have hs1 : decide (0 < s) = true := decide_eq_true (by omega)
    have hs2 : 0 < s := by omega
    go_wp2_with fail
    refine wp_region_held_drew (S := fun w' => w'.cell? ⟨b, 2, none⟩ = some (.pointer (some ⟨br1, 0, none⟩)) ∧ w'.cell? ⟨H, 1, none⟩ = some (.int .i64 s) ∧ w'.cell? ⟨H, 3, none⟩ = some (.string d)) (by kernel_rfl) ?_ (fun hH => ?_)
    · exact ⟨z5, z1, z3⟩
    refine wpAnyH_take (i := 0) (oi := { dst := some 40, op := Go.Op.move (Go.Operand.tmp 0), type := 32, pos := "ref.go:68", after := #[], guard := none }) (v := ?_) rfl (by kernel_rfl) (by kernel_rfl) (by kernel_rfl) (fun _ _ _ h => h) (Or.inl ⟨by rfl, ?_⟩) (by assumption) ?_
    rotate_left
    · intro w hSw
      try dsimp only at hSw
      obtain ⟨q1, q2, q3⟩ := hSw
      go_simp
      all_goals with_reducible rfl
    try simp only [Act.put, List.setIfInBounds_toArray, List.set_cons_zero, List.set_cons_succ]
    refine wpAnyH_take (i := 1) (oi := { dst := some 41, op := Go.Op.nilCheck (Go.Operand.tmp 40), type := 0, pos := "ref.go:68", after := #[{ on := 0, ground := Go.Ground.data }], guard := none }) (v := ?_) rfl (by kernel_rfl) (by kernel_rfl) (by kernel_rfl) (fun _ _ _ h => h) (Or.inl ⟨by rfl, ?_⟩) (by assumption) ?_
    rotate_left
    · intro w hSw
      try dsimp only at hSw
      obtain ⟨q1, q2, q3⟩ := hSw
      go_simp
      all_goals with_reducible rfl
    try simp only [Act.put, List.setIfInBounds_toArray, List.set_cons_zero, List.set_cons_succ]
    refine wpAnyH_take (i := 2) (oi := { dst := some 42, op := Go.Op.fieldAddr 82 (Go.Operand.tmp 41) 2, type := 0, pos := "ref.go:68", after := #[{ on := 1, ground := Go.Ground.data }], guard := none }) (v := ?_) rfl (by kernel_rfl) (by kernel_rfl) (by kernel_rfl) (fun _ _ _ h => h) (Or.inl ⟨by rfl, ?_⟩) (by assumption) ?_
    rotate_left
    · intro w hSw
      try dsimp only at hSw
      obtain ⟨q1, q2, q3⟩ := hSw
      go_simp
      all_goals with_reducible rfl
    try simp only [Act.put, List.setIfInBounds_toArray, List.set_cons_zero, List.set_cons_succ]
    refine wpAnyH_take (i := 3) (oi := { dst := some 43, op := Go.Op.load 80 (Go.Operand.tmp 42), type := 80, pos := "ref.go:68", after := #[{ on := 2, ground := Go.Ground.data }], guard := none }) (v := ?_) rfl (by kernel_rfl) (by kernel_rfl) (by kernel_rfl) (fun _ _ _ h => h) (Or.inl ⟨by rfl, ?_⟩) (by assumption) ?_
    rotate_left
    · intro w hSw
      try dsimp only at hSw
      obtain ⟨q1, q2, q3⟩ := hSw
      go_simp
      all_goals with_reducible rfl
    try simp only [Act.put, List.setIfInBounds_toArray, List.set_cons_zero, List.set_cons_succ]
    refine wpAnyH_take (i := 4) (oi := { dst := some 44, op := Go.Op.fieldAddr 40 (Go.Operand.tmp 3) 1, type := 0, pos := "ref.go:68", after := #[], guard := none }) (v := ?_) rfl (by kernel_rfl) (by kernel_rfl) (by kernel_rfl) (fun _ _ _ h => h) (Or.inl ⟨by rfl, ?_⟩) (by assumption) ?_
    rotate_left
    · intro w hSw
      try dsimp only at hSw
      obtain ⟨q1, q2, q3⟩ := hSw
      go_simp
      all_goals with_reducible rfl
    try simp only [Act.put, List.setIfInBounds_toArray, List.set_cons_zero, List.set_cons_succ]
    refine wpAnyH_take (i := 5) (oi := { dst := some 45, op := Go.Op.load 3 (Go.Operand.tmp 44), type := 3, pos := "ref.go:68", after := #[{ on := 4, ground := Go.Ground.data }], guard := none }) (v := ?_) rfl (by kernel_rfl) (by kernel_rfl) (by kernel_rfl) (fun _ _ _ h => h) (Or.inl ⟨by rfl, ?_⟩) (by assumption) ?_
    rotate_left
    · intro w hSw
      try dsimp only at hSw
      obtain ⟨q1, q2, q3⟩ := hSw
      go_simp
      all_goals with_reducible rfl
    try simp only [Act.put, List.setIfInBounds_toArray, List.set_cons_zero, List.set_cons_succ]
    refine wpAnyH_take (i := 6) (oi := { dst := some 46, op := Go.Op.fieldAddr 40 (Go.Operand.tmp 3) 3, type := 0, pos := "ref.go:68", after := #[], guard := none }) (v := ?_) rfl (by kernel_rfl) (by kernel_rfl) (by kernel_rfl) (fun _ _ _ h => h) (Or.inl ⟨by rfl, ?_⟩) (by assumption) ?_
    rotate_left
    · intro w hSw
      try dsimp only at hSw
      obtain ⟨q1, q2, q3⟩ := hSw
      go_simp
      all_goals with_reducible rfl
    try simp only [Act.put, List.setIfInBounds_toArray, List.set_cons_zero, List.set_cons_succ]
    refine wpAnyH_take (i := 7) (oi := { dst := some 47, op := Go.Op.load 9 (Go.Operand.tmp 46), type := 9, pos := "ref.go:68", after := #[{ on := 6, ground := Go.Ground.data }], guard := none }) (v := ?_) rfl (by kernel_rfl) (by kernel_rfl) (by kernel_rfl) (fun _ _ _ h => h) (Or.inl ⟨by rfl, ?_⟩) (by assumption) ?_
    rotate_left
    · intro w hSw
      try dsimp only at hSw
      obtain ⟨q1, q2, q3⟩ := hSw
      go_simp
      all_goals with_reducible rfl
    try simp only [Act.put, List.setIfInBounds_toArray, List.set_cons_zero, List.set_cons_succ]
    refine wpAnyH_ready (rs := [8]) (by kernel_rfl) (by simp) ?_
    refine AllReadyH.cons (o := { dst := some 48, op := Go.Op.call { callee := Go.Callee.value (Go.Operand.func 41), args := #[Go.Operand.tmp 43, Go.Operand.tmp 45, Go.Operand.tmp 47], argTypes := #[80, 3, 9] }, type := 4, pos := "ref.go:68", after := #[{ on := 3, ground := Go.Ground.data }, { on := 5, ground := Go.Ground.data }, { on := 7, ground := Go.Ground.data }], guard := none }) rfl (fun K hK => ?_) ?_
    · go_simp
      have hx8 := HX1.out.asit (w' := y1.drew) rfl
      refine (Rcv.dhear_any s hms2 d hx (show ([] : List ByteArray).length + ([] : List ByteArray).length ≤ 10000 by decide) _ hx8.dr).mono ?_
      rintro e y2 ⟨rfl, ⟨v2, hr⟩, hg⟩
      have hqq := hx8.qq
      simp only at hqq
      rw [hqq] at hr
      have hz := hx8.onR hr hg
      have hb2 : y2.heap[H]? = _ := (hz.2.block H (Array.getElem?_eq_some_iff.1 HB1.out).1 (hx8.other (show y1.drew.heap[H]? = _ from HB1.out) (by decide) (by decide) (by decide))).trans HB1.out
      have HX2 := Lib.hid hz.1
      have HL2 := Lib.hid (HL1.out.trans ((Lf.asit (w := y1) (w' := y1.drew) rfl rfl rfl rfl).trans hz.2))
      have q5 := hz.1.blk.c2
      have q1 : y2.cell? ⟨H, 1, none⟩ = some (.int .i64 s) := cell_at hb2 1 _ rfl
      have q3 : y2.cell? ⟨H, 3, none⟩ = some (.string d) := cell_at hb2 3 _ rfl
      clear hr hg hz hx8 hb2 HX1 HL1 HB1
      go_wp2_with fail
      refine hK.out _ _ ?_ (fun hH => ?_)
      · exact ⟨q5, q1, q3⟩
      clear hK K
      try simp only [Act.put, List.setIfInBounds_toArray, List.set_cons_zero, List.set_cons_succ]
      refine wpAnyH_done (by kernel_rfl) ?_ _
      clear q5 q1 q3 z5 z1 z3
      go_wp2
      go_ret
      exact ⟨rfl, _, _, _, _, _, _, HX2.out, HL2.out⟩
    exact AllReadyH.nil
  exact AllReadyH.nil
theorem dlhear_any {B b bs br : Nat} {v v2 : Value} {pre pre2 : List ByteArray} {E : En} {f : Fra} (hx : f.2.2.2.size ≤ 1000) (hq : pre2.length + E.ps.length ≤ 10000) (hm1 : 1 ≤ f.1) (hm2 : f.1 ≤ 1099511627776) (hms : 0 ≤ f.2.1) (hms2 : f.2.1 ≤ 9223372036854775807) (w : World) (h : Dx B w b bs v br v2 pre pre2 E) :
    Calls Tryd.prog 17 #[.pointer (some ⟨b, 0, none⟩), fv f] w fun e w' => e = .returned (.bool (E.anew f)) ∧ ∃ bs' v' br' v2' pre' pre2', Dx B w' b bs' v' br' v2' pre' pre2' (E.hear f) ∧ Lf w w' (dft b bs br) (dft b bs' br') := by
  by_cases h1 : f.1 < E.ep
  · exact dhear_old hx hq hm1 hm2 hms hms2 h1 w h
  by_cases h2 : f.1 = E.ep
  · exact dhear_same hx hq hm1 hm2 hms hms2 h2 w h
  cases hp : E.pas with
  | false => exact dhear_not hx hq hm1 hm2 hms hms2 ⟨by omega, hp⟩ w h
  | true => exact dhear_new hx hq hm1 hm2 hms hms2 ⟨by omega, hp⟩ w h
end Go.Proofs.YtjmkdgjdemndaaaDoor.K
