/- The document's receiver: New, Hear, Pop, Look; beside a sender. -/
import Derived.Test.YtclobdejlihblaaJE4
namespace Go.Proofs.Ytclobdejlihblaa.Rcv
open Go Go.RowKit
set_option maxRecDepth 20000
/-- In block b lies the document's receiver: all that was taken in the slice v, that of pre popped. -/
structure Dr (B : Nat) (w : World) (b : Nat) (v : Value) (room : Int) (pre ps : List ByteArray) : Prop where
  lo : B ≤ b
  blk : w.heap[b]? = some (.cells #[.int .i64 room, v, .int .i64 (pre.length : Int)] 78 (0, 0))
  row : RowS B w v (pre ++ ps)
  ok : Okr room ps
section
variable {B b : Nat} {v : Value} {room : Int} {pre ps : List ByteArray} {w w' : World}
theorem Dr.c0 (h : Dr B w b v room pre ps) : w.cell? ⟨b, 0, none⟩ = some (.int .i64 room) := cell_at h.blk 0 _ rfl
theorem Dr.c1 (h : Dr B w b v room pre ps) : w.cell? ⟨b, 1, none⟩ = some v := cell_at h.blk 1 _ rfl
theorem Dr.c2 (h : Dr B w b v room pre ps) : w.cell? ⟨b, 2, none⟩ = some (.int .i64 (pre.length : Int)) := cell_at h.blk 2 _ rfl
theorem Dr.f0 (h : Dr B w b v room pre ps) (i : Nat) : w.frozen? ⟨b, i, none⟩ = false := by have := h.blk; simp [World.frozen?, this]
theorem Dr.lt (h : Dr B w b v room pre ps) : b < w.heap.size := (Array.getElem?_eq_some_iff.1 h.blk).1
theorem Dr.same (h : Dr B w b v room pre ps) (hb : w'.heap[b]? = w.heap[b]?) (hv : ∀ j, v.ownBlock = some j → w'.heap[j]? = w.heap[j]?) : Dr B w' b v room pre ps := ⟨h.lo, hb.trans h.blk, h.row.same hv, h.ok⟩
theorem Dr.next (h : Dr B w b v room pre ps) (hb : Below w.heap.size w w') : Dr B w' b v room pre ps := h.same (hb.block b h.lt) (fun j hj => hb.block j (h.row.lt j hj).2)
theorem Dr.asit (h : Dr B w b v room pre ps) (e : w'.heap = w.heap) : Dr B w' b v room pre ps := h.same (by rw [e]) (fun j _ => by rw [e])
theorem Dr.rowb (h : Dr B w b v room pre ps) : v.ownBlock ≠ some b := fun e => by
  obtain ⟨cur, hc⟩ := h.row.typ b e
  exact two_types h.blk hc (by decide) rfl
theorem Dr.lower {B' : Nat} (h : Dr B w b v room pre ps) (hB : B' ≤ B) : Dr B' w b v room pre ps := ⟨Nat.le_trans hB h.lo, h.blk, h.row.lower hB, h.ok⟩
end
set_option maxHeartbeats 400000 in
theorem dnew_any (a : Int) (w : World) : Calls Try.prog 44 #[.int .i64 a] w fun x w' => x = .returned (.pointer (some ⟨w.heap.size, 0, none⟩)) ∧ Dr w.heap.size w' w.heap.size (.slice none 0 0) (roomOf a) [] [] ∧ Below w.heap.size w w' := by
  by_cases h1 : a < 1
  · have e : roomOf a = 1 := by unfold roomOf; omega
    have HO := Lib.hid (e ▸ okr_new a)
    rw [e]
    go_enter Try.func44, Try.ntmps44
    go_wp2
    go_ret
    exact ⟨rfl, ⟨Nat.le_refl _, heap_alloc_new _ _, rowS_nil _ _, HO.out⟩, Joins.below_alloc1 _ _⟩
  by_cases h2 : 16 < a
  · have e : roomOf a = 16 := by unfold roomOf; omega
    have HO := Lib.hid (e ▸ okr_new a)
    rw [e]
    go_enter Try.func44, Try.ntmps44
    go_wp2
    go_ret
    exact ⟨rfl, ⟨Nat.le_refl _, heap_alloc_new _ _, rowS_nil _ _, HO.out⟩, Joins.below_alloc1 _ _⟩
  have e : roomOf a = a := by unfold roomOf; omega
  have HO := Lib.hid (e ▸ okr_new a)
  rw [e]
  clear e
  go_enter Try.func44, Try.ntmps44
  go_wp2
  go_ret
  exact ⟨rfl, ⟨Nat.le_refl _, heap_alloc_new _ _, rowS_nil _ _, HO.out⟩, Joins.below_alloc1 _ _⟩
section
variable {B b : Nat} {v : Value} {room : Int} {pre ps : List ByteArray}
theorem sub_pre (h : Okr room ps) : IntKind.i64.wrap (((pre ++ ps).length : Int) - (pre.length : Int)) = (ps.length : Int) := by
  have := h.le
  rw [List.length_append, show ((pre.length + ps.length : Nat) : Int) - (pre.length : Int) = (ps.length : Int) by omega]
  exact i64_id (by omega) (by omega)
set_option maxHeartbeats 1000000 in
theorem dhear_full (seq : Int) (x : ByteArray) (h1 : room ≤ (ps.length : Int)) (w : World) (h : Dr B w b v room pre ps) :
    Calls Try.prog 36 #[.pointer (some ⟨b, 0, none⟩), .int .i64 seq, .string x] w fun e w' => e = .returned (.bool false) ∧ w'.heap = w.heap ∧ w'.os = w.os ∧ w'.tape = w.tape ∧ w'.output = w.output := by
  obtain ⟨a, c, hv, _⟩ := h.row.is
  subst hv
  have c0 := h.c0
  have c1 := h.c1
  have c2 := h.c2
  have hw := sub_pre (pre := pre) h.ok
  have hd : decide (room ≤ (ps.length : Int)) = true := by simpa using h1
  clear h
  generalize (pre ++ ps).length = LL at *
  generalize (pre.length : Int) = P at *
  generalize (ps.length : Int) = T at *
  go_enter Try.func36, Try.ntmps36
  go_wp2_with fail
  go_quiet (fail)
  go_wp2
  go_ret
  exact ⟨rfl, rfl, rfl, rfl, rfl⟩
set_option maxHeartbeats 1000000 in
theorem dhear_low (seq : Int) (x : ByteArray) (h1 : ¬ room ≤ (ps.length : Int)) (h2 : seq < 1) (w : World) (h : Dr B w b v room pre ps) :
    Calls Try.prog 36 #[.pointer (some ⟨b, 0, none⟩), .int .i64 seq, .string x] w fun e w' => e = .returned (.bool false) ∧ w'.heap = w.heap ∧ w'.os = w.os ∧ w'.tape = w.tape ∧ w'.output = w.output := by
  obtain ⟨a, c, hv, _⟩ := h.row.is
  subst hv
  have c0 := h.c0
  have c1 := h.c1
  have c2 := h.c2
  have hw := sub_pre (pre := pre) h.ok
  have hd : decide (room ≤ (ps.length : Int)) = false := by simpa using h1
  have hd2 : decide (seq < 1) = true := by simpa using h2
  clear h
  generalize (pre ++ ps).length = LL at *
  generalize (pre.length : Int) = P at *
  generalize (ps.length : Int) = T at *
  go_enter Try.func36, Try.ntmps36
  go_wp2_with fail
  go_quiet (fail)
  go_wp2
  go_ret
  exact ⟨rfl, rfl, rfl, rfl, rfl⟩
set_option maxHeartbeats 1000000 in
theorem dhear_seq (seq : Int) (x : ByteArray) (h1 : ¬ room ≤ (ps.length : Int)) (h2 : ¬ seq < 1) (hr : seq ≤ 9223372036854775807) (h3 : seq - 1 ≠ ((pre ++ ps).length : Int)) (w : World) (h : Dr B w b v room pre ps) :
    Calls Try.prog 36 #[.pointer (some ⟨b, 0, none⟩), .int .i64 seq, .string x] w fun e w' => e = .returned (.bool false) ∧ w'.heap = w.heap ∧ w'.os = w.os ∧ w'.tape = w.tape ∧ w'.output = w.output := by
  obtain ⟨a, c, hv, _⟩ := h.row.is
  subst hv
  have c0 := h.c0
  have c1 := h.c1
  have c2 := h.c2
  have hw := sub_pre (pre := pre) h.ok
  have hd : decide (room ≤ (ps.length : Int)) = false := by simpa using h1
  have hd2 : decide (seq < 1) = false := by simpa using h2
  have hw2 : IntKind.i64.wrap (seq - 1) = seq - 1 := i64_id (by omega) (by omega)
  have hd3 : decide (seq - 1 = ((pre ++ ps).length : Int)) = false := by simpa using h3
  clear h
  generalize (pre ++ ps).length = LL at *
  generalize (pre.length : Int) = P at *
  generalize (ps.length : Int) = T at *
  go_enter Try.func36, Try.ntmps36
  go_wp2_with fail
  go_quiet (fail)
  go_wp2
  go_ret
  exact ⟨rfl, rfl, rfl, rfl, rfl⟩
theorem dhear_fin {w W w3 w5 : World} {a3 a' : Option Addr} {c3 c' : Nat} {x : ByteArray} {xs : List ByteArray} (hx : x.size ≤ 1000) (h : Dr B w b v room pre ps) (hxs : pre ++ ps = xs) (h1 : (ps.length : Int) < room)
    (eh : W.heap = w.heap) (eo : W.os = w.os) (et : W.tape = w.tape) (eu : W.output = w.output) (hr3 : RowS W.heap.size w3 (.slice a3 xs.length c3) xs) (hb3 : Below W.heap.size W w3)
    (hr5 : RowS W.heap.size w5 (.slice a' (xs.length + 1) c') (xs ++ [x])) (hg5 : (w3.alloc (.cells #[.string x] 9)).grownBy w5 (Value.slice a3 xs.length c3).ownBlock) :
    w5.cell? ⟨b, 1, none⟩ = some v ∧ w5.frozen? ⟨b, 1, none⟩ = false ∧ Hid (Dr B (w5.setCell ⟨b, 1, none⟩ (.slice a' (xs.length + 1) c')) b (.slice a' (xs.length + 1) c') room pre (ps ++ [x]) ∧ w.grownBy (w5.setCell ⟨b, 1, none⟩ (.slice a' (xs.length + 1) c')) (some b)) := by
  have hlt := h.lt
  have hlo := h.lo
  have hbel : Below w.heap.size w w5 := by
    have e : Below W.heap.size W w5 := (hb3.alloc hb3.size (.cells #[.string x] 9)).grown hg5 (by have := hb3.size; simp; omega) (fun j hj => (hr3.lt j hj).1)
    exact ⟨e.os.trans eo, e.tape.trans et, e.output.trans eu, by rw [← eh]; exact e.size, fun j hj => by rw [e.block j (by rw [eh]; exact hj), eh]⟩
  have hblk := (hbel.block b hlt).trans h.blk
  have hsz : w.heap.size = W.heap.size := by rw [eh]
  have hnb : (Value.slice a' (xs.length + 1) c').ownBlock ≠ some b := fun e => by have := (hr5.lt b e).1; omega
  refine ⟨cell_at hblk 1 _ rfl, by simp [World.frozen?, hblk], ⟨⟨hlo, ?_, ?_, okr_more h.ok h1 hx⟩, ?_⟩⟩
  · simp [World.setCell, Array.getElem?_modify, hblk]
  · rw [← List.append_assoc, hxs]
    exact (hr5.lower (by omega)).same fun j hj => Below.heap_setCell _ _ _ _ (fun e => hnb (by rw [hj, e]))
  · exact World.grownBy.trans (grownOf (some b) hbel) (grown_set _ _ _ _)
set_option maxHeartbeats 4000000 in
theorem dhear_yes (x : ByteArray) (hx : x.size ≤ 1000) (h1 : (ps.length : Int) < room) (hbd : pre.length + ps.length ≤ 10000) (w : World) (h : Dr B w b v room pre ps) :
    Calls Try.prog 36 #[.pointer (some ⟨b, 0, none⟩), .int .i64 ((pre.length + ps.length + 1 : Nat) : Int), .string x] w fun e w' => e = .returned (.bool true) ∧ ∃ v', Dr B w' b v' room pre (ps ++ [x]) ∧ w.grownBy w' (some b) := by
  obtain ⟨a, c, hv, hss, hlc, hnn⟩ := h.row.is
  subst hv
  have c0 := h.c0
  have c1 := h.c1
  have c2 := h.c2
  have hw := sub_pre (pre := pre) h.ok
  have hd : decide (room ≤ (ps.length : Int)) = false := by simpa using h1
  have hbd2 : (pre ++ ps).length ≤ 10000 := by rw [List.length_append]; exact hbd
  rw [show pre.length + ps.length + 1 = (pre ++ ps).length + 1 by rw [List.length_append]]
  have hd2 : decide ((((pre ++ ps).length + 1 : Nat) : Int) < 1) = false := decide_eq_false (by omega)
  have hw2 : IntKind.i64.wrap ((((pre ++ ps).length + 1 : Nat) : Int) - 1) = ((pre ++ ps).length : Int) := by
    rw [show (((pre ++ ps).length + 1 : Nat) : Int) - 1 = ((pre ++ ps).length : Int) by omega]
    exact i64_id (by omega) (by omega)
  have H := Lib.hid h
  have H1 := Lib.hid h1
  have HSS := Lib.hid hss
  have HLC := Lib.hid hlc
  have HNN := Lib.hid hnn
  clear h h1 hss hlc hnn hbd
  generalize hxs : pre ++ ps = xs at *
  have HXS := Lib.hid hxs
  clear hxs
  generalize (pre.length : Int) = P at c2 hw
  generalize ((xs.length + 1 : Nat) : Int) = Q at *
  have tok1 : True := trivial
  have tok2 : True := trivial
  go_enter Try.func36, Try.ntmps36
  go_wp2_with fail
  go_quiet (fail)
  have e1 := ((H.out.asit (w' := w.drewN nq) rfl).next (Joins.below_alloc1 _ (.cells #[] 9))).c1
  clear c0
  go_wp2_with (first
    | (at_builtin; have _t := tok1; refine wpList_appS0 (w := w.drewN nq) rfl (.tmp 37) (.tmp 41) rfl rfl a xs.length c rfl xs ⟨HSS.out.size, HSS.out.lies⟩ HLC.out HNN.out (by omega) ?_; intro a3 c3' w3 hr3 hb3; have HR3 := Lib.hid hr3; have HB3 := Lib.hid hb3; clear tok1 hr3 hb3)
    | (at_builtin; have _t := tok2; refine wpList_appS rfl (.tmp 42) (.tmp 44) rfl (w.drewN nq).heap.size _ xs rfl (HR3.out.alloc (.cells #[.string x] 9)) _ 1 1 rfl [x] (ssAt_one w3 x) (Nat.le_refl _) (fun e => by cases e) (by omega) (by have := HB3.out.size; simp at this ⊢; omega) ?_; intro a5 c5 w5 hr5 hg5 _; obtain ⟨d2, f2, HF⟩ := dhear_fin hx H.out HXS.out H1.out (W := w.drewN nq) rfl rfl rfl rfl HR3.out HB3.out hr5 hg5; clear tok2 hr5 hg5))
  go_ret
  exact ⟨rfl, _, HF.out⟩
theorem dhear_any (seq : Int) (hr : seq ≤ 9223372036854775807) (x : ByteArray) (hx : x.size ≤ 1000) (hbd : pre.length + ps.length ≤ 10000) (w : World) (h : Dr B w b v room pre ps) :
    Calls Try.prog 36 #[.pointer (some ⟨b, 0, none⟩), .int .i64 seq, .string x] w fun e w' => e = .returned (.bool (decide (takes room pre.length ps seq))) ∧ (∃ v', Dr B w' b v' room pre (hearD room pre.length ps seq x)) ∧ w.grownBy w' (some b) := by
  unfold hearD
  by_cases ht : takes room pre.length ps seq
  · rw [if_pos ht, decide_eq_true ht]
    obtain ⟨e1, e2⟩ := ht
    subst e1
    refine (dhear_yes x hx e2 hbd w h).mono ?_
    rintro e w1 ⟨rfl, v', h1, h2⟩
    exact ⟨rfl, ⟨v', h1⟩, h2⟩
  rw [if_neg ht, decide_eq_false ht]
  have key : Calls Try.prog 36 #[.pointer (some ⟨b, 0, none⟩), .int .i64 seq, .string x] w fun e w' => e = .returned (.bool false) ∧ w'.heap = w.heap ∧ w'.os = w.os ∧ w'.tape = w.tape ∧ w'.output = w.output := by
    by_cases h1 : room ≤ (ps.length : Int)
    · exact dhear_full seq x h1 w h
    by_cases h2 : seq < 1
    · exact dhear_low seq x h1 h2 w h
    exact dhear_seq seq x h1 h2 hr (fun e => ht ⟨by rw [List.length_append] at e; omega, by omega⟩) w h
  refine key.mono ?_
  rintro e w1 ⟨rfl, e1, e2, e3, e4⟩
  exact ⟨rfl, ⟨v, h.asit e1⟩, grown_asit e1 e2 e3 e4⟩
set_option maxHeartbeats 1000000 in
theorem dpop_none (w : World) (h : Dr B w b v room pre []) :
    Calls Try.prog 19 #[.pointer (some ⟨b, 0, none⟩)] w fun e w' => e = .returned (.tuple #[.string emp, .bool false]) ∧ w'.heap = w.heap ∧ w'.os = w.os ∧ w'.tape = w.tape ∧ w'.output = w.output := by
  obtain ⟨a, c, hv, _⟩ := h.row.is
  subst hv
  have c1 := h.c1
  have c2 := h.c2
  rw [List.append_nil] at c1
  unfold emp
  clear h
  generalize pre.length = P at *
  go_enter Try.func19, Try.ntmps19
  go_wp2_with fail
  go_quiet (fail)
  go_wp2
  go_ret2
  exact ⟨rfl, rfl, rfl, rfl, rfl⟩
theorem dpop_fin {w : World} {x : ByteArray} (h : Dr B w b v room pre (x :: ps)) : Dr B (w.setCell ⟨b, 2, none⟩ (.int .i64 ((pre.length + 1 : Nat) : Int))) b v room (pre ++ [x]) ps ∧ w.grownBy (w.setCell ⟨b, 2, none⟩ (.int .i64 ((pre.length + 1 : Nat) : Int))) (some b) := by
  have hblk := h.blk
  refine ⟨⟨h.lo, ?_, ?_, h.ok.less⟩, grown_set _ _ _ _⟩
  · rw [List.length_append, List.length_singleton]
    simp [World.setCell, Array.getElem?_modify, hblk]
  · rw [List.append_assoc]
    exact h.row.same fun j hj => Below.heap_setCell _ _ _ _ (fun e => h.rowb (by rw [hj, e]))
set_option maxHeartbeats 2000000 in
theorem dpop_yes (x : ByteArray) (hbd : pre.length ≤ 10000) (w : World) (h : Dr B w b v room pre (x :: ps)) :
    Calls Try.prog 19 #[.pointer (some ⟨b, 0, none⟩)] w fun e w' => e = .returned (.tuple #[.string x, .bool true]) ∧ Dr B w' b v room (pre ++ [x]) ps ∧ w.grownBy w' (some b) := by
  obtain ⟨a, c, hv, hss, _⟩ := h.row.is
  subst hv
  have c1 := h.c1
  have c2 := h.c2
  have f2 := h.f0 2
  have hd : decide (((pre ++ x :: ps).length : Int) ≤ (pre.length : Int)) = false := by
    rw [List.length_append, List.length_cons]
    simpa using (by omega : ¬ ((pre.length + (ps.length + 1) : Nat) : Int) ≤ (pre.length : Int))
  have hd' : ¬ ((pre ++ x :: ps).length : Int) ≤ (pre.length : Int) := by simpa using hd
  have hix : pre.length < (pre ++ x :: ps).length := by rw [List.length_append, List.length_cons]; omega
  have hw : IntKind.i64.wrap ((pre.length : Int) + 1) = ((pre.length + 1 : Nat) : Int) := by
    rw [show (pre.length : Int) + 1 = ((pre.length + 1 : Nat) : Int) by omega]
    exact i64_id (by omega) (by omega)
  have hw2 : IntKind.i64.wrap (((pre.length + 1 : Nat) : Int) - 1) = (pre.length : Int) := by
    rw [show ((pre.length + 1 : Nat) : Int) - 1 = (pre.length : Int) by omega]
    exact i64_id (by omega) (by omega)
  obtain ⟨g, off, rfl, _, _⟩ := hss.lies (by omega)
  have H := Lib.hid h
  have HF := Lib.hid (dpop_fin h)
  clear h hss
  have hix2 : (pre.length : Int) < ((pre ++ x :: ps).length : Int) := by omega
  generalize hLL : (pre ++ x :: ps).length = LL at *
  have HLL := Lib.hid hLL
  clear hLL
  go_enter Try.func19, Try.ntmps19
  go_wp2_with fail
  go_quiet (fail)
  revert nq
  intro n1
  have h2 := dpop_fin (H.out.asit (w' := w.drewN n1) rfl)
  have k1 := h2.1.c1
  have k2 := h2.1.c2
  rw [List.length_append, List.length_singleton] at k2
  have k3 : (World.setCell (w.drewN n1) ⟨b, 2, none⟩ (.int .i64 ((pre.length + 1 : Nat) : Int))).cell? ⟨g, off + pre.length, none⟩ = some (.string x) := by
    obtain ⟨aa, cc, e, hs, _⟩ := h2.1.row.is
    rw [List.append_assoc] at e hs
    simp only [List.cons_append, List.nil_append] at e hs
    cases e
    obtain ⟨g', off', e', _, hf⟩ := hs.lies (by rw [HLL.out]; omega)
    cases e'
    have := hf pre.length (by rw [HLL.out]; omega)
    simpa [List.getD_eq_getElem?_getD] using this
  have HF2 : Hid (Dr B _ b _ room (pre ++ [x]) ps ∧ w.grownBy _ (some b)) := Lib.hid ⟨h2.1, ⟨h2.2.os, h2.2.tape, h2.2.output, h2.2.size, h2.2.block⟩⟩
  clear h2 HF
  generalize ((pre.length + 1 : Nat) : Int) = Q at *
  go_wp2_with fail
  go_quiet (fail)
  go_wp2
  go_ret2
  exact ⟨rfl, HF2.out.1.asit rfl, ⟨HF2.out.2.os, HF2.out.2.tape, HF2.out.2.output, HF2.out.2.size, HF2.out.2.block⟩⟩
theorem look_slice {w : World} {a : Option Addr} {c : Nat} (h : Dr B w b (.slice a (pre ++ ps).length c) room pre ps) :
    ∃ A C, (∀ w, (Instr.sliceAt 51 (.slice a (pre ++ ps).length c) (some (.int .i64 (pre.length : Int))) none none).run Try.prog w = .ok (.slice A ps.length C) w) ∧ SsAt w A ps.length ps ∧ ps.length ≤ C ∧ (A = none → C = 0) := by
  obtain ⟨hss, hlc, hn⟩ := h.row.isS rfl
  have hl : pre.length ≤ (pre ++ ps).length := by rw [List.length_append]; omega
  have e : (pre ++ ps).length - pre.length = ps.length := by rw [List.length_append]; omega
  have s := hss.back hlc hl
  refine ⟨_, _, fun w => by rw [slS_back a _ c pre.length hl w, e], ?_, by rw [List.length_append] at hlc; omega, back_none hn⟩
  rw [e, List.drop_left] at s
  exact s
set_option maxHeartbeats 4000000 in
theorem dlook_any (w : World) (h : Dr B w b v room pre ps) :
    Calls Try.prog 24 #[.pointer (some ⟨b, 0, none⟩)] w fun e w' => ∃ a' c', e = .returned (.slice a' ps.length c') ∧ RowS w.heap.size w' (.slice a' ps.length c') ps ∧ Below w.heap.size w w' := by
  have hbd := h.ok.le
  obtain ⟨a, c, hv, _⟩ := h.row.is
  subst hv
  obtain ⟨A, C, hsl, hss, hlc, hn⟩ := look_slice h
  have c1 := h.c1
  have c2 := h.c2
  have hA : Dr B (w.drew.alloc (.cells #[] 9)) b _ room pre ps := (h.asit (w' := w.drew) rfl).next (Joins.below_alloc1 _ _)
  have e2 := hA.c1
  have e3 := hA.c2
  have H := Lib.hid (h.asit (w' := w.drew) rfl)
  have HSS := Lib.hid (ssAt_below hss.drew (Joins.below_alloc1 w.drew (.cells #[] 9)))
  clear h hA hss
  generalize (pre ++ ps).length = LL at *
  generalize hP : (pre.length : Int) = P at c2 e3 hsl
  have HP := Lib.hid hP
  clear hP
  go_enter Try.func24, Try.ntmps24
  go_wp2_with fail
  refine wp_region_held_drew (S := fun w' => w'.cell? ⟨b, 1, none⟩ = some (.slice a LL c) ∧ w'.cell? ⟨b, 2, none⟩ = some (.int .i64 P)) (by kernel_rfl) ?_ (fun hH => ?_)
  · exact ⟨c1, c2⟩
  refine wpAnyH_take (i := 1) (oi := { dst := some 4, op := Go.Op.move (Go.Operand.tmp 0), type := 36, pos := "ref.go:41", after := #[], guard := none }) (v := ?_) rfl (by kernel_rfl) (by kernel_rfl) (by kernel_rfl) (fun _ _ _ h => h) (Or.inl ⟨by rfl, ?_⟩) (by assumption) ?_
  rotate_left
  · intro w hSw
    try dsimp only at hSw
    obtain ⟨q2, q3⟩ := hSw
    go_simp
    all_goals with_reducible rfl
  try simp only [Act.put, List.setIfInBounds_toArray, List.set_cons_zero, List.set_cons_succ]
  refine wpAnyH_take (i := 2) (oi := { dst := some 5, op := Go.Op.nilCheck (Go.Operand.tmp 4), type := 0, pos := "ref.go:41", after := #[{ on := 1, ground := Go.Ground.data }], guard := none }) (v := ?_) rfl (by kernel_rfl) (by kernel_rfl) (by kernel_rfl) (fun _ _ _ h => h) (Or.inl ⟨by rfl, ?_⟩) (by assumption) ?_
  rotate_left
  · intro w hSw
    try dsimp only at hSw
    obtain ⟨q2, q3⟩ := hSw
    go_simp
    all_goals with_reducible rfl
  try simp only [Act.put, List.setIfInBounds_toArray, List.set_cons_zero, List.set_cons_succ]
  refine wpAnyH_take (i := 3) (oi := { dst := some 6, op := Go.Op.fieldAddr 78 (Go.Operand.tmp 5) 1, type := 0, pos := "ref.go:41", after := #[{ on := 2, ground := Go.Ground.data }], guard := none }) (v := ?_) rfl (by kernel_rfl) (by kernel_rfl) (by kernel_rfl) (fun _ _ _ h => h) (Or.inl ⟨by rfl, ?_⟩) (by assumption) ?_
  rotate_left
  · intro w hSw
    try dsimp only at hSw
    obtain ⟨q2, q3⟩ := hSw
    go_simp
    all_goals with_reducible rfl
  try simp only [Act.put, List.setIfInBounds_toArray, List.set_cons_zero, List.set_cons_succ]
  refine wpAnyH_take (i := 4) (oi := { dst := some 7, op := Go.Op.load 51 (Go.Operand.tmp 6), type := 51, pos := "ref.go:41", after := #[{ on := 3, ground := Go.Ground.data }], guard := none }) (v := ?_) rfl (by kernel_rfl) (by kernel_rfl) (by kernel_rfl) (fun _ _ _ h => h) (Or.inl ⟨by rfl, ?_⟩) (by assumption) ?_
  rotate_left
  · intro w hSw
    try dsimp only at hSw
    obtain ⟨q2, q3⟩ := hSw
    go_simp
    all_goals with_reducible rfl
  try simp only [Act.put, List.setIfInBounds_toArray, List.set_cons_zero, List.set_cons_succ]
  refine wpAnyH_take (i := 5) (oi := { dst := some 8, op := Go.Op.move (Go.Operand.tmp 0), type := 36, pos := "ref.go:41", after := #[], guard := none }) (v := ?_) rfl (by kernel_rfl) (by kernel_rfl) (by kernel_rfl) (fun _ _ _ h => h) (Or.inl ⟨by rfl, ?_⟩) (by assumption) ?_
  rotate_left
  · intro w hSw
    try dsimp only at hSw
    obtain ⟨q2, q3⟩ := hSw
    go_simp
    all_goals with_reducible rfl
  try simp only [Act.put, List.setIfInBounds_toArray, List.set_cons_zero, List.set_cons_succ]
  refine wpAnyH_take (i := 6) (oi := { dst := some 9, op := Go.Op.nilCheck (Go.Operand.tmp 8), type := 0, pos := "ref.go:41", after := #[{ on := 5, ground := Go.Ground.data }], guard := none }) (v := ?_) rfl (by kernel_rfl) (by kernel_rfl) (by kernel_rfl) (fun _ _ _ h => h) (Or.inl ⟨by rfl, ?_⟩) (by assumption) ?_
  rotate_left
  · intro w hSw
    try dsimp only at hSw
    obtain ⟨q2, q3⟩ := hSw
    go_simp
    all_goals with_reducible rfl
  try simp only [Act.put, List.setIfInBounds_toArray, List.set_cons_zero, List.set_cons_succ]
  refine wpAnyH_take (i := 7) (oi := { dst := some 10, op := Go.Op.fieldAddr 78 (Go.Operand.tmp 9) 2, type := 0, pos := "ref.go:41", after := #[{ on := 6, ground := Go.Ground.data }], guard := none }) (v := ?_) rfl (by kernel_rfl) (by kernel_rfl) (by kernel_rfl) (fun _ _ _ h => h) (Or.inl ⟨by rfl, ?_⟩) (by assumption) ?_
  rotate_left
  · intro w hSw
    try dsimp only at hSw
    obtain ⟨q2, q3⟩ := hSw
    go_simp
    all_goals with_reducible rfl
  try simp only [Act.put, List.setIfInBounds_toArray, List.set_cons_zero, List.set_cons_succ]
  refine wpAnyH_take (i := 8) (oi := { dst := some 11, op := Go.Op.load 3 (Go.Operand.tmp 10), type := 3, pos := "ref.go:41", after := #[{ on := 7, ground := Go.Ground.data }], guard := none }) (v := ?_) rfl (by kernel_rfl) (by kernel_rfl) (by kernel_rfl) (fun _ _ _ h => h) (Or.inl ⟨by rfl, ?_⟩) (by assumption) ?_
  rotate_left
  · intro w hSw
    try dsimp only at hSw
    obtain ⟨q2, q3⟩ := hSw
    go_simp
    all_goals with_reducible rfl
  try simp only [Act.put, List.setIfInBounds_toArray, List.set_cons_zero, List.set_cons_succ]
  refine wpAnyH_take (i := 9) (oi := { dst := some 12, op := Go.Op.slice 51 (Go.Operand.tmp 7) (some (Go.Operand.tmp 11)) none none, type := 51, pos := "ref.go:41", after := #[{ on := 4, ground := Go.Ground.data }, { on := 8, ground := Go.Ground.data }], guard := none }) (v := ?_) rfl (by kernel_rfl) (by kernel_rfl) (by kernel_rfl) (fun _ _ _ h => h) (Or.inl ⟨by rfl, ?_⟩) (by assumption) ?_
  rotate_left
  · intro w hSw
    try dsimp only at hSw
    obtain ⟨q2, q3⟩ := hSw
    go_simp
    all_goals with_reducible rfl
  try simp only [Act.put, List.setIfInBounds_toArray, List.set_cons_zero, List.set_cons_succ]
  refine wpAnyH_ready (rs := [0]) (by kernel_rfl) (by simp) ?_
  refine AllReadyH.cons (o := { dst := some 3, op := Go.Op.buildSlice 51 0 #[], type := 51, pos := "ref.go:41", after := #[], guard := none }) rfl (fun K hK => ?_) ?_
  · go_simp
    refine hK.out _ _ ?_ (fun hH => ?_)
    · exact ⟨e2, e3⟩
    clear hK K
    try simp only [Act.put, List.setIfInBounds_toArray, List.set_cons_zero, List.set_cons_succ]
    refine wpAnyH_ready (rs := [10]) (by kernel_rfl) (by simp) ?_
    refine AllReadyH.cons (o := { dst := some 13, op := Go.Op.call { callee := Go.Callee.builtin Go.Builtin.append, args := #[Go.Operand.tmp 3, Go.Operand.tmp 12], argTypes := #[51, 51] }, type := 51, pos := "ref.go:41", after := #[{ on := 0, ground := Go.Ground.data }, { on := 9, ground := Go.Ground.data }], guard := none }) rfl (fun K hK => ?_) ?_
    · refine step_appS (by rfl) (.tmp 3) (.tmp 12) rfl w.drew.heap.size _ [] rfl (rowS_new w.drew) A ps.length C rfl ps HSS.out hlc hn (by simp only [List.length_nil]; omega) (by simp) ?_
      intro a5 c5 w5 hr5 hg5 _
      simp only [List.length_nil, Nat.zero_add, List.nil_append] at hr5 ⊢
      have hb5 : Below w.drew.heap.size w.drew w5 := belS (rowS_new w.drew) (Joins.below_alloc1 _ _) hg5 (by simp)
      have h5 := H.out.next hb5
      have HR5 := Lib.hid hr5
      have HB5 : Hid (Below w.heap.size w w5) := Lib.hid ⟨hb5.os, hb5.tape, hb5.output, hb5.size, hb5.block⟩
      have g2 := h5.c1
      have g3 := h5.c2
      rw [HP.out] at g3
      clear hr5 hg5 hb5 h5
      refine hK.out _ _ ?_ (fun hH => ?_)
      · exact ⟨g2, g3⟩
      clear hK K
      try simp only [Act.put, List.setIfInBounds_toArray, List.set_cons_zero, List.set_cons_succ]
      refine wpAnyH_take (i := 11) (oi := { dst := some 2, op := Go.Op.assign (Go.Operand.tmp 13), type := 51, pos := "ref.go:41", after := #[{ on := 10, ground := Go.Ground.data }, { on := 10, ground := Go.Ground.chain }, { on := 0, ground := Go.Ground.phase }, { on := 1, ground := Go.Ground.phase }, { on := 2, ground := Go.Ground.phase }, { on := 3, ground := Go.Ground.phase }, { on := 4, ground := Go.Ground.phase }, { on := 5, ground := Go.Ground.phase }, { on := 6, ground := Go.Ground.phase }, { on := 7, ground := Go.Ground.phase }, { on := 8, ground := Go.Ground.phase }, { on := 9, ground := Go.Ground.phase }, { on := 10, ground := Go.Ground.phase }], guard := none }) (v := ?_) rfl (by kernel_rfl) (by kernel_rfl) (by kernel_rfl) (fun _ _ _ h => h) (Or.inl ⟨by rfl, ?_⟩) (by assumption) ?_
      rotate_left
      · intro w hSw
        try dsimp only at hSw
        obtain ⟨q2, q3⟩ := hSw
        go_simp
        all_goals with_reducible rfl
      try simp only [Act.put, List.setIfInBounds_toArray, List.set_cons_zero, List.set_cons_succ]
      refine wpAnyH_done (by kernel_rfl) ?_ _
      go_wp2
      go_ret
      exact ⟨a5, c5, rfl, HR5.out, HB5.out⟩
    exact AllReadyH.nil
  exact AllReadyH.nil
end
end Go.Proofs.Ytclobdejlihblaa.Rcv
