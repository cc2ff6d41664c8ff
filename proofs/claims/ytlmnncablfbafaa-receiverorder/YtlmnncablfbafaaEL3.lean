/- ReceiverOrder. -/
import Derived.Test.YtlmnncablfbafaaE6
namespace Go.Proofs.Ytlmnncablfbafaa
open Go Go.RowKit
set_option maxRecDepth 20000
/-- Two receivers within a law that began in w0. -/
structure Rr (B : Nat) (w0 w : World) (b1 b2 : Nat) (ps1 L1 ps2 L2 : List ByteArray) : Prop where
  r1 : Rv B w b1 16 0 ps1 L1
  r2 : Rv B w b2 16 0 ps2 L2
  ne : b1 ≠ b2
  bel : Below B w0 w
  le : B ≤ w.heap.size
section
variable {B : Nat} {w0 w w' : World} {b1 b2 : Nat} {ps1 L1 ps2 L2 : List ByteArray}
theorem Rr.next (h : Rr B w0 w b1 b2 ps1 L1 ps2 L2) (hb : Below w.heap.size w w') : Rr B w0 w' b1 b2 ps1 L1 ps2 L2 := ⟨h.r1.next hb, h.r2.next hb, h.ne, h.bel.trans (hb.mono h.le), Nat.le_trans h.le hb.size⟩
theorem Rr.asit (h : Rr B w0 w b1 b2 ps1 L1 ps2 L2) (e : w'.heap = w.heap) (e1 : w'.os = w.os) (e2 : w'.tape = w.tape) (e3 : w'.output = w.output) : Rr B w0 w' b1 b2 ps1 L1 ps2 L2 := h.next (below_asit e e1 e2 e3)
theorem rr_hear1 (seq : Int) (x : ByteArray) (hx : x.size ≤ 1000) {T : Bool} {D : List ByteArray} (hT : decide (takes 16 0 ps1 seq) = T) (hD : hearD 16 0 ps1 seq x = D) (hk : ps1.length ≤ 1000) (h : Rr B w0 w b1 b2 ps1 L1 ps2 L2) :
    Calls Try.prog 11 #[.pointer (some ⟨b1, 0, none⟩), .int .i64 seq, .string x] w fun e w' => e = .returned (.bool T) ∧ ∃ L', Rr B w0 w' b1 b2 D L' ps2 L2 := by
  subst hT hD
  refine (hear_any seq x hx (by omega) w h.r1).mono ?_
  rintro e w1 ⟨rfl, ⟨L', hs⟩, hg⟩
  exact ⟨rfl, L', hs, h.r2.kept hg (fun e => by cases e; exact h.ne rfl), h.ne, h.bel.grown hg h.le (fun j hj => by cases hj; exact h.r1.lo), Nat.le_trans h.le hg.size⟩
theorem rr_hear2 (seq : Int) (x : ByteArray) (hx : x.size ≤ 1000) {T : Bool} {D : List ByteArray} (hT : decide (takes 16 0 ps2 seq) = T) (hD : hearD 16 0 ps2 seq x = D) (hk : ps2.length ≤ 1000) (h : Rr B w0 w b1 b2 ps1 L1 ps2 L2) :
    Calls Try.prog 11 #[.pointer (some ⟨b2, 0, none⟩), .int .i64 seq, .string x] w fun e w' => e = .returned (.bool T) ∧ ∃ L', Rr B w0 w' b1 b2 ps1 L1 D L' := by
  subst hT hD
  refine (hear_any seq x hx (by omega) w h.r2).mono ?_
  rintro e w1 ⟨rfl, ⟨L', hs⟩, hg⟩
  exact ⟨rfl, L', h.r1.kept hg (fun e => by cases e; exact h.ne rfl), hs, h.ne, h.bel.grown hg h.le (fun j hj => by cases hj; exact h.r2.lo), Nat.le_trans h.le hg.size⟩
end
theorem take_lenR {xs : List ByteArray} {i : Nat} (hi : i ≤ xs.length) : (xs.take i).length = i := by rw [List.length_take]; omega
theorem hear_take {xs : List ByteArray} {i : Nat} (hi : i < xs.length) (h16 : i < 16) : decide (takes 16 0 (xs.take i) ((i + 1 : Nat) : Int)) = true ∧ hearD 16 0 (xs.take i) ((i + 1 : Nat) : Int) (xs.getD i emp) = xs.take (i + 1) := by
  have h : takes 16 0 (xs.take i) ((i + 1 : Nat) : Int) := by unfold takes; rw [take_lenR (by omega)]; exact ⟨by omega, by omega⟩
  unfold hearD
  rw [if_pos h]
  exact ⟨decide_eq_true h, by rw [List.take_add_one]; simp [List.getD_eq_getElem?_getD, hi]⟩
theorem hear_off {xs : List ByteArray} {i j : Nat} (hi : i < xs.length) (hj : j ≠ i + 2) (x : ByteArray) : decide (takes 16 0 (xs.take (i + 1)) ((j : Nat) : Int)) = false ∧ hearD 16 0 (xs.take (i + 1)) ((j : Nat) : Int) x = xs.take (i + 1) := by
  have h : ¬ takes 16 0 (xs.take (i + 1)) ((j : Nat) : Int) := by unfold takes; rw [take_lenR (by omega)]; omega
  unfold hearD
  rw [if_neg h]
  exact ⟨decide_eq_false h, rfl⟩
def lateB : ByteArray := ⟨#[108, 97, 116, 101]⟩
def earlyB : ByteArray := ⟨#[101, 97, 114, 108, 121]⟩
set_option maxHeartbeats 4000000 in
theorem rorder_not (a : Option Addr) (len cap : Nat) (hl : 16 < len) (w : World) :
    Calls Try.prog 6 #[.slice a len cap] w fun e w' => e = .returned (.bool true) ∧ Below w.heap.size w w' := by
  have HW := Lib.hid (Below.refl w.heap.size w)
  have q : decide ((16 : Int) < (len : Int)) = true := decide_eq_true (by omega)
  go_enter Try.func6, Try.ntmps6
  go_wp2_with fail
  refine (ur_new 16 rfl HW.out (Nat.le_refl _)).mono ?_
  rintro e w1 ⟨rfl, h, _⟩
  have HB1 := Lib.hid h.bel
  have HL1 := Lib.hid h.le
  clear h
  go_wp2_with fail
  refine (ur_new 16 rfl HB1.out HL1.out).mono ?_
  rintro e w2 ⟨rfl, h, _⟩
  have HB2 := Lib.hid h.bel
  clear h HB1
  go_wp2_with fail
  refine (awake_yes _).mono ?_
  rintro e w3 ⟨rfl, hb⟩
  have HB3 := Lib.hid (HB2.out.trans (hb.mono HB2.out.size))
  clear hb HB2
  go_wp2_with fail
  refine (awake_yes _).mono ?_
  rintro e w4 ⟨rfl, hb⟩
  have HB4 := Lib.hid (HB3.out.trans (hb.mono HB3.out.size))
  clear hb HB3
  go_wp2
  go_ret
  exact ⟨rfl, HB4.out⟩
set_option maxHeartbeats 16000000 in
theorem rorder_yes (a : Option Addr) (len cap : Nat) (hl : len ≤ 16) (xs : List ByteArray) (w : World) (hi : SsAt w a len xs) :
    Calls Try.prog 6 #[.slice a len cap] w fun e w' => e = .returned (.bool true) ∧ Below w.heap.size w w' := by
  have HW := Lib.hid (Below.refl w.heap.size w)
  have hs := hi.size
  have HI := Lib.hid hi
  have q : decide ((16 : Int) < (len : Int)) = false := decide_eq_false (by omega)
  clear hi
  go_enter Try.func6, Try.ntmps6
  go_wp2_with fail
  refine (ur_new 16 (r := 16) (by decide) HW.out (Nat.le_refl _)).mono ?_
  rintro e w1 ⟨rfl, h1, hb1⟩
  have HZ : Hid (w.heap.size < w1.heap.size) := Lib.hid h1.rv.lt
  have H1 := Lib.hid h1
  clear h1 hb1
  go_wp2_with fail
  refine (ur_new 16 (r := 16) (by decide) H1.out.bel H1.out.le).mono ?_
  rintro e w2 ⟨rfl, h2, hb2⟩
  have h3 : Rr w.heap.size w w2 w.heap.size w1.heap.size [] _ [] _ := ⟨H1.out.rv.next hb2, h2.rv, Nat.ne_of_lt HZ.out, h2.bel, h2.le⟩
  generalize hB0 : w.heap.size = B0 at *
  generalize w1.heap.size = b2 at *
  have HB0 := Lib.hid hB0
  have HR := Lib.hid h3
  clear h2 hb2 h3 hB0 H1 HW HZ
  go_wp2_with fail
  refine (awake_yes _).mono ?_
  rintro e w3 ⟨rfl, hb⟩
  have HR3 := Lib.hid (HR.out.next hb)
  clear hb HR
  go_wp2_with fail
  go_loopw [27] (fun v27 wr => ∃ i : Nat, i ≤ len ∧ v27 = .int .i64 i ∧ ∃ L1 L2, Rr B0 w wr B0 b2 (xs.take i) L1 (xs.take i) L2) (fun v27 _ => len - (intOf v27).toNat)
  case atStart => exact ⟨0, Nat.zero_le _, rfl, _, _, HR3.out⟩
  case round =>
    obtain ⟨i, hi, rfl, L1, L2, hr⟩ := hrel
    clear HR3
    by_cases hlt : i < len
    · obtain ⟨g, off, rfl, hgl, hcell⟩ := HI.out.lies (by omega)
      have c0 := (hr.bel.cell (p := ⟨g, off + i, none⟩) (by rw [← HB0.out]; exact hgl)).trans (hcell i (by omega))
      have HR := Lib.hid hr
      clear hr hcell hgl
      obtain ⟨t1, t2⟩ := hear_take (xs := xs) (i := i) (by omega) (by omega)
      obtain ⟨t3, t4⟩ := hear_off (xs := xs) (i := i) (j := i) (by omega) (by omega) lateB
      obtain ⟨t5, t6⟩ := hear_off (xs := xs) (i := i) (j := i + 3) (by omega) (by omega) earlyB
      obtain ⟨x, hx⟩ : ∃ x, xs.getD i emp = x := ⟨_, rfl⟩
      rw [hx] at c0 t2
      have HL0 := Lib.hid (take_lenR (xs := xs) (i := i) (by omega))
      have HL1 := Lib.hid (take_lenR (xs := xs) (i := i + 1) (by omega))
      have T1 := Lib.hid t1
      have T2 := Lib.hid t2
      have T3 := Lib.hid t3
      have T4 := Lib.hid t4
      have T5 := Lib.hid t5
      have T6 := Lib.hid t6
      unfold lateB at T4
      unfold earlyB at T6
      clear hx t1 t2 t3 t4 t5 t6
      by_cases hsz : 100 < x.size
      · have q2 : (100 : Int) < (x.size : Int) := by omega
        go_wp2
        go_ret
        exact ⟨rfl, by rw [HB0.out]; exact HR.out.bel⟩
      have q2 : ¬ (100 : Int) < (x.size : Int) := by omega
      have e1 : IntKind.i64.wrap ((i : Int) + 1) = ((i + 1 : Nat) : Int) := by
        rw [show (i : Int) + 1 = ((i + 1 : Nat) : Int) by omega]
        exact i64_id (by omega) (by omega)
      have e3 : IntKind.i64.wrap ((i : Int) + 3) = ((i + 3 : Nat) : Int) := by
        rw [show (i : Int) + 3 = ((i + 3 : Nat) : Int) by omega]
        exact i64_id (by omega) (by omega)
      obtain ⟨Q1, hQ1⟩ : ∃ Q : Int, ((i + 1 : Nat) : Int) = Q := ⟨_, rfl⟩
      obtain ⟨Q3, hQ3⟩ : ∃ Q : Int, ((i + 3 : Nat) : Int) = Q := ⟨_, rfl⟩
      rw [hQ1] at e1 T1 T2
      rw [hQ3] at e3 T5 T6
      have HQ1 := Lib.hid hQ1
      clear hQ1 hQ3
      go_wp2_with fail
      refine (rr_hear1 Q1 x (by omega) T1.out T2.out (by rw [HL0.out]; omega) HR.out).mono ?_
      rintro e w4 ⟨rfl, M1, h⟩
      have H4 := Lib.hid h
      clear h HR
      go_wp2_with fail
      refine (rr_hear2 Q1 x (by omega) T1.out T2.out (by rw [HL0.out]; omega) H4.out).mono ?_
      rintro e w5 ⟨rfl, M2, h⟩
      have H5 := Lib.hid h
      clear h H4
      go_wp2_with fail
      refine (rr_hear2 (i : Int) ⟨#[108, 97, 116, 101]⟩ (by decide) T3.out T4.out (by rw [HL1.out]; omega) H5.out).mono ?_
      rintro e w6 ⟨rfl, M3, h⟩
      have H6 := Lib.hid h
      clear h H5
      go_wp2_with fail
      refine (rr_hear2 Q3 ⟨#[101, 97, 114, 108, 121]⟩ (by decide) T5.out T6.out (by rw [HL1.out]; omega) H6.out).mono ?_
      rintro e w7 ⟨rfl, M4, h⟩
      have H7 := Lib.hid h
      clear h H6
      go_wp2
      have hq1 := HQ1.out
      subst hq1
      go_roundw
      case rel => exact ⟨i + 1, by omega, by go_num, _, _, H7.out⟩
      case measure => simp [intOf]; omega
    · obtain rfl : i = len := by omega
      rw [show xs.take i = xs by rw [List.take_of_length_le (by omega)]] at hr
      have HR := Lib.hid hr
      have HI2 := Lib.hid (ssAt_below HI.out hr.bel (Nat.le_of_eq HB0.out))
      clear hr HI
      obtain ⟨n, hn⟩ : ∃ n, xs.length = n := ⟨_, rfl⟩
      have HN := Lib.hid hn
      rw [hn] at hs
      subst hs
      have hni : n ≤ 16 := by omega
      clear hn
      go_wp2_with fail
      refine (look_any (by have := HN.out; omega) wr HR.out.r1).mono ?_
      rintro e w4 ⟨g1, rfl, hrow, hb⟩
      have H4 := Lib.hid (HR.out.next hb)
      have R4 := Lib.hid hrow
      have I4 := Lib.hid (ssAt_below HI2.out hb)
      clear hrow hb HR HI2
      go_wp2_with fail
      refine (look_any (by have := HN.out; omega) w4 H4.out.r2).mono ?_
      rintro e w5 ⟨g2, rfl, hrow, hb⟩
      have H5 := Lib.hid (H4.out.next hb)
      have R5 := Lib.hid hrow
      have I5 := Lib.hid (ssAt_below I4.out hb)
      have R45 := Lib.hid (R4.out.below hb)
      clear hrow hb H4 R4 I4
      go_wp2_with fail
      refine (same_yes _ _ xs.length _ _ xs (by have := HN.out; omega) _ (R45.out.isS rfl).1 (R5.out.isS rfl).1).mono ?_
      rintro e w6 ⟨rfl, e1, e2, e3, e4⟩
      have H6 := Lib.hid (H5.out.asit e1 e2 e3 e4)
      have I6 := Lib.hid (I5.out.asit e1)
      clear e1 e2 e3 e4 H5 R45 R5 I5
      go_wp2_with fail
      refine (look_any (by have := HN.out; omega) w6 H6.out.r1).mono ?_
      rintro e w7 ⟨g3, rfl, hrow, hb⟩
      have H7 := Lib.hid (H6.out.next hb)
      have R7 := Lib.hid hrow
      have I7 := Lib.hid (ssAt_below I6.out hb)
      rw [HN.out] at R7
      rw [HN.out]
      clear hrow hb H6 I6
      go_wp2_with fail
      refine (same_yes _ _ n _ _ xs (by omega) _ (R7.out.isS HN.out.symm).1 I7.out).mono ?_
      rintro e w8 ⟨rfl, e1, e2, e3, e4⟩
      have H8 := Lib.hid (H7.out.asit e1 e2 e3 e4)
      clear e1 e2 e3 e4 H7 R7 I7
      go_wp2_with fail
      refine (ack_any _ H8.out.r1).mono ?_
      rintro e w9 ⟨rfl, rfl⟩
      go_wp2_with fail
      refine (ack_any _ H8.out.r2).mono ?_
      rintro e w10 ⟨rfl, rfl⟩
      go_wp2
      go_ret
      exact ⟨rfl, by rw [HB0.out]; exact H8.out.bel⟩
end Go.Proofs.Ytlmnncablfbafaa
