/- ReceiverRoom. -/
import Derived.Test.YtlmnncablfbafaaE6
namespace Go.Proofs.Ytlmnncablfbafaa
open Go Go.RowKit
set_option maxRecDepth 20000
def x1 : ByteArray := ⟨#[120]⟩
def y1 : ByteArray := ⟨#[121]⟩
def z1 : ByteArray := ⟨#[122]⟩
theorem hear_x {R i : Nat} (hi : i < R) : decide (takes (R : Int) 0 (List.replicate i x1) ((i + 1 : Nat) : Int)) = true ∧ hearD (R : Int) 0 (List.replicate i x1) ((i + 1 : Nat) : Int) x1 = List.replicate (i + 1) x1 := by
  have h : takes (R : Int) 0 (List.replicate i x1) ((i + 1 : Nat) : Int) := by unfold takes; rw [List.length_replicate]; exact ⟨by omega, by omega⟩
  unfold hearD
  rw [if_pos h]
  exact ⟨decide_eq_true h, (List.replicate_succ' ..).symm⟩
theorem hear_full_x {R : Nat} : decide (takes (R : Int) 0 (List.replicate R x1) ((R + 1 : Nat) : Int)) = false ∧ hearD (R : Int) 0 (List.replicate R x1) ((R + 1 : Nat) : Int) x1 = List.replicate R x1 := by
  have h : ¬ takes (R : Int) 0 (List.replicate R x1) ((R + 1 : Nat) : Int) := by unfold takes; rw [List.length_replicate]; omega
  unfold hearD
  rw [if_neg h]
  exact ⟨decide_eq_false h, rfl⟩
theorem hear_y (R1 : Nat) (y : ByteArray) : decide (takes ((R1 + 1 : Nat) : Int) (0 + 1) (List.replicate R1 x1) ((R1 + 2 : Nat) : Int)) = true ∧ hearD ((R1 + 1 : Nat) : Int) (0 + 1) (List.replicate R1 x1) ((R1 + 2 : Nat) : Int) y = List.replicate R1 x1 ++ [y] := by
  have h : takes ((R1 + 1 : Nat) : Int) (0 + 1) (List.replicate R1 x1) ((R1 + 2 : Nat) : Int) := by unfold takes; rw [List.length_replicate]; exact ⟨by omega, by omega⟩
  unfold hearD
  rw [if_pos h]
  exact ⟨decide_eq_true h, rfl⟩
theorem hear_z (R1 : Nat) (y z : ByteArray) : decide (takes ((R1 + 1 : Nat) : Int) (0 + 1) (List.replicate R1 x1 ++ [y]) ((R1 + 3 : Nat) : Int)) = false ∧ hearD ((R1 + 1 : Nat) : Int) (0 + 1) (List.replicate R1 x1 ++ [y]) ((R1 + 3 : Nat) : Int) z = List.replicate R1 x1 ++ [y] := by
  have h : ¬ takes ((R1 + 1 : Nat) : Int) (0 + 1) (List.replicate R1 x1 ++ [y]) ((R1 + 3 : Nat) : Int) := by unfold takes; rw [List.length_append, List.length_replicate, List.length_singleton]; omega
  unfold hearD
  rw [if_neg h]
  exact ⟨decide_eq_false h, rfl⟩
theorem room_not (room n : Int) (hc : n < 0 ∨ 100 < n) (w : World) :
    Calls Try.prog 5 #[.int .i64 room, .int .i64 n] w fun e w' => e = .returned (.bool true) ∧ Below w.heap.size w w' := by
  have HW := Lib.hid (Below.refl w.heap.size w)
  by_cases h1 : n < 0
  · clear hc
    go_enter Try.func5, Try.ntmps5
    go_wp2_with fail
    refine (ur_new room rfl HW.out (Nat.le_refl _)).mono ?_
    rintro e w1 ⟨rfl, h, _⟩
    have HB1 := Lib.hid h.bel
    clear h
    go_wp2_with fail
    refine (awake_yes _).mono ?_
    rintro e w2 ⟨rfl, hb⟩
    have HB2 := Lib.hid (HB1.out.trans (hb.mono HB1.out.size))
    clear hb HB1
    go_wp2_with fail
    refine (awake_yes _).mono ?_
    rintro e w3 ⟨rfl, hb⟩
    have HB3 := Lib.hid (HB2.out.trans (hb.mono HB2.out.size))
    clear hb HB2
    go_wp2
    go_ret
    exact ⟨rfl, HB3.out⟩
  have h2 : 100 < n := by omega
  clear hc
  go_enter Try.func5, Try.ntmps5
  go_wp2_with fail
  refine (ur_new room rfl HW.out (Nat.le_refl _)).mono ?_
  rintro e w1 ⟨rfl, h, _⟩
  have HB1 := Lib.hid h.bel
  clear h
  go_wp2_with fail
  refine (awake_yes _).mono ?_
  rintro e w2 ⟨rfl, hb⟩
  have HB2 := Lib.hid (HB1.out.trans (hb.mono HB1.out.size))
  clear hb HB1
  go_wp2_with fail
  refine (awake_yes _).mono ?_
  rintro e w3 ⟨rfl, hb⟩
  have HB3 := Lib.hid (HB2.out.trans (hb.mono HB2.out.size))
  clear hb HB2
  go_wp2
  go_ret
  exact ⟨rfl, HB3.out⟩
set_option maxHeartbeats 4000000 in
theorem room_few (room : Int) (N R : Nat) (hN : N ≤ 100) (hR : roomOf room = (R : Int)) (hNR : N < R) (hR16 : R ≤ 16) (w : World) :
    Calls Try.prog 5 #[.int .i64 room, .int .i64 (N : Int)] w fun e w' => e = .returned (.bool true) ∧ Below w.heap.size w w' := by
  have HW := Lib.hid (Below.refl w.heap.size w)
  have q1 : decide ((N : Int) < 0) = false := decide_eq_false (by omega)
  have q2 : decide ((100 : Int) < (N : Int)) = false := decide_eq_false (by omega)
  have hm : min (max room 1) 16 = (R : Int) := hR
  go_enter Try.func5, Try.ntmps5
  go_wp2_with fail
  refine (ur_new room hR HW.out (Nat.le_refl _)).mono ?_
  rintro e w1 ⟨rfl, h, _⟩
  generalize hbb : w.heap.size = b at h ⊢
  have HBB := Lib.hid hbb
  clear hbb
  have H1 := Lib.hid h
  clear h
  go_wp2_with fail
  refine (awake_yes _).mono ?_
  rintro e w2 ⟨rfl, hb⟩
  have H2 := Lib.hid (H1.out.next hb)
  clear hb H1 q1 q2
  go_wp2_with fail
  clear hm hR
  go_loopw [31] (fun v31 wr => ∃ i : Nat, i ≤ N ∧ v31 = .int .i64 i ∧ ∃ L, Ur b w wr b (R : Int) 0 (List.replicate i x1) L) (fun v31 _ => N - (intOf v31).toNat)
  case atStart => exact ⟨0, Nat.zero_le _, rfl, _, H2.out⟩
  case round =>
    obtain ⟨i, hi, rfl, L, hu⟩ := hrel
    have HU := Lib.hid hu
    clear hu H2
    by_cases hlt : i < N
    · obtain ⟨t1, t2⟩ := hear_x (R := R) (i := i) (by omega)
      have HO := Lib.hid (ur_hear ((i + 1 : Nat) : Int) x1 (by decide) t1 t2 (by rw [List.length_replicate]; omega) HU.out)
      have e1 : IntKind.i64.wrap ((i : Int) + 1) = ((i + 1 : Nat) : Int) := by
        rw [show (i : Int) + 1 = ((i + 1 : Nat) : Int) by omega]
        exact i64_id (by omega) (by omega)
      have p1 : decide ((i : Int) < (R : Int)) = true := decide_eq_true (by omega)
      have p2 : decide ((R : Int) ≤ (i : Int)) = false := decide_eq_false (by omega)
      have p3 : decide ((i : Int) < (N : Int)) = true := decide_eq_true (by omega)
      have p4 : ¬ (R : Int) ≤ (i : Int) := by omega
      clear t1 t2
      unfold x1 at HO
      generalize hQ : ((i + 1 : Nat) : Int) = Q at *
      have HQ := Lib.hid hQ
      clear hQ
      go_wp2_with fail
      refine HO.out.mono ?_
      rintro e w3 ⟨rfl, ⟨L3, h⟩, _⟩
      have H3 := Lib.hid h
      clear h HO HU
      go_wp2
      have hq := HQ.out
      subst hq
      go_roundw
      case rel => exact ⟨i + 1, by omega, by go_num, _, H3.out⟩
      case measure => simp [intOf]; omega
    · obtain rfl : i = N := by omega
      have m1 : min (i : Int) (R : Int) = (i : Int) := by omega
      have m2 : (i : Int) < (R : Int) := by omega
      have HA := Lib.hid (ack_any _ HU.out.rv)
      have HWT := Lib.hid (waiting_any _ HU.out.rv)
      rw [List.length_replicate, Nat.zero_add] at HA
      rw [List.length_replicate] at HWT
      go_wp2_with fail
      refine HWT.out.mono ?_
      rintro e w4 ⟨rfl, rfl⟩
      clear HWT
      go_wp2_with fail
      refine HA.out.mono ?_
      rintro e w5 ⟨rfl, rfl⟩
      clear HA
      go_wp2
      go_ret
      exact ⟨rfl, by first | exact HU.out.bel | (rw [HBB.out]; exact HU.out.bel)⟩
set_option maxHeartbeats 4000000 in
theorem room_just (room : Int) (N R : Nat) (hN : N ≤ 100) (hR : roomOf room = (R : Int)) (hNR : N = R) (hR1 : 1 ≤ R) (hR16 : R ≤ 16) (w : World) :
    Calls Try.prog 5 #[.int .i64 room, .int .i64 (N : Int)] w fun e w' => e = .returned (.bool true) ∧ Below w.heap.size w w' := by
  have HW := Lib.hid (Below.refl w.heap.size w)
  have q1 : decide ((N : Int) < 0) = false := decide_eq_false (by omega)
  have q2 : decide ((100 : Int) < (N : Int)) = false := decide_eq_false (by omega)
  have hm : min (max room 1) 16 = (R : Int) := hR
  go_enter Try.func5, Try.ntmps5
  go_wp2_with fail
  refine (ur_new room hR HW.out (Nat.le_refl _)).mono ?_
  rintro e w1 ⟨rfl, h, _⟩
  generalize hbb : w.heap.size = b at h ⊢
  have HBB := Lib.hid hbb
  clear hbb
  have H1 := Lib.hid h
  clear h
  go_wp2_with fail
  refine (awake_yes _).mono ?_
  rintro e w2 ⟨rfl, hb⟩
  have H2 := Lib.hid (H1.out.next hb)
  clear hb H1 q1 q2
  go_wp2_with fail
  clear hm hR
  go_loopw [31] (fun v31 wr => ∃ i : Nat, i ≤ N ∧ v31 = .int .i64 i ∧ ∃ L, Ur b w wr b (R : Int) 0 (List.replicate i x1) L) (fun v31 _ => N - (intOf v31).toNat)
  case atStart => exact ⟨0, Nat.zero_le _, rfl, _, H2.out⟩
  case round =>
    obtain ⟨i, hi, rfl, L, hu⟩ := hrel
    have HU := Lib.hid hu
    clear hu H2
    by_cases hlt : i < N
    · obtain ⟨t1, t2⟩ := hear_x (R := R) (i := i) (by omega)
      have HO := Lib.hid (ur_hear ((i + 1 : Nat) : Int) x1 (by decide) t1 t2 (by rw [List.length_replicate]; omega) HU.out)
      have e1 : IntKind.i64.wrap ((i : Int) + 1) = ((i + 1 : Nat) : Int) := by
        rw [show (i : Int) + 1 = ((i + 1 : Nat) : Int) by omega]
        exact i64_id (by omega) (by omega)
      have p1 : decide ((i : Int) < (R : Int)) = true := decide_eq_true (by omega)
      have p2 : decide ((R : Int) ≤ (i : Int)) = false := decide_eq_false (by omega)
      have p3 : decide ((i : Int) < (N : Int)) = true := decide_eq_true (by omega)
      have p4 : ¬ (R : Int) ≤ (i : Int) := by omega
      clear t1 t2
      unfold x1 at HO
      generalize hQ : ((i + 1 : Nat) : Int) = Q at *
      have HQ := Lib.hid hQ
      clear hQ
      go_wp2_with fail
      refine HO.out.mono ?_
      rintro e w3 ⟨rfl, ⟨L3, h⟩, _⟩
      have H3 := Lib.hid h
      clear h HO HU
      go_wp2
      have hq := HQ.out
      subst hq
      go_roundw
      case rel => exact ⟨i + 1, by omega, by go_num, _, H3.out⟩
      case measure => simp [intOf]; omega
    · obtain rfl : i = R := by omega
      have p3 : decide ((i : Int) < (N : Int)) = false := decide_eq_false (by omega)
      have p5 : ¬ (i : Int) < (N : Int) := by omega
      have m1 : min (N : Int) (i : Int) = (i : Int) := by omega
      have m2 : ¬ (N : Int) < (i : Int) := by omega
      obtain ⟨R1, rfl⟩ : ∃ R1, i = R1 + 1 := ⟨i - 1, by omega⟩
      have HA := Lib.hid (ack_any _ HU.out.rv)
      have HWT := Lib.hid (waiting_any _ HU.out.rv)
      rw [List.length_replicate, Nat.zero_add] at HA
      rw [List.length_replicate] at HWT
      have HP := Lib.hid (ur_pop (w := wr) x1 (by rw [List.length_replicate]; omega) HU.out)
      have w1' : IntKind.i64.wrap (((R1 + 1 : Nat) : Int) + 1) = ((R1 + 2 : Nat) : Int) := by
        rw [show ((R1 + 1 : Nat) : Int) + 1 = ((R1 + 2 : Nat) : Int) by omega]
        exact i64_id (by omega) (by omega)
      have w2' : IntKind.i64.wrap (((R1 + 1 : Nat) : Int) + 2) = ((R1 + 3 : Nat) : Int) := by
        rw [show ((R1 + 1 : Nat) : Int) + 2 = ((R1 + 3 : Nat) : Int) by omega]
        exact i64_id (by omega) (by omega)
      obtain ⟨t1, t2⟩ := hear_y R1 y1
      obtain ⟨t3, t4⟩ := hear_z R1 y1 z1
      have T1 := Lib.hid t1
      have T2 := Lib.hid t2
      have T3 := Lib.hid t3
      have T4 := Lib.hid t4
      clear t1 t2 t3 t4 HU
      have HRB : Hid (R1 ≤ 15) := Lib.hid (by omega)
      generalize hq0 : ((R1 + 1 : Nat) : Int) = Q0 at *
      generalize hq1 : ((R1 + 2 : Nat) : Int) = Q1 at *
      generalize hq2 : ((R1 + 3 : Nat) : Int) = Q2 at *
      have HQ0 := Lib.hid hq0
      clear hq0 hq1 hq2
      go_wp2_with fail
      refine HWT.out.mono ?_
      rintro e w4 ⟨rfl, rfl⟩
      clear HWT
      go_wp2_with fail
      refine HA.out.mono ?_
      rintro e w5 ⟨rfl, rfl⟩
      clear HA
      go_wp2_with fail
      refine HP.out.mono ?_
      rintro e w6 ⟨rfl, ⟨L6, h⟩, _⟩
      have H6 := Lib.hid h
      clear h HP
      go_wp2_with fail
      refine (ur_hear Q1 y1 (by decide) T1.out T2.out (by have := HRB.out; rw [List.length_replicate]; omega) H6.out).mono ?_
      rintro e w7 ⟨rfl, ⟨L7, h⟩, _⟩
      have H7 := Lib.hid h
      clear h H6
      go_wp2_with fail
      refine (ur_hear Q2 z1 (by decide) T3.out T4.out (by have := HRB.out; rw [List.length_append, List.length_replicate, List.length_singleton]; omega) H7.out).mono ?_
      rintro e w8 ⟨rfl, ⟨L8, h⟩, _⟩
      have H8 := Lib.hid h
      have HW8 := Lib.hid (waiting_any _ h.rv)
      rw [List.length_append, List.length_replicate, List.length_singleton, HQ0.out] at HW8
      clear h H7
      go_wp2_with fail
      refine HW8.out.mono ?_
      rintro e w9 ⟨rfl, rfl⟩
      go_wp2
      go_ret
      exact ⟨rfl, by first | exact H8.out.bel | (rw [HBB.out]; exact H8.out.bel)⟩
set_option maxHeartbeats 4000000 in
theorem room_many (room : Int) (N R : Nat) (hN : N ≤ 100) (hR : roomOf room = (R : Int)) (hNR : R < N) (hR1 : 1 ≤ R) (hR16 : R ≤ 16) (w : World) :
    Calls Try.prog 5 #[.int .i64 room, .int .i64 (N : Int)] w fun e w' => e = .returned (.bool true) ∧ Below w.heap.size w w' := by
  have HW := Lib.hid (Below.refl w.heap.size w)
  have q1 : decide ((N : Int) < 0) = false := decide_eq_false (by omega)
  have q2 : decide ((100 : Int) < (N : Int)) = false := decide_eq_false (by omega)
  have hm : min (max room 1) 16 = (R : Int) := hR
  go_enter Try.func5, Try.ntmps5
  go_wp2_with fail
  refine (ur_new room hR HW.out (Nat.le_refl _)).mono ?_
  rintro e w1 ⟨rfl, h, _⟩
  generalize hbb : w.heap.size = b at h ⊢
  have HBB := Lib.hid hbb
  clear hbb
  have H1 := Lib.hid h
  clear h
  go_wp2_with fail
  refine (awake_yes _).mono ?_
  rintro e w2 ⟨rfl, hb⟩
  have H2 := Lib.hid (H1.out.next hb)
  clear hb H1 q1 q2
  go_wp2_with fail
  clear hm hR
  go_loopw [31] (fun v31 wr => ∃ i : Nat, i ≤ R ∧ v31 = .int .i64 i ∧ ∃ L, Ur b w wr b (R : Int) 0 (List.replicate i x1) L) (fun v31 _ => N - (intOf v31).toNat)
  case atStart => exact ⟨0, Nat.zero_le _, rfl, _, H2.out⟩
  case round =>
    obtain ⟨i, hi, rfl, L, hu⟩ := hrel
    have HU := Lib.hid hu
    clear hu H2
    by_cases hlt : i < R
    · obtain ⟨t1, t2⟩ := hear_x (R := R) (i := i) (by omega)
      have HO := Lib.hid (ur_hear ((i + 1 : Nat) : Int) x1 (by decide) t1 t2 (by rw [List.length_replicate]; omega) HU.out)
      have e1 : IntKind.i64.wrap ((i : Int) + 1) = ((i + 1 : Nat) : Int) := by
        rw [show (i : Int) + 1 = ((i + 1 : Nat) : Int) by omega]
        exact i64_id (by omega) (by omega)
      have p1 : decide ((i : Int) < (R : Int)) = true := decide_eq_true (by omega)
      have p2 : decide ((R : Int) ≤ (i : Int)) = false := decide_eq_false (by omega)
      have p3 : decide ((i : Int) < (N : Int)) = true := decide_eq_true (by omega)
      have p4 : ¬ (R : Int) ≤ (i : Int) := by omega
      clear t1 t2
      unfold x1 at HO
      generalize hQ : ((i + 1 : Nat) : Int) = Q at *
      have HQ := Lib.hid hQ
      clear hQ
      go_wp2_with fail
      refine HO.out.mono ?_
      rintro e w3 ⟨rfl, ⟨L3, h⟩, _⟩
      have H3 := Lib.hid h
      clear h HO HU
      go_wp2
      have hq := HQ.out
      subst hq
      go_roundw
      case rel => exact ⟨i + 1, by omega, by go_num, _, H3.out⟩
      case measure => simp [intOf]; omega
    · obtain rfl : i = R := by omega
      obtain ⟨t1, t2⟩ := hear_full_x (R := i)
      have HO := Lib.hid (ur_hear ((i + 1 : Nat) : Int) x1 (by decide) t1 t2 (by rw [List.length_replicate]; omega) HU.out)
      have e1 : IntKind.i64.wrap ((i : Int) + 1) = ((i + 1 : Nat) : Int) := by
        rw [show (i : Int) + 1 = ((i + 1 : Nat) : Int) by omega]
        exact i64_id (by omega) (by omega)
      have p3 : decide ((i : Int) < (N : Int)) = true := decide_eq_true (by omega)
      have p5 : (i : Int) < (N : Int) := by omega
      clear t1 t2
      unfold x1 at HO
      obtain ⟨Q, hQ⟩ : ∃ Q : Int, ((i + 1 : Nat) : Int) = Q := ⟨_, rfl⟩
      rw [hQ] at e1 HO
      clear hQ
      go_wp2_with fail
      refine HO.out.mono ?_
      rintro e w3 ⟨rfl, ⟨L3, h⟩, _⟩
      have H3 : Hid (Ur _ _ w3 _ _ _ (List.replicate i x1) L3) := Lib.hid h
      clear h HO HU e1
      have m1 : min (N : Int) (i : Int) = (i : Int) := by omega
      have m2 : ¬ (N : Int) < (i : Int) := by omega
      obtain ⟨R1, rfl⟩ : ∃ R1, i = R1 + 1 := ⟨i - 1, by omega⟩
      have HA := Lib.hid (ack_any _ H3.out.rv)
      have HWT := Lib.hid (waiting_any _ H3.out.rv)
      rw [List.length_replicate, Nat.zero_add] at HA
      rw [List.length_replicate] at HWT
      have HP := Lib.hid (ur_pop (w := w3) x1 (by rw [List.length_replicate]; omega) H3.out)
      have w1' : IntKind.i64.wrap (((R1 + 1 : Nat) : Int) + 1) = ((R1 + 2 : Nat) : Int) := by
        rw [show ((R1 + 1 : Nat) : Int) + 1 = ((R1 + 2 : Nat) : Int) by omega]
        exact i64_id (by omega) (by omega)
      have w2' : IntKind.i64.wrap (((R1 + 1 : Nat) : Int) + 2) = ((R1 + 3 : Nat) : Int) := by
        rw [show ((R1 + 1 : Nat) : Int) + 2 = ((R1 + 3 : Nat) : Int) by omega]
        exact i64_id (by omega) (by omega)
      obtain ⟨t1, t2⟩ := hear_y R1 y1
      obtain ⟨t3, t4⟩ := hear_z R1 y1 z1
      have T1 := Lib.hid t1
      have T2 := Lib.hid t2
      have T3 := Lib.hid t3
      have T4 := Lib.hid t4
      clear t1 t2 t3 t4 H3
      have HRB : Hid (R1 ≤ 15) := Lib.hid (by omega)
      generalize hq0 : ((R1 + 1 : Nat) : Int) = Q0 at *
      generalize hq1 : ((R1 + 2 : Nat) : Int) = Q1 at *
      generalize hq2 : ((R1 + 3 : Nat) : Int) = Q2 at *
      have HQ0 := Lib.hid hq0
      clear hq0 hq1 hq2
      go_wp2_with fail
      refine HWT.out.mono ?_
      rintro e w4 ⟨rfl, rfl⟩
      clear HWT
      go_wp2_with fail
      refine HA.out.mono ?_
      rintro e w5 ⟨rfl, rfl⟩
      clear HA
      go_wp2_with fail
      refine HP.out.mono ?_
      rintro e w6 ⟨rfl, ⟨L6, h⟩, _⟩
      have H6 := Lib.hid h
      clear h HP
      go_wp2_with fail
      refine (ur_hear Q1 y1 (by decide) T1.out T2.out (by have := HRB.out; rw [List.length_replicate]; omega) H6.out).mono ?_
      rintro e w7 ⟨rfl, ⟨L7, h⟩, _⟩
      have H7 := Lib.hid h
      clear h H6
      go_wp2_with fail
      refine (ur_hear Q2 z1 (by decide) T3.out T4.out (by have := HRB.out; rw [List.length_append, List.length_replicate, List.length_singleton]; omega) H7.out).mono ?_
      rintro e w8 ⟨rfl, ⟨L8, h⟩, _⟩
      have H8 := Lib.hid h
      have HW8 := Lib.hid (waiting_any _ h.rv)
      rw [List.length_append, List.length_replicate, List.length_singleton, HQ0.out] at HW8
      clear h H7
      go_wp2_with fail
      refine HW8.out.mono ?_
      rintro e w9 ⟨rfl, rfl⟩
      go_wp2
      go_ret
      exact ⟨rfl, by first | exact H8.out.bel | (rw [HBB.out]; exact H8.out.bel)⟩
end Go.Proofs.Ytlmnncablfbafaa
