/- SenderFull. -/
import Derived.Test.YtkpnmcchahhbdaaZC
namespace Go.Proofs.Ytkpnmcchahhbdaa
open Go Go.RowKit
set_option maxRecDepth 20000
/-- How a sender stands within SenderFull: the two numbers lie in their box. -/
structure Fu (w wr : World) (b : Nat) (v : Value) (p q : Int) (k : Nat) (ds : List ByteArray) : Prop where
  up : Up w.heap.size w wr b v (winOf p) (lastOf q) k ds
  bx : wr.heap[w.heap.size]? = some (.cells #[.int .i64 p, .int .i64 q] 22 (0, 0))
section
variable {w wr w' : World} {b : Nat} {v : Value} {p q : Int} {k : Nat} {ds : List ByteArray}
theorem Fu.next (h : Fu w wr b v p q k ds) (hb : Below wr.heap.size wr w') : Fu w w' b v p q k ds := ⟨h.up.next hb, kept_at h.bx hb⟩
theorem Fu.b0 (h : Fu w wr b v p q k ds) : wr.cell? ⟨w.heap.size, 0, none⟩ = some (.int .i64 p) := cell_at h.bx 0 _ rfl
theorem Fu.b1 (h : Fu w wr b v p q k ds) : wr.cell? ⟨w.heap.size, 1, none⟩ = some (.int .i64 q) := cell_at h.bx 1 _ rfl
theorem Fu.k1 (h : Fu w wr b v p q k ds) {L : Int} (hL : (ds.length : Int) = L) : ¬ min (max p 1) 16 < L := by
  have := h.up.sn.ok.len
  unfold winOf at this
  omega
theorem Fu.k3 (h : Fu w wr b v p q k ds) {S : Int} (hS : ((k + ds.length : Nat) : Int) = S) : ¬ min (max q 0) 1125899906842624 < S := by
  have := h.up.sn.ok.all
  unfold lastOf at this
  omega
theorem Fu.big (h : Fu w wr b v p q k ds) : ds.length ≤ 16 ∧ ((k + ds.length : Nat) : Int) ≤ 1125899906842624 := by
  have h1 := h.up.sn.ok.len
  have h2 := h.up.sn.ok.w2
  have h3 := h.up.sn.ok.all
  have h4 := h.up.sn.ok.l2
  exact ⟨by omega, by omega⟩
theorem fu_off (x : ByteArray) (hx : x.size ≤ 1000) (h : Fu w wr b v p q k ds) :
    Calls Try.prog 12 #[.pointer (some ⟨b, 0, none⟩), .string x] wr fun e w' => ∃ v1 ds1 N E, e = .returned (.tuple #[.int .i64 N, .int .i64 E]) ∧ Fu w w' b v1 p q k ds1 ∧ ((E = 0 ∧ N = ((k + ds.length : Nat) : Int) + 1 ∧ ds1.length = ds.length + 1) ∨ (¬ E = 0 ∧ N = 0 ∧ ds1.length = ds.length)) := by
  refine (off_any x hx wr h.up.sn).mono ?_
  rintro e w1 ⟨rfl, v1, hs, hf, _⟩
  refine ⟨v1, _, _, _, rfl, ⟨h.up.fr hs hf, (Oth.ofSn h.up.sn hf _ _ _ _ h.bx (by decide) (by decide) (by decide)).trans h.bx⟩, ?_⟩
  unfold offN offE offD
  by_cases h1 : winOf p ≤ (ds.length : Int)
  · simp only [if_pos h1]
    refine .inr ⟨?_, ?_, ?_⟩ <;> first | trivial | omega | simp
  · simp only [if_neg h1]
    by_cases h2 : lastOf q ≤ ((k + ds.length : Nat) : Int)
    · simp only [if_pos h2]
      refine .inr ⟨?_, ?_, ?_⟩ <;> first | trivial | omega | simp
    · simp only [if_neg h2]
      refine .inl ⟨?_, ?_, ?_⟩ <;> first | trivial | omega | simp
theorem fu_ack (n : Int) (h : Fu w wr b v p q k ds) :
    Calls Try.prog 14 #[.pointer (some ⟨b, 0, none⟩), .int .i64 n] wr fun e w' => ∃ v1 k1 ds1 M, e = .returned (.int .i64 M) ∧ Fu w w' b v1 p q k1 ds1 ∧ ¬ M < 0 ∧ (ds1.length : Int) = (ds.length : Int) - M ∧ k1 + ds1.length = k + ds.length := by
  refine (ack_any n wr h.up.sn).mono ?_
  rintro e w1 ⟨rfl, v1, hs, hf, _⟩
  have hm := ackM_le k ds.length n
  exact ⟨v1, _, _, _, rfl, ⟨h.up.fr hs hf, (Oth.ofSn h.up.sn hf _ _ _ _ h.bx (by decide) (by decide) (by decide)).trans h.bx⟩, by omega, by rw [List.length_drop]; omega, by rw [List.length_drop]; omega⟩
theorem unacked_v {L : Int} (hL : (ds.length : Int) = L) (h : Fu w wr b v p q k ds) (h' : w'.heap = wr.heap) : Calls Try.prog 19 #[.pointer (some ⟨b, 0, none⟩)] w' fun x w2 => x = .returned (.int .i64 L) ∧ w2 = w' := hL ▸ unacked_any w' (h.up.sn.asit h')
theorem sent_v {S : Int} (hS : ((k + ds.length : Nat) : Int) = S) (h : Fu w wr b v p q k ds) (h' : w'.heap = wr.heap) : Calls Try.prog 17 #[.pointer (some ⟨b, 0, none⟩)] w' fun x w2 => x = .returned (.int .i64 S) ∧ w2 = w' := hS ▸ sent_any w' (h.up.sn.asit h')
end
set_option maxHeartbeats 4000000 in
theorem full_not (p q : Int) (a : Option Addr) (len cap : Nat) (l : List Ac) (hg : gA l) (w : World) (hi : IsAs w a len l) :
    Calls Try.prog 5 #[.agg #[.int .i64 p, .int .i64 q], .slice a len cap] w fun e w' => e = .returned (.bool true) ∧ Below w.heap.size w w' := by
  have HW := Lib.hid (Joins.below_alloc1 w (.cells #[.int .i64 p, .int .i64 q] 22))
  have HI := Lib.hid hi
  clear hi
  go_enter Try.func5, Try.ntmps5
  go_wp2_with fail
  refine (up_new p q HW.out HW.out.size).mono ?_
  rintro e w1 ⟨rfl, hu⟩
  have HB1 := Lib.hid hu.bel
  clear hu
  go_wp2_with fail
  refine (awake_yes _).mono ?_
  rintro e w3 ⟨rfl, hb⟩
  have HB3 := Lib.hid (HB1.out.trans (hb.mono HB1.out.size))
  clear hb HB1
  go_wp2_with fail
  refine (great_yes a len cap l hg _ (isAs_below HI.out HB3.out)).mono ?_
  rintro e w4 ⟨rfl, hb⟩
  have HB4 := Lib.hid (HB3.out.trans (hb.mono HB3.out.size))
  clear hb HB3
  go_wp2_with fail
  refine (awake_yes _).mono ?_
  rintro e w5 ⟨rfl, hb⟩
  have HB5 := Lib.hid (HB4.out.trans (hb.mono HB4.out.size))
  clear hb HB4
  go_wp2
  go_ret
  exact ⟨rfl, HB5.out⟩
set_option maxHeartbeats 16000000 in
theorem full_yes (p q : Int) (a : Option Addr) (len cap : Nat) (l : List Ac) (hg : ¬ gA l) (w : World) (hi : IsAs w a len l) :
    Calls Try.prog 5 #[.agg #[.int .i64 p, .int .i64 q], .slice a len cap] w fun e w' => e = .returned (.bool true) ∧ Below w.heap.size w w' := by
  have hs := hi.size
  have hlen := gA_len hg
  have HG := Lib.hid hg
  have HW := Lib.hid (Joins.below_alloc1 w (.cells #[.int .i64 p, .int .i64 q] 22))
  have HX := Lib.hid (heap_alloc_new w (.cells #[.int .i64 p, .int .i64 q] 22))
  have HI := Lib.hid hi
  clear hi hg
  go_enter Try.func5, Try.ntmps5
  go_wp2_with fail
  refine (new_any p q _).mono ?_
  rintro e w1 ⟨rfl, hsn, hb⟩
  have HF : Hid (Fu w w1 _ _ p q 0 []) := Lib.hid ⟨⟨hsn.lower HW.out.size, HW.out.trans (hb.mono HW.out.size), Nat.le_trans HW.out.size hb.size⟩, kept_at HX.out hb⟩
  clear hsn hb
  have hz : (w.alloc (.cells #[.int .i64 p, .int .i64 q] 22)).heap.size = w.heap.size + 1 := by simp
  rw [hz] at HF ⊢
  clear hz
  generalize w.heap.size + 1 = b at HF ⊢
  go_wp2_with fail
  refine (awake_yes _).mono ?_
  rintro e w3 ⟨rfl, hb⟩
  have HF3 := Lib.hid (HF.out.next hb)
  clear hb HF
  go_wp2_with fail
  refine (great_no a len cap l HG.out _ (isAs_below HI.out HF3.out.up.bel)).mono ?_
  rintro e w4 ⟨rfl, hb⟩
  have HF4 := Lib.hid (HF3.out.next hb)
  clear hb HF3
  go_wp2_with fail
  go_loopw [31] (fun v31 wr => ∃ i : Nat, i ≤ len ∧ v31 = .int .i64 i ∧ ∃ v k ds, Fu w wr b v p q k ds) (fun v31 _ => len - (intOf v31).toNat)
  case atStart => exact ⟨0, Nat.zero_le _, rfl, _, _, _, HF4.out⟩
  case round =>
    obtain ⟨i, hi, rfl, v, k, ds, hf⟩ := hrel
    clear HF4
    by_cases hlt : i < len
    · obtain ⟨g, off, rfl, c0, c1, c2⟩ := acells_of HI.out hf.up.bel (Nat.le_refl _) hlt
      have hx := gA_sh HG.out (k := i) (by omega)
      generalize l.getD i ac0 = x at *
      obtain ⟨kd, n, s⟩ := x
      simp only at c0 c1 c2 hx
      have hbg := hf.big
      have HF1 := Lib.hid (hf.next (Joins.below_alloc1 wr (.cells #[.int .i64 kd, .int .i64 n, .string s] 31)))
      clear hf
      obtain ⟨L, hL⟩ : ∃ L : Int, (ds.length : Int) = L := ⟨_, rfl⟩
      obtain ⟨S, hS⟩ : ∃ S : Int, ((k + ds.length : Nat) : Int) = S := ⟨_, rfl⟩
      have l1 : 0 ≤ L := by omega
      have l2 : L ≤ 16 := by omega
      have l3 : 0 ≤ S := by omega
      have l4 : S ≤ 1125899906842624 := by omega
      have HL := Lib.hid hL
      have HS := Lib.hid hS
      clear hL hS hbg
      go_wp2_with fail
      refine (sent_v HS.out HF1.out rfl).mono ?_
      rintro e wa ⟨rfl, rfl⟩
      go_wp2_with fail
      refine (unacked_v HL.out HF1.out rfl).mono ?_
      rintro e wb ⟨rfl, rfl⟩
      by_cases k1 : kd = 1
      · subst k1
        go_wp2_with fail
        refine (fu_off s (by omega) HF1.out).mono ?_
        rintro e w1 ⟨v1, ds1, N, E, rfl, hf, hc⟩
        have HF2 := Lib.hid hf
        clear hf HF1
        rcases hc with ⟨rfl, rfl, hd⟩ | ⟨hE, rfl, hd⟩
        · have HL1 : Hid ((ds1.length : Int) = L + 1) := Lib.hid (by rw [hd, ← HL.out]; omega)
          have HS1 : Hid (((k + ds1.length : Nat) : Int) = S + 1) := Lib.hid (by rw [hd, ← HS.out]; omega)
          rw [HS.out]
          have e1 : IntKind.i64.wrap (S + 1) = S + 1 := i64_id (by omega) (by omega)
          have e2 : IntKind.i64.wrap (L + 1) = L + 1 := i64_id (by omega) (by omega)
          have e3 : ¬ L + 1 < 0 := by omega
          clear hd
          go_wp2_with fail
          refine (sent_v HS1.out HF2.out rfl).mono ?_
          rintro e w2 ⟨rfl, rfl⟩
          go_wp2_with fail
          refine (unacked_v HL1.out HF2.out rfl).mono ?_
          rintro e w3 ⟨rfl, rfl⟩
          have b0 := HF2.out.b0
          have b1 := HF2.out.b1
          have t1 := HF2.out.k1 HL1.out
          have t3 := HF2.out.k3 HS1.out
          go_wp2_with fail
          go_quiet (first | (go_at_call 19; exact Calls.quiet_of_same (unacked_v HL1.out HF2.out rfl)) | (go_at_call 17; exact Calls.quiet_of_same (sent_v HS1.out HF2.out rfl)))
          go_wp2
          go_roundw
          case rel => exact ⟨i + 1, by omega, by go_num, _, _, _, HF2.out.next (w' := w3.drewN nq) ⟨rfl, rfl, rfl, Nat.le_refl _, fun _ _ => rfl⟩⟩
          case measure => simp [intOf]; omega
        · have HL1 : Hid ((ds1.length : Int) = L) := Lib.hid (by rw [hd]; exact HL.out)
          have HS1 : Hid (((k + ds1.length : Nat) : Int) = S) := Lib.hid (by rw [hd]; exact HS.out)
          have e3 : ¬ L < 0 := by omega
          clear hd
          go_wp2_with fail
          refine (sent_v HS1.out HF2.out rfl).mono ?_
          rintro e w2 ⟨rfl, rfl⟩
          go_wp2_with fail
          refine (unacked_v HL1.out HF2.out rfl).mono ?_
          rintro e w3 ⟨rfl, rfl⟩
          have b0 := HF2.out.b0
          have b1 := HF2.out.b1
          have t1 := HF2.out.k1 HL1.out
          have t3 := HF2.out.k3 HS1.out
          go_wp2_with fail
          go_quiet (first | (go_at_call 19; exact Calls.quiet_of_same (unacked_v HL1.out HF2.out rfl)) | (go_at_call 17; exact Calls.quiet_of_same (sent_v HS1.out HF2.out rfl)))
          go_wp2
          go_roundw
          case rel => exact ⟨i + 1, by omega, by go_num, _, _, _, HF2.out.next (w' := w3.drewN nq) ⟨rfl, rfl, rfl, Nat.le_refl _, fun _ _ => rfl⟩⟩
          case measure => simp [intOf]; omega
      by_cases k2 : kd = 2
      · subst k2
        go_wp2_with fail
        refine (fu_ack n HF1.out).mono ?_
        rintro e w1 ⟨v1, k', ds1, M, rfl, hf, hM, hd, hk⟩
        have HF2 := Lib.hid hf
        obtain ⟨L1, hL1⟩ : ∃ L1 : Int, L - M = L1 := ⟨_, rfl⟩
        have HL1 : Hid ((ds1.length : Int) = L1) := Lib.hid (by rw [hd, HL.out]; exact hL1)
        have HS1 : Hid (((k' + ds1.length : Nat) : Int) = S) := Lib.hid (by rw [hk]; exact HS.out)
        have l5 : 0 ≤ L1 := by have := HL1.out; omega
        have e2 : IntKind.i64.wrap (L - M) = L1 := by
          rw [hL1]
          exact i64_id (by omega) (by omega)
        have e3 : ¬ L1 < 0 := by omega
        clear hf HF1 hd hk hL1
        go_wp2_with fail
        refine (unacked_v HL1.out HF2.out rfl).mono ?_
        rintro e w2 ⟨rfl, rfl⟩
        go_wp2_with fail
        refine (sent_v HS1.out HF2.out rfl).mono ?_
        rintro e w3 ⟨rfl, rfl⟩
        have b0 := HF2.out.b0
        have b1 := HF2.out.b1
        have t1 := HF2.out.k1 HL1.out
        have t3 := HF2.out.k3 HS1.out
        go_wp2_with fail
        go_quiet (first | (go_at_call 19; exact Calls.quiet_of_same (unacked_v HL1.out HF2.out rfl)) | (go_at_call 17; exact Calls.quiet_of_same (sent_v HS1.out HF2.out rfl)))
        go_wp2
        go_roundw
        case rel => exact ⟨i + 1, by omega, by go_num, _, _, _, HF2.out.next (w' := w3.drewN nq) ⟨rfl, rfl, rfl, Nat.le_refl _, fun _ _ => rfl⟩⟩
        case measure => simp [intOf]; omega
      have e3 : ¬ L < 0 := by omega
      have b0 := HF1.out.b0
      have b1 := HF1.out.b1
      have t1 := HF1.out.k1 HL.out
      have t3 := HF1.out.k3 HS.out
      go_wp2_with fail
      go_quiet (first | (go_at_call 19; exact Calls.quiet_of_same (unacked_v HL.out HF1.out rfl)) | (go_at_call 17; exact Calls.quiet_of_same (sent_v HS.out HF1.out rfl)))
      go_wp2
      go_roundw
      case rel => exact ⟨i + 1, by omega, by go_num, _, _, _, HF1.out.next (w' := (wr.alloc _).drewN nq) ⟨rfl, rfl, rfl, Nat.le_refl _, fun _ _ => rfl⟩⟩
      case measure => simp [intOf]; omega
    · obtain rfl : i = len := by omega
      have HB := Lib.hid hf.up.bel
      clear hf
      go_wp2
      go_ret
      exact ⟨rfl, HB.out⟩
end Go.Proofs.Ytkpnmcchahhbdaa
