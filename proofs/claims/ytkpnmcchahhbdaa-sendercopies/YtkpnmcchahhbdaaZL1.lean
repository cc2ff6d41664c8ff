/- SenderAcks. -/
import Derived.Test.YtkpnmcchahhbdaaZ9
namespace Go.Proofs.Ytkpnmcchahhbdaa
open Go Go.RowKit
set_option maxRecDepth 20000
/-- What the walk is told of a row of numbers. -/
structure IsIs (w : World) (a : Option Addr) (len : Nat) (xs : List Int) : Prop where
  size : xs.length = len
  lies : 0 < len → ∃ b off, a = some ⟨b, off, none⟩ ∧ b < w.heap.size ∧ ∀ i, i < len → w.cell? ⟨b, off + i, none⟩ = some (.int .i64 (xs.getD i 0))
theorem acks_not (n : Int) (a : Option Addr) (len cap : Nat) (hc : n < 0 ∨ 16 < n ∨ 100 < len) (w : World) :
    Calls Try.prog 6 #[.int .i64 n, .slice a len cap] w fun e w' => e = .returned (.bool true) ∧ Below w.heap.size w w' := by
  have HW := Lib.hid (Below.refl w.heap.size w)
  by_cases h1 : n < 0
  · clear hc
    go_enter Try.func6, Try.ntmps6
    go_wp2_with fail
    refine (up_new 16 1125899906842624 HW.out (Nat.le_refl _)).mono ?_
    rintro e w1 ⟨rfl, h⟩
    have HB1 := Lib.hid h.bel
    clear h
    go_wp2_with fail
    refine (awake_yes _).mono ?_
    rintro e w2 ⟨rfl, hb⟩
    have HB2 := Lib.hid (HB1.out.trans (hb.mono HB1.out.size))
    clear hb HB1
    go_wp2_with fail
    refine (awake_yes _).mono ?_
    rintro e w3 ⟨rfl, hb⟩
    have HB3 := Lib.hid (HB2.out.trans (hb.mono HB2.out.size))
    clear hb HB2
    go_wp2
    go_ret
    exact ⟨rfl, HB3.out⟩
  by_cases h2 : 16 < n
  · clear hc
    go_enter Try.func6, Try.ntmps6
    go_wp2_with fail
    refine (up_new 16 1125899906842624 HW.out (Nat.le_refl _)).mono ?_
    rintro e w1 ⟨rfl, h⟩
    have HB1 := Lib.hid h.bel
    clear h
    go_wp2_with fail
    refine (awake_yes _).mono ?_
    rintro e w2 ⟨rfl, hb⟩
    have HB2 := Lib.hid (HB1.out.trans (hb.mono HB1.out.size))
    clear hb HB1
    go_wp2_with fail
    refine (awake_yes _).mono ?_
    rintro e w3 ⟨rfl, hb⟩
    have HB3 := Lib.hid (HB2.out.trans (hb.mono HB2.out.size))
    clear hb HB2
    go_wp2
    go_ret
    exact ⟨rfl, HB3.out⟩
  have h3 : 100 < len := by omega
  have q3 : decide ((100 : Int) < (len : Int)) = true := decide_eq_true (by omega)
  clear hc
  go_enter Try.func6, Try.ntmps6
  go_wp2_with fail
  refine (up_new 16 1125899906842624 HW.out (Nat.le_refl _)).mono ?_
  rintro e w1 ⟨rfl, h⟩
  have HB1 := Lib.hid h.bel
  clear h
  go_wp2_with fail
  refine (awake_yes _).mono ?_
  rintro e w2 ⟨rfl, hb⟩
  have HB2 := Lib.hid (HB1.out.trans (hb.mono HB1.out.size))
  clear hb HB1
  go_wp2_with fail
  refine (awake_yes _).mono ?_
  rintro e w3 ⟨rfl, hb⟩
  have HB3 := Lib.hid (HB2.out.trans (hb.mono HB2.out.size))
  clear hb HB2
  go_wp2
  go_ret
  exact ⟨rfl, HB3.out⟩
def x1 : ByteArray := ⟨#[120]⟩
theorem off_x {i : Nat} (hi : i < 16) : offN (winOf 16) (lastOf 1125899906842624) 0 (List.replicate i x1) = ((i + 1 : Nat) : Int) ∧ offE (winOf 16) (lastOf 1125899906842624) 0 (List.replicate i x1) = 0 ∧ offD (winOf 16) (lastOf 1125899906842624) 0 (List.replicate i x1) x1 = List.replicate (i + 1) x1 := by
  have e1 : winOf 16 = 16 := by decide
  have e2 : lastOf 1125899906842624 = 1125899906842624 := by decide
  unfold offN offE offD
  rw [e1, e2, List.length_replicate, if_neg (by omega), if_neg (by omega), if_neg (by omega), if_neg (by omega), if_neg (by omega), if_neg (by omega)]
  exact ⟨by rw [Nat.zero_add], rfl, (List.replicate_succ' ..).symm⟩
set_option maxHeartbeats 4000000 in
theorem acks_yes (N : Nat) (hN : N ≤ 16) (a : Option Addr) (len cap : Nat) (hl : len ≤ 100) (xs : List Int) (w : World) (hi : IsIs w a len xs) :
    Calls Try.prog 6 #[.int .i64 (N : Int), .slice a len cap] w fun e w' => e = .returned (.bool true) ∧ Below w.heap.size w w' := by
  have HW := Lib.hid (Below.refl w.heap.size w)
  have HI := Lib.hid hi
  have q1 : decide ((N : Int) < 0) = false := decide_eq_false (by omega)
  have q2 : decide ((16 : Int) < (N : Int)) = false := decide_eq_false (by omega)
  have q3 : decide ((100 : Int) < (len : Int)) = false := decide_eq_false (by omega)
  clear hi
  go_enter Try.func6, Try.ntmps6
  go_wp2_with fail
  refine (up_new 16 1125899906842624 HW.out (Nat.le_refl _)).mono ?_
  rintro e w1 ⟨rfl, h⟩
  generalize hbb : w.heap.size = b at h ⊢
  have HBB := Lib.hid hbb
  clear hbb
  have H1 := Lib.hid h
  clear h
  go_wp2_with fail
  refine (awake_yes _).mono ?_
  rintro e w2 ⟨rfl, hb⟩
  have H2 := Lib.hid (H1.out.next hb)
  clear hb H1 q1 q2 q3
  go_wp2_with fail
  go_loopw [33] (fun v33 wr => ∃ i : Nat, i ≤ N ∧ v33 = .int .i64 i ∧ ∃ v, Up b w wr b v (winOf 16) (lastOf 1125899906842624) 0 (List.replicate i x1)) (fun v33 _ => N - (intOf v33).toNat)
  case atStart => exact ⟨0, Nat.zero_le _, rfl, _, H2.out⟩
  case round =>
    obtain ⟨i, hi, rfl, v, hu⟩ := hrel
    have HU := Lib.hid hu
    clear hu H2
    by_cases hlt : i < N
    · obtain ⟨o1, o2, o3⟩ := off_x (i := i) (by omega)
      have HO := Lib.hid (up_off x1 (by decide) o1 o2 o3 HU.out)
      clear o1 o2 o3
      unfold x1 at HO
      go_wp2_with fail
      refine HO.out.mono ?_
      rintro e w3 ⟨rfl, v', h⟩
      have H3 := Lib.hid h
      clear h HO
      go_wp2
      go_roundw
      case rel => exact ⟨i + 1, by omega, by go_num, v', H3.out⟩
      case measure => simp [intOf]; omega
    · obtain rfl : i = N := by omega
      go_wp2_with fail
      go_loopw [40, 6] (fun v40 v6 wr => ∃ j m : Nat, j ≤ len ∧ m ≤ i ∧ v40 = .int .i64 j ∧ v6 = .int .i64 m ∧ ∃ v, Up b w wr b v (winOf 16) (lastOf 1125899906842624) m (List.replicate (i - m) x1)) (fun v40 _ _ => len - (intOf v40).toNat)
      case atStart => exact ⟨0, 0, Nat.zero_le _, Nat.zero_le _, rfl, rfl, v, HU.out⟩
      case round =>
        obtain ⟨j, m, hj, hm, rfl, rfl, v, hu⟩ := hrel
        have HU := Lib.hid hu
        clear hu
        by_cases hjl : j < len
        · obtain ⟨g, off, rfl, hg, hf⟩ := HI.out.lies (by omega)
          have c0 := (HU.out.bel.cell (p := ⟨g, off + j, none⟩) (show g < b by have := HBB.out; omega)).trans (hf j hjl)
          generalize xs.getD j 0 = A at c0
          clear hf hg
          by_cases k : (m : Int) < A ∧ A ≤ (i : Int)
          · obtain ⟨t, rfl⟩ : ∃ t : Nat, A = (m : Int) + (t : Int) := ⟨(A - m).toNat, by omega⟩
            have e0 : ackM m (List.replicate (i - m) x1).length ((m : Int) + (t : Int)) = t := by
              unfold ackM
              rw [List.length_replicate, if_neg (by omega)]
              omega
            have HO := Lib.hid (up_ack ((m : Int) + (t : Int)) e0 HU.out)
            rw [List.drop_replicate, show i - m - t = i - (m + t) by omega] at HO
            have k1 : (m : Int) < (m : Int) + (t : Int) := k.1
            have k2 := k.2
            have w1 : IntKind.i64.wrap ((m : Int) + (t : Int) - (m : Int)) = (t : Int) := by
              rw [show (m : Int) + (t : Int) - (m : Int) = (t : Int) by omega]
              exact i64_id (by omega) (by omega)
            have w2 : IntKind.i64.wrap ((i : Int) - ((m : Int) + (t : Int))) = ((i - (m + t) : Nat) : Int) := by
              rw [show (i : Int) - ((m : Int) + (t : Int)) = ((i - (m + t) : Nat) : Int) by omega]
              exact i64_id (by omega) (by omega)
            have HK := Lib.hid (show m + t ≤ i by omega)
            have HM : Hid ((m : Int) + (t : Int) = ((m + t : Nat) : Int)) := Lib.hid (by omega)
            clear e0 k HU
            generalize (m : Int) + (t : Int) = A at *
            go_wp2_with fail
            refine HO.out.mono ?_
            rintro e w3 ⟨rfl, v3, h⟩
            have H3 := Lib.hid h
            have HUN := Lib.hid (unacked_any w3 h.sn)
            rw [List.length_replicate] at HUN
            generalize ((i - (m + t) : Nat) : Int) = LL at HUN w2
            clear h HO
            go_wp2_with fail
            refine HUN.out.mono ?_
            rintro e w4 ⟨rfl, rfl⟩
            clear HUN
            go_wp2
            go_roundw
            case rel => exact ⟨j + 1, m + t, by omega, HK.out, by go_num, by rw [HM.out], v3, H3.out⟩
            case measure => simp [intOf]; omega
          · have e0 : ackM m (List.replicate (i - m) x1).length A = 0 := by
              unfold ackM
              rw [List.length_replicate, if_pos (by omega)]
            have HO := Lib.hid (up_ack A e0 HU.out)
            rw [List.drop_zero, Nat.add_zero] at HO
            have w2 : IntKind.i64.wrap ((i : Int) - (m : Int)) = ((i - m : Nat) : Int) := by
              rw [show (i : Int) - (m : Int) = ((i - m : Nat) : Int) by omega]
              exact i64_id (by omega) (by omega)
            have HK := Lib.hid hm
            clear e0 HU hm
            by_cases k1 : (m : Int) < A
            · have k2 : ¬ A ≤ (i : Int) := fun h => k ⟨k1, h⟩
              clear k
              go_wp2_with fail
              refine HO.out.mono ?_
              rintro e w3 ⟨rfl, v3, h⟩
              have H3 := Lib.hid h
              have HUN := Lib.hid (unacked_any w3 h.sn)
              rw [List.length_replicate] at HUN
              generalize ((i - m : Nat) : Int) = LL at HUN w2
              clear h HO
              go_wp2_with fail
              refine HUN.out.mono ?_
              rintro e w4 ⟨rfl, rfl⟩
              clear HUN
              go_wp2
              go_roundw
              case rel => exact ⟨j + 1, m, by omega, HK.out, by go_num, rfl, v3, H3.out⟩
              case measure => simp [intOf]; omega
            · clear k
              go_wp2_with fail
              refine HO.out.mono ?_
              rintro e w3 ⟨rfl, v3, h⟩
              have H3 := Lib.hid h
              have HUN := Lib.hid (unacked_any w3 h.sn)
              rw [List.length_replicate] at HUN
              generalize ((i - m : Nat) : Int) = LL at HUN w2
              clear h HO
              go_wp2_with fail
              refine HUN.out.mono ?_
              rintro e w4 ⟨rfl, rfl⟩
              clear HUN
              go_wp2
              go_roundw
              case rel => exact ⟨j + 1, m, by omega, HK.out, by go_num, rfl, v3, H3.out⟩
              case measure => simp [intOf]; omega
        · obtain rfl : j = len := by omega
          go_wp2
          go_ret
          exact ⟨rfl, by have := HU.out.bel; rw [← HBB.out] at this; exact this⟩
end Go.Proofs.Ytkpnmcchahhbdaa
