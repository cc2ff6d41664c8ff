/- ReceiverOnce. -/
import Derived.Test.YtlmnncablfbafaaE6
import Derived.Laws.BytesArg
namespace Go.Proofs.Ytlmnncablfbafaa
open Go Go.RowKit
set_option maxRecDepth 20000
/-- What the walk is told of a row of numbers. -/
structure IsIs (w : World) (a : Option Addr) (len : Nat) (xs : List Int) : Prop where
  size : xs.length = len
  lies : 0 < len → ∃ b off, a = some ⟨b, off, none⟩ ∧ b < w.heap.size ∧ ∀ i, i < len → w.cell? ⟨b, off + i, none⟩ = some (.int .i64 (xs.getD i 0))
/-- The text of a number. -/
def tx (n : Int) : ByteArray := strOfNums [n % 256, n / 256 % 256]
theorem tx_size (n : Int) : (tx n).size = 2 := strOfNums_size _
/-- The texts of the numbers behind k. -/
def txs (k m : Nat) : List ByteArray := (List.range m).map fun j => tx ((k + 1 + j : Nat) : Int)
theorem txs_len (k m : Nat) : (txs k m).length = m := by simp [txs]
theorem txs_more (k m : Nat) : txs k m ++ [tx ((k + m + 1 : Nat) : Int)] = txs k (m + 1) := by
  unfold txs
  rw [List.range_succ, List.map_append, List.map_singleton, show k + 1 + m = k + m + 1 by omega]
theorem txs_less (k m : Nat) : txs k (m + 1) = tx ((k + 1 : Nat) : Int) :: txs (k + 1) m := by
  unfold txs
  rw [List.range_succ_eq_map, List.map_cons, List.map_map]
  refine congrArg (List.cons _) (List.map_congr_left fun j _ => ?_)
  show tx ((k + 1 + (j + 1) : Nat) : Int) = tx ((k + 1 + 1 + j : Nat) : Int)
  rw [show k + 1 + (j + 1) = k + 1 + 1 + j by omega]
theorem txs_get (k m j : Nat) (hj : j < m) : (txs k m).getD j emp = tx ((k + 1 + j : Nat) : Int) := by
  simp [txs, List.getD_eq_getElem?_getD, hj]
theorem once_hear (room : Int) (k m : Nat) (n : Int) : ∃ m', m' ≤ m + 1 ∧ hearD room k (txs k m) n (tx n) = txs k m' := by
  unfold hearD
  split
  · rename_i h
    refine ⟨m + 1, Nat.le_refl _, ?_⟩
    obtain ⟨e, _⟩ := h
    rw [txs_len] at e
    rw [e, txs_more]
  · exact ⟨m, by omega, rfl⟩
/-- Two bytes laid as a row are the text. -/
theorem conv_tx (w : World) (n : Int) : (convert 43 9 (.slice (some ⟨w.heap.size, 0, none⟩) 2 2)).run Try.prog (w.alloc (.cells #[.int .u8 (n % 256), .int .u8 (n / 256 % 256)] 5)) = .ok (.string (tx n)) (w.alloc (.cells #[.int .u8 (n % 256), .int .u8 (n / 256 % 256)] 5)) :=
  run_convert_bytes_arg (P := Try.prog) _ 43 5 Try.underlying43 Try.underlying5 w.heap.size 0 2 2 [n % 256, n / 256 % 256] rfl (fun i hi => by
    rcases (show i = 0 ∨ i = 1 by omega) with rfl | rfl
    · exact cell_at (new_at rfl) 0 _ rfl
    · exact cell_at (new_at rfl) 1 _ rfl) 9 Try.underlying9
set_option maxHeartbeats 4000000 in
theorem once_not (rm : Int) (a : Option Addr) (len cap : Nat) (hl : 300 < len) (w : World) :
    Calls Try.prog 4 #[.int .i64 rm, .slice a len cap] w fun e w' => e = .returned (.bool true) ∧ Below w.heap.size w w' := by
  have HW := Lib.hid (Below.refl w.heap.size w)
  have q : decide ((300 : Int) < (len : Int)) = true := decide_eq_true (by omega)
  go_enter Try.func4, Try.ntmps4
  go_wp2_with fail
  refine (ur_new rm rfl HW.out (Nat.le_refl _)).mono ?_
  rintro e w1 ⟨rfl, h, _⟩
  have HB2 := Lib.hid h.bel
  clear h
  go_wp2_with fail
  refine (awake_yes _).mono ?_
  rintro e w3 ⟨rfl, hb⟩
  have HB3 := Lib.hid (HB2.out.trans (hb.mono HB2.out.size))
  clear hb HB2
  go_wp2_with fail
  refine (awake_yes _).mono ?_
  rintro e w4 ⟨rfl, hb⟩
  have HB4 := Lib.hid (HB3.out.trans (hb.mono HB3.out.size))
  clear hb HB3
  go_wp2
  go_ret
  exact ⟨rfl, HB4.out⟩
set_option maxHeartbeats 16000000 in
theorem once_yes (rm : Int) (a : Option Addr) (len cap : Nat) (hl : len ≤ 300) (xs : List Int) (w : World) (hi : IsIs w a len xs) :
    Calls Try.prog 4 #[.int .i64 rm, .slice a len cap] w fun e w' => e = .returned (.bool true) ∧ Below w.heap.size w w' := by
  have HW := Lib.hid (Below.refl w.heap.size w)
  have HI := Lib.hid hi
  have q : decide ((300 : Int) < (len : Int)) = false := decide_eq_false (by omega)
  clear hi
  go_enter Try.func4, Try.ntmps4
  go_wp2_with fail
  obtain ⟨room, hroom⟩ : ∃ r, roomOf rm = r := ⟨_, rfl⟩
  refine (ur_new rm (r := room) hroom HW.out (Nat.le_refl _)).mono ?_
  rintro e w1 ⟨rfl, h1, _⟩
  generalize hB0 : w.heap.size = B0 at *
  have HB0 := Lib.hid hB0
  have HU1 := Lib.hid h1
  clear h1 hB0 HW hroom
  go_wp2_with fail
  refine (awake_yes _).mono ?_
  rintro e w2 ⟨rfl, hb⟩
  have HU2 := Lib.hid (HU1.out.next hb)
  clear hb HU1
  go_wp2_with fail
  go_loopw [29, 6] (fun v29 v6 wr => ∃ i : Nat, i ≤ len ∧ v29 = .int .i64 i ∧ ∃ k m L, v6 = .int .i64 ((k : Nat) : Int) ∧ Ur B0 w wr B0 room k (txs k m) L ∧ k + m ≤ i) (fun v29 _ _ => len - (intOf v29).toNat)
  case atStart => exact ⟨0, Nat.zero_le _, rfl, 0, 0, _, rfl, HU2.out, Nat.le_refl _⟩
  case round =>
    obtain ⟨i, hi, rfl, k, m, L, rfl, hu, hfew⟩ := hrel
    clear HU2
    by_cases hlt : i < len
    · obtain ⟨g, off, rfl, hgl, hcell⟩ := HI.out.lies (by omega)
      have c0 := (hu.bel.cell (p := ⟨g, off + i, none⟩) (by rw [← HB0.out]; exact hgl)).trans (hcell i (by omega))
      have HU := Lib.hid (hu.next (Joins.below_alloc1 wr (.cells #[.int .u8 (xs.getD i 0 % 256), .int .u8 (xs.getD i 0 / 256 % 256)] 5)))
      clear hu hcell hgl
      generalize xs.getD i 0 = n at *
      have hconv := conv_tx wr n
      obtain ⟨m', hm', hD⟩ := once_hear room k m n
      have HD := Lib.hid hD
      have HM := Lib.hid hm'
      have HFEW := Lib.hid hfew
      clear hD hm' hfew
      go_wp2_with fail
      refine (ur_hear n (tx n) (by rw [tx_size]; decide) rfl HD.out (by rw [txs_len]; have := HFEW.out; omega) HU.out).mono ?_
      rintro e w3 ⟨rfl, ⟨L3, h⟩, _⟩
      have H3 := Lib.hid h
      clear h HU hconv c0 HD
      by_cases hz : (n.tmod 3 != 0) = false
      · cases m' with
        | zero =>
          have HP := Lib.hid (pop_none w3 (show Rv B0 w3 B0 room k [] L3 from H3.out.rv))
          unfold emp at HP
          go_wp2_with fail
          refine HP.out.mono ?_
          rintro e w4 ⟨rfl, rfl⟩
          clear HP
          go_wp2
          go_roundw
          case rel => exact ⟨i + 1, by omega, by go_num, k, 0, _, rfl, H3.out, by have := HFEW.out; omega⟩
          case measure => simp [intOf]; omega
        | succ m1 =>
          have h3 := H3.out
          rw [txs_less] at h3
          have HP := Lib.hid (ur_pop (w := w3) (tx ((k + 1 : Nat) : Int)) (by rw [txs_len]; have := HFEW.out; have := HM.out; omega) h3)
          clear h3 H3
          have e1 : IntKind.i64.wrap ((k : Int) + 1) = ((k + 1 : Nat) : Int) := by
            rw [show (k : Int) + 1 = ((k + 1 : Nat) : Int) by omega]
            exact i64_id (by omega) (by have := HFEW.out; omega)
          obtain ⟨Q, hQ⟩ : ∃ Q : Int, ((k + 1 : Nat) : Int) = Q := ⟨_, rfl⟩
          rw [hQ] at HP e1
          have HQ := Lib.hid hQ
          clear hQ
          go_wp2_with fail
          refine HP.out.mono ?_
          rintro e w4 ⟨rfl, ⟨L4, h⟩, _⟩
          have H4 := Lib.hid (h.next (Joins.below_alloc1 w4 (.cells #[.int .u8 (Q % 256), .int .u8 (Q / 256 % 256)] 5)))
          have hconv := conv_tx w4 Q
          clear h HP
          have q3 := eq_yes (tx Q)
          go_wp2
          have hq := HQ.out
          subst hq
          go_roundw
          case rel => exact ⟨i + 1, by omega, by go_num, k + 1, m1, _, rfl, H4.out, by have := HFEW.out; have := HM.out; omega⟩
          case measure => simp [intOf]; omega
      · have hz : (n.tmod 3 != 0) = true := by simpa using hz
        go_wp2
        go_roundw
        case rel => exact ⟨i + 1, by omega, by go_num, k, m', _, rfl, H3.out, by have := HFEW.out; have := HM.out; omega⟩
        case measure => simp [intOf]; omega
    · obtain rfl : i = len := by omega
      have HFEW := Lib.hid hfew
      have HU := Lib.hid hu
      have hm3 : m ≤ 300 := by omega
      clear hu hfew HI
      go_wp2_with fail
      refine (look_any (by rw [txs_len]; have := HFEW.out; omega) wr HU.out.rv).mono ?_
      rintro e w3 ⟨g, rfl, hrow, hb⟩
      have H3 := Lib.hid (HU.out.next hb)
      rw [txs_len] at hrow ⊢
      have R3 := Lib.hid (hrow.isS (txs_len k m).symm).1
      clear hrow hb HU
      go_wp2_with fail
      go_loopw [67, 6] (fun v67 v6 wz => ∃ j : Nat, j ≤ m ∧ v67 = .int .i64 j ∧ v6 = .int .i64 ((k + j : Nat) : Int) ∧ Ur B0 w wz B0 room k (txs k m) L ∧ SsAt wz (some ⟨g, 0, none⟩) m (txs k m)) (fun v67 _ _ => m - (intOf v67).toNat)
      case atStart => exact ⟨0, Nat.zero_le _, rfl, rfl, H3.out, R3.out⟩
      case round =>
        obtain ⟨j, hj, rfl, rfl, hu, hss⟩ := hrel
        clear H3 R3
        by_cases hjl : j < m
        · obtain ⟨g', off', e', _, hf⟩ := hss.lies (by omega)
          cases e'
          have c0 := hf j (by rw [txs_len]; omega)
          rw [txs_get k m j hjl, Nat.zero_add] at c0
          clear hf
          have e1 : IntKind.i64.wrap (((k + j : Nat) : Int) + 1) = ((k + 1 + j : Nat) : Int) := by
            rw [show ((k + j : Nat) : Int) + 1 = ((k + 1 + j : Nat) : Int) by omega]
            exact i64_id (by omega) (by have := HFEW.out; omega)
          obtain ⟨Q, hQ⟩ : ∃ Q : Int, ((k + 1 + j : Nat) : Int) = Q := ⟨_, rfl⟩
          rw [hQ] at c0 e1
          have HQ := Lib.hid hQ
          generalize ((k + j : Nat) : Int) = Q0 at *
          have hbel := Joins.below_alloc1 wr (.cells #[.int .u8 (Q % 256), .int .u8 (Q / 256 % 256)] 5)
          have H4 := Lib.hid (hu.next hbel)
          have R4 := Lib.hid (ssAt_below hss hbel)
          have hconv := conv_tx wr Q
          have q3 := eq_yes (tx Q)
          clear hu hss hbel hQ
          go_wp2
          go_roundw
          case rel => exact ⟨j + 1, by omega, by go_num, by rw [← HQ.out, show k + (j + 1) = k + 1 + j by omega], H4.out, R4.out⟩
          case measure => simp [intOf]; omega
        · obtain rfl : j = m := by omega
          have H3 := Lib.hid hu
          have HA := Lib.hid (ack_any _ hu.rv)
          rw [txs_len] at HA
          clear hu hss
          go_wp2_with fail
          refine HA.out.mono ?_
          rintro e w4 ⟨rfl, rfl⟩
          go_wp2
          go_ret
          exact ⟨rfl, by rw [HB0.out]; exact H3.out.bel⟩
end Go.Proofs.Ytlmnncablfbafaa
