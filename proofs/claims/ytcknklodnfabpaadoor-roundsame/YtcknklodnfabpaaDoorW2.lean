/- The contract of Put. -/
import Derived.Test.YtcknklodnfabpaaDoorA
import Derived.Test.YtcknklodnfabpaaDoorW1
namespace Go.Proofs.YtcknklodnfabpaaDoor
open Go Go.RowKit
theorem info5 : (Tryd.prog.info? 5).map (fun i => (i.zero, i.size, i.bytes)) = some (some (.int .u8 0), 1, 1) := by kernel_rfl

set_option maxHeartbeats 800000 in
theorem put0 (n : Int) (h1 : 0 ≤ n) (h2 : n < 64) (w : World) (h : Wd w) : Calls Tryd.prog 58 #[.int .u64 n] w fun e w' => e = .returned (.tuple #[.string (strOfNums (be 1 n)), .int .i64 0]) ∧ Below w.heap.size w w' := by
  have c0 := h.c0
  obtain ⟨i0, hi, hz0, hz1, hz2⟩ := info_parts info5
  have hor : bits .or .u64 0 n = n := by rw [or_join 6 _ _ (by omega) (by omega) (by omega) (by omega) (by omega) (by omega)]; simp
  go_enter Tryd.func58, Tryd.ntmps58
  go_wp2_with fail
  refine (tag0 n h1 h2 _ h).mono ?_
  rintro e w1 ⟨rfl, rfl⟩
  go_wp2_with fail
  refine (own0 _ h).mono ?_
  rintro e w1 ⟨rfl, rfl⟩
  go_wp2_with (at_make; refine wpList_make_full _ rfl _ _ 46 rfl w.heap.size 5 i0 (.int .u8 0) 1 Tryd.underlying46 hi hz0 hz1 _ _ _ _ 1 rfl rfl rfl rfl (by omega) (by decide) (Nat.le_refl _) ?_)
  intro w1 hown hgrow
  have hb0 : Below w.heap.size w w1 := (Below.refl _ _).grown hgrow (Nat.le_refl _) (fun _ h => by cases h)
  rw [toList_madeCells_one] at hown
  have HOWN := Lib.hid hown
  clear hown hgrow hor
  go_wp2_with fail
  go_loopw [6, 8] (fun v6 v8 wr => ∃ j k : Nat, j + k = 1 ∧ v6 = .int .u64 (sh k n) ∧ v8 = .int .i64 ((j : Int) - 1) ∧ wr.ownsRow w.heap.size 5 1 (.slice (some ⟨w.heap.size, 0, none⟩) 1 1) 1 (row j k n) ∧ Below w.heap.size w wr) (fun _ v8 _ => (intOf v8 + 1).toNat)
  case atStart => exact ⟨1, 0, rfl, rfl, rfl, by simpa [row, be] using HOWN.out, hb0⟩
  case round =>
    obtain ⟨j, k, hjk, rfl, rfl, hown, hbel⟩ := hrel
    have hsb := sh_bd k n (by omega)
    rcases j with _ | i
    · obtain rfl : k = 1 := by omega
      have hconv := run_convert_bytes_arg (P := Tryd.prog) wr 46 5 Tryd.underlying46 Tryd.underlying5 w.heap.size 0 1 1 (be 1 n) (be_length _ _) (fun i hi => by
        have hl := be_length 1 n
        rw [Nat.zero_add, hown.cellAt i (by omega)]
        simp only [row, List.replicate_zero, List.nil_append, List.getElem?_map, List.getD_eq_getElem?_getD]
        rw [List.getElem?_eq_getElem (by omega)]; rfl) 9 Tryd.underlying9
      clear hown hjk HOWN
      go_wp2
      go_ret2
      exact ⟨rfl, hbel⟩
    · have hst := hown.stored i (.int .u8 (sh k n % 256))
      rw [row_set] at hst
      have HST := Lib.hid hst
      have hf := hown.frozenAt i
      have hc : wr.cell? ⟨w.heap.size, i, none⟩ = some (.int .u8 0) := by rw [hown.cellAt i (by omega)]; simp [row, List.getElem?_append]
      have e1 : ((i + 1 : Nat) : Int) - 1 = (i : Int) := by omega
      rw [e1]
      have hi2 : i < 1 := by omega
      have HJK := Lib.hid hjk
      clear hst hown e1 hjk HOWN
      go_wp2
      go_roundw
      case rel => exact ⟨i, k + 1, by have := HJK.out; omega, by rw [sh], rfl, (by have hq := HST.out.1; rwa [Int.emod_eq_of_lt (by omega) (by omega)] at hq), hbel.setCell (Nat.le_refl _) _⟩
      case measure => simp [intOf]

set_option maxHeartbeats 800000 in
theorem put1 (n : Int) (h1 : 64 ≤ n) (h2 : n < 16384) (w : World) (h : Wd w) : Calls Tryd.prog 58 #[.int .u64 n] w fun e w' => e = .returned (.tuple #[.string (strOfNums (be 2 (16384 + n))), .int .i64 0]) ∧ Below w.heap.size w w' := by
  have c1 := h.c1
  obtain ⟨i0, hi, hz0, hz1, hz2⟩ := info_parts info5
  have hor : bits .or .u64 16384 n = (16384 + n) := by rw [or_join 14 _ _ (by omega) (by omega) (by omega) (by omega) (by omega) (by omega)]
  go_enter Tryd.func58, Tryd.ntmps58
  go_wp2_with fail
  refine (tag1 n h1 h2 _ h).mono ?_
  rintro e w1 ⟨rfl, rfl⟩
  go_wp2_with fail
  refine (own1 _ h).mono ?_
  rintro e w1 ⟨rfl, rfl⟩
  go_wp2_with (at_make; refine wpList_make_full _ rfl _ _ 46 rfl w.heap.size 5 i0 (.int .u8 0) 1 Tryd.underlying46 hi hz0 hz1 _ _ _ _ 2 rfl rfl rfl rfl (by omega) (by decide) (Nat.le_refl _) ?_)
  intro w1 hown hgrow
  have hb0 : Below w.heap.size w w1 := (Below.refl _ _).grown hgrow (Nat.le_refl _) (fun _ h => by cases h)
  rw [toList_madeCells_one] at hown
  have HOWN := Lib.hid hown
  clear hown hgrow hor
  go_wp2_with fail
  go_loopw [6, 8] (fun v6 v8 wr => ∃ j k : Nat, j + k = 2 ∧ v6 = .int .u64 (sh k (16384 + n)) ∧ v8 = .int .i64 ((j : Int) - 1) ∧ wr.ownsRow w.heap.size 5 1 (.slice (some ⟨w.heap.size, 0, none⟩) 2 2) 2 (row j k (16384 + n)) ∧ Below w.heap.size w wr) (fun _ v8 _ => (intOf v8 + 1).toNat)
  case atStart => exact ⟨2, 0, rfl, rfl, rfl, by simpa [row, be] using HOWN.out, hb0⟩
  case round =>
    obtain ⟨j, k, hjk, rfl, rfl, hown, hbel⟩ := hrel
    have hsb := sh_bd k (16384 + n) (by omega)
    rcases j with _ | i
    · obtain rfl : k = 2 := by omega
      have hconv := run_convert_bytes_arg (P := Tryd.prog) wr 46 5 Tryd.underlying46 Tryd.underlying5 w.heap.size 0 2 2 (be 2 (16384 + n)) (be_length _ _) (fun i hi => by
        have hl := be_length 2 (16384 + n)
        rw [Nat.zero_add, hown.cellAt i (by omega)]
        simp only [row, List.replicate_zero, List.nil_append, List.getElem?_map, List.getD_eq_getElem?_getD]
        rw [List.getElem?_eq_getElem (by omega)]; rfl) 9 Tryd.underlying9
      clear hown hjk HOWN
      go_wp2
      go_ret2
      exact ⟨rfl, hbel⟩
    · have hst := hown.stored i (.int .u8 (sh k (16384 + n) % 256))
      rw [row_set] at hst
      have HST := Lib.hid hst
      have hf := hown.frozenAt i
      have hc : wr.cell? ⟨w.heap.size, i, none⟩ = some (.int .u8 0) := by rw [hown.cellAt i (by omega)]; simp [row, List.getElem?_append]
      have e1 : ((i + 1 : Nat) : Int) - 1 = (i : Int) := by omega
      rw [e1]
      have hi2 : i < 2 := by omega
      have HJK := Lib.hid hjk
      clear hst hown e1 hjk HOWN
      go_wp2
      go_roundw
      case rel => exact ⟨i, k + 1, by have := HJK.out; omega, by rw [sh], rfl, HST.out.1, hbel.setCell (Nat.le_refl _) _⟩
      case measure => simp [intOf]

set_option maxHeartbeats 800000 in
theorem put2 (n : Int) (h1 : 16384 ≤ n) (h2 : n < 1073741824) (w : World) (h : Wd w) : Calls Tryd.prog 58 #[.int .u64 n] w fun e w' => e = .returned (.tuple #[.string (strOfNums (be 4 (2147483648 + n))), .int .i64 0]) ∧ Below w.heap.size w w' := by
  have c2 := h.c2
  obtain ⟨i0, hi, hz0, hz1, hz2⟩ := info_parts info5
  have hor : bits .or .u64 2147483648 n = (2147483648 + n) := by rw [or_join 30 _ _ (by omega) (by omega) (by omega) (by omega) (by omega) (by omega)]
  go_enter Tryd.func58, Tryd.ntmps58
  go_wp2_with fail
  refine (tag2 n h1 h2 _ h).mono ?_
  rintro e w1 ⟨rfl, rfl⟩
  go_wp2_with fail
  refine (own2 _ h).mono ?_
  rintro e w1 ⟨rfl, rfl⟩
  go_wp2_with (at_make; refine wpList_make_full _ rfl _ _ 46 rfl w.heap.size 5 i0 (.int .u8 0) 1 Tryd.underlying46 hi hz0 hz1 _ _ _ _ 4 rfl rfl rfl rfl (by omega) (by decide) (Nat.le_refl _) ?_)
  intro w1 hown hgrow
  have hb0 : Below w.heap.size w w1 := (Below.refl _ _).grown hgrow (Nat.le_refl _) (fun _ h => by cases h)
  rw [toList_madeCells_one] at hown
  have HOWN := Lib.hid hown
  clear hown hgrow hor
  go_wp2_with fail
  go_loopw [6, 8] (fun v6 v8 wr => ∃ j k : Nat, j + k = 4 ∧ v6 = .int .u64 (sh k (2147483648 + n)) ∧ v8 = .int .i64 ((j : Int) - 1) ∧ wr.ownsRow w.heap.size 5 1 (.slice (some ⟨w.heap.size, 0, none⟩) 4 4) 4 (row j k (2147483648 + n)) ∧ Below w.heap.size w wr) (fun _ v8 _ => (intOf v8 + 1).toNat)
  case atStart => exact ⟨4, 0, rfl, rfl, rfl, by simpa [row, be] using HOWN.out, hb0⟩
  case round =>
    obtain ⟨j, k, hjk, rfl, rfl, hown, hbel⟩ := hrel
    have hsb := sh_bd k (2147483648 + n) (by omega)
    rcases j with _ | i
    · obtain rfl : k = 4 := by omega
      have hconv := run_convert_bytes_arg (P := Tryd.prog) wr 46 5 Tryd.underlying46 Tryd.underlying5 w.heap.size 0 4 4 (be 4 (2147483648 + n)) (be_length _ _) (fun i hi => by
        have hl := be_length 4 (2147483648 + n)
        rw [Nat.zero_add, hown.cellAt i (by omega)]
        simp only [row, List.replicate_zero, List.nil_append, List.getElem?_map, List.getD_eq_getElem?_getD]
        rw [List.getElem?_eq_getElem (by omega)]; rfl) 9 Tryd.underlying9
      clear hown hjk HOWN
      go_wp2
      go_ret2
      exact ⟨rfl, hbel⟩
    · have hst := hown.stored i (.int .u8 (sh k (2147483648 + n) % 256))
      rw [row_set] at hst
      have HST := Lib.hid hst
      have hf := hown.frozenAt i
      have hc : wr.cell? ⟨w.heap.size, i, none⟩ = some (.int .u8 0) := by rw [hown.cellAt i (by omega)]; simp [row, List.getElem?_append]
      have e1 : ((i + 1 : Nat) : Int) - 1 = (i : Int) := by omega
      rw [e1]
      have hi2 : i < 4 := by omega
      have HJK := Lib.hid hjk
      clear hst hown e1 hjk HOWN
      go_wp2
      go_roundw
      case rel => exact ⟨i, k + 1, by have := HJK.out; omega, by rw [sh], rfl, HST.out.1, hbel.setCell (Nat.le_refl _) _⟩
      case measure => simp [intOf]

set_option maxHeartbeats 800000 in
theorem put3 (n : Int) (h1 : 1073741824 ≤ n) (h2 : n < 4611686018427387904) (w : World) (h : Wd w) : Calls Tryd.prog 58 #[.int .u64 n] w fun e w' => e = .returned (.tuple #[.string (strOfNums (be 8 (13835058055282163712 + n))), .int .i64 0]) ∧ Below w.heap.size w w' := by
  have c3 := h.c3
  obtain ⟨i0, hi, hz0, hz1, hz2⟩ := info_parts info5
  have hor : bits .or .u64 13835058055282163712 n = (13835058055282163712 + n) := by rw [or_join 62 _ _ (by omega) (by omega) (by omega) (by omega) (by omega) (by omega)]
  go_enter Tryd.func58, Tryd.ntmps58
  go_wp2_with fail
  refine (tag3 n h1 h2 _ h).mono ?_
  rintro e w1 ⟨rfl, rfl⟩
  go_wp2_with fail
  refine (own3 _ h).mono ?_
  rintro e w1 ⟨rfl, rfl⟩
  go_wp2_with (at_make; refine wpList_make_full _ rfl _ _ 46 rfl w.heap.size 5 i0 (.int .u8 0) 1 Tryd.underlying46 hi hz0 hz1 _ _ _ _ 8 rfl rfl rfl rfl (by omega) (by decide) (Nat.le_refl _) ?_)
  intro w1 hown hgrow
  have hb0 : Below w.heap.size w w1 := (Below.refl _ _).grown hgrow (Nat.le_refl _) (fun _ h => by cases h)
  rw [toList_madeCells_one] at hown
  have HOWN := Lib.hid hown
  clear hown hgrow hor
  go_wp2_with fail
  go_loopw [6, 8] (fun v6 v8 wr => ∃ j k : Nat, j + k = 8 ∧ v6 = .int .u64 (sh k (13835058055282163712 + n)) ∧ v8 = .int .i64 ((j : Int) - 1) ∧ wr.ownsRow w.heap.size 5 1 (.slice (some ⟨w.heap.size, 0, none⟩) 8 8) 8 (row j k (13835058055282163712 + n)) ∧ Below w.heap.size w wr) (fun _ v8 _ => (intOf v8 + 1).toNat)
  case atStart => exact ⟨8, 0, rfl, rfl, rfl, by simpa [row, be] using HOWN.out, hb0⟩
  case round =>
    obtain ⟨j, k, hjk, rfl, rfl, hown, hbel⟩ := hrel
    have hsb := sh_bd k (13835058055282163712 + n) (by omega)
    rcases j with _ | i
    · obtain rfl : k = 8 := by omega
      have hconv := run_convert_bytes_arg (P := Tryd.prog) wr 46 5 Tryd.underlying46 Tryd.underlying5 w.heap.size 0 8 8 (be 8 (13835058055282163712 + n)) (be_length _ _) (fun i hi => by
        have hl := be_length 8 (13835058055282163712 + n)
        rw [Nat.zero_add, hown.cellAt i (by omega)]
        simp only [row, List.replicate_zero, List.nil_append, List.getElem?_map, List.getD_eq_getElem?_getD]
        rw [List.getElem?_eq_getElem (by omega)]; rfl) 9 Tryd.underlying9
      clear hown hjk HOWN
      go_wp2
      go_ret2
      exact ⟨rfl, hbel⟩
    · have hst := hown.stored i (.int .u8 (sh k (13835058055282163712 + n) % 256))
      rw [row_set] at hst
      have HST := Lib.hid hst
      have hf := hown.frozenAt i
      have hc : wr.cell? ⟨w.heap.size, i, none⟩ = some (.int .u8 0) := by rw [hown.cellAt i (by omega)]; simp [row, List.getElem?_append]
      have e1 : ((i + 1 : Nat) : Int) - 1 = (i : Int) := by omega
      rw [e1]
      have hi2 : i < 8 := by omega
      have HJK := Lib.hid hjk
      clear hst hown e1 hjk HOWN
      go_wp2
      go_roundw
      case rel => exact ⟨i, k + 1, by have := HJK.out; omega, by rw [sh], rfl, HST.out.1, hbel.setCell (Nat.le_refl _) _⟩
      case measure => simp [intOf]

set_option maxHeartbeats 400000 in
theorem putN (n : Int) (h1 : 4611686018427387904 ≤ n) (w : World) (h : Wd w) : Calls Tryd.prog 58 #[.int .u64 n] w fun e w' => e = .returned (.tuple #[.string ⟨#[]⟩, .int .i64 1]) ∧ w = w' := by
  go_enter Tryd.func58, Tryd.ntmps58
  go_wp2_with fail
  refine (tagN n h1 _ h).mono ?_
  rintro e w1 ⟨rfl, rfl⟩
  go_wp2
  go_ret2
  exact ⟨rfl, rfl⟩
end Go.Proofs.YtcknklodnfabpaaDoor
