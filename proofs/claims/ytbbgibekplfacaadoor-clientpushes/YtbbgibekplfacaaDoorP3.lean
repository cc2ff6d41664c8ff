import Derived.Test.YtbbgibekplfacaaDoorP1
import Derived.Test.YtbbgibekplfacaaDoorP2
import Derived.RegionTactic
import Derived.BigRegion
import Derived.Deep.AppendLies
/- The contract of Get. -/
namespace Go.Proofs.YtbbgibekplfacaaDoor.X
open Go Go.RowKit
theorem un_cut (s : ByteArray) (a k : Nat) (h : k ≤ s.size - a) : un ((s.extract a s.size).extract 0 k) 0 k = un s a k := by
  rw [un_extract _ 0 k (by simp; omega) k (by omega), un_extract s a s.size (Nat.le_refl _) k h]
theorem un1 (s : ByteArray) (a : Nat) : 0 ≤ un s a 1 ∧ un s a 1 < 64 := by
  have := byt_bd s a
  simp only [un]; omega
theorem un2 (s : ByteArray) (a : Nat) : 0 ≤ un s a 2 ∧ un s a 2 < 16384 := by
  have := un1 s a
  have := byt_bd s (a + 1)
  rw [un_succ s a 1 (by decide)]; omega
theorem un4 (s : ByteArray) (a : Nat) : 0 ≤ un s a 4 ∧ un s a 4 < 1073741824 := by
  have := un2 s a
  have := byt_bd s (a + 2)
  have := byt_bd s (a + 3)
  rw [un_succ s a 3 (by decide), un_succ s a 2 (by decide)]; omega
theorem ret3 {a a' b b' c c' : Int} (h1 : a = a') (h2 : b = b') (h3 : c = c') : Ending.returned (.tuple #[.int .u64 a, .int .i64 b, .int .i64 c]) = Ending.returned (.tuple #[.int .u64 a', .int .i64 b', .int .i64 c']) := by rw [h1, h2, h3]
end Go.Proofs.YtbbgibekplfacaaDoor.X
/- The contracts of the document's answers: Size, Zig, Zag, Get. -/
namespace Go.Proofs.YtbbgibekplfacaaDoor.X
open Go Go.RowKit
theorem rsize0 (n : Int) (_h1 : 0 ≤ n) (_h2 : n < 64) (w : World) : Calls Tryd.prog 99 #[.int .u64 n] w fun e w' => e = .returned (.int .i64 1) ∧ w = w' := by
  go_enter Tryd.func99, Tryd.ntmps99
  go_wp2
  go_ret
  exact ⟨rfl, rfl⟩
theorem rsize1 (n : Int) (_h1 : 64 ≤ n) (_h2 : n < 16384) (w : World) : Calls Tryd.prog 99 #[.int .u64 n] w fun e w' => e = .returned (.int .i64 2) ∧ w = w' := by
  go_enter Tryd.func99, Tryd.ntmps99
  go_wp2
  go_ret
  exact ⟨rfl, rfl⟩
theorem rsize2 (n : Int) (_h1 : 16384 ≤ n) (_h2 : n < 1073741824) (w : World) : Calls Tryd.prog 99 #[.int .u64 n] w fun e w' => e = .returned (.int .i64 4) ∧ w = w' := by
  go_enter Tryd.func99, Tryd.ntmps99
  go_wp2
  go_ret
  exact ⟨rfl, rfl⟩
theorem rsize3 (n : Int) (_h1 : 1073741824 ≤ n) (_h2 : n < 4611686018427387904) (w : World) : Calls Tryd.prog 99 #[.int .u64 n] w fun e w' => e = .returned (.int .i64 8) ∧ w = w' := by
  go_enter Tryd.func99, Tryd.ntmps99
  go_wp2
  go_ret
  exact ⟨rfl, rfl⟩
theorem rsizeN (n : Int) (_h1 : 4611686018427387904 ≤ n) (w : World) : Calls Tryd.prog 99 #[.int .u64 n] w fun e w' => e = .returned (.int .i64 0) ∧ w = w' := by
  go_enter Tryd.func99, Tryd.ntmps99
  go_wp2
  go_ret
  exact ⟨rfl, rfl⟩
theorem rsize_any (n : Int) (h0 : 0 ≤ n) (w : World) : Calls Tryd.prog 99 #[.int .u64 n] w fun e w' => e = .returned (.int .i64 (sizeZ n)) ∧ w = w' := by
  unfold sizeZ
  by_cases h1 : n < 64
  · rw [if_pos h1]; exact rsize0 n h0 h1 w
  rw [if_neg h1]
  by_cases h2 : n < 16384
  · rw [if_pos h2]; exact rsize1 n (by omega) h2 w
  rw [if_neg h2]
  by_cases h3 : n < 1073741824
  · rw [if_pos h3]; exact rsize2 n (by omega) h3 w
  rw [if_neg h3]
  by_cases h4 : n < 4611686018427387904
  · rw [if_pos h4]; exact rsize3 n (by omega) h4 w
  rw [if_neg h4]; exact rsizeN n (by omega) w
theorem ret_ub {a b : Int} (h : a = b) : Ending.returned (.tuple #[.int .u64 a, .bool true]) = Ending.returned (.tuple #[.int .u64 b, .bool true]) := by rw [h]
theorem ret_i {k : IntKind} {a b : Int} (h : a = b) : Ending.returned (.int k a) = Ending.returned (.int k b) := by rw [h]
theorem rzig_yes (n : Int) (h0 : -2305843009213693952 ≤ n) (h1 : n < 2305843009213693952) (w : World) : Calls Tryd.prog 100 #[.int .i64 n] w fun e w' => e = .returned (.tuple #[.int .u64 (zigS n), .bool true]) ∧ w = w' := by
  by_cases hn : n < 0
  · have hz : zigS n = -2 * n - 1 := if_pos hn
    have HZ := Lib.hid hz
    clear hz
    go_enter Tryd.func100, Tryd.ntmps100
    go_wp2
    go_ret2
    exact ⟨ret_ub (by rw [HZ.out]; omega), rfl⟩
  · have hz : zigS n = 2 * n := if_neg hn
    have HZ := Lib.hid hz
    clear hz
    go_enter Tryd.func100, Tryd.ntmps100
    go_wp2
    go_ret2
    exact ⟨ret_ub (by rw [HZ.out]), rfl⟩
theorem rzig_no (n : Int) (h0 : n < -2305843009213693952 ∨ 2305843009213693952 ≤ n) (w : World) : Calls Tryd.prog 100 #[.int .i64 n] w fun e w' => e = .returned (.tuple #[.int .u64 0, .bool false]) ∧ w = w' := by
  rcases h0 with h | h
  · go_enter Tryd.func100, Tryd.ntmps100
    go_wp2
    go_ret2
    exact ⟨rfl, rfl⟩
  · go_enter Tryd.func100, Tryd.ntmps100
    go_wp2
    go_ret2
    exact ⟨rfl, rfl⟩
end Go.Proofs.YtbbgibekplfacaaDoor.X
/- The contract of the document's Put. -/
namespace Go.Proofs.YtbbgibekplfacaaDoor.X
open Go Go.RowKit
set_option maxHeartbeats 800000 in
set_option maxRecDepth 20000 in
theorem rput0 (n : Int) (h1 : 0 ≤ n) (h2 : n < 64) (w : World) : Calls Tryd.prog 89 #[.int .u64 n] w fun e w' => e = .returned (.tuple #[.string (strOfNums (be 1 n)), .int .i64 0]) ∧ Below w.heap.size w w' := by
  obtain ⟨i0, hi, hz0, hz1, hz2⟩ := info_parts info5
  go_enter Tryd.func89, Tryd.ntmps89
  go_wp2_with fail
  refine (rsize0 n h1 h2 _).mono ?_
  rintro e w1 ⟨rfl, rfl⟩
  go_wp2_with fail
  go_loopw [0, 5, 6] (fun v0 v5 v6 wr => ∃ k g cap : Nat, k ≤ 1 ∧ v0 = .int .u64 (sh k n) ∧ v6 = .int .i64 k ∧ v5 = .slice (some ⟨g, 0, none⟩) k cap ∧ wr.ownsRow w.heap.size 5 1 (.slice (some ⟨g, 0, none⟩) k cap) k ((be k n).map (Value.int .u8)) ∧ Below w.heap.size w wr) (fun _ _ v6 _ => 1 - (intOf v6).toNat)
  case atStart => exact ⟨0, w.heap.size, 0, Nat.zero_le _, rfl, rfl, rfl, World.ownsRow_lit (size := 1) w #[] 0 (Nat.le_refl _) (Nat.zero_le _) rfl, (Below.refl _ _).alloc (Nat.le_refl _) _⟩
  case round =>
    obtain ⟨k, g, cap, hk, rfl, rfl, rfl, hown, hbel⟩ := hrel
    have hsb := sh_bd k n (by omega)
    have hH : w.heap.size ≤ wr.heap.size := hbel.size
    have HBEL := Lib.hid hbel
    have HOWN := Lib.hid hown
    clear hown hbel
    by_cases hlt : k < 1
    · go_wp2_with (at_builtin; refine wpList_append_own _ rfl _ _ 113 rfl w.heap.size 5 i0 (.int .u8 0) 1 1 Tryd.underlying113 hi hz0 hz1 hz2 rfl (by decide) _ 1 [.int .u8 (sh k n % 256)] rfl (World.ownsRow_lit (size := 1) wr #[.int .u8 (sh k n % 256)] 1 hH (by decide) rfl) ⟨g, 0, none⟩ k cap ((be k n).map (Value.int .u8)) rfl (by simp [be_length]) ((HOWN.out.alloc _).cells rfl) (ints_oneCell _ _) (by unfold maxLen; omega) (by omega) (by simp; omega) ?_)
      intro v' w1 hown' hgrow _
      simp only [Nat.add_comm 1 k] at hown'
      obtain ⟨g', cap', rfl, hg1, hg2⟩ := hown'.form (by omega)
      have HB := Lib.hid ((HBEL.out.alloc hH _).grown hgrow (by simp; omega) (fun q hq => by cases hq; exact hH))
      have HO := Lib.hid hown'
      clear hown' hgrow HBEL HOWN hg1 hg2
      go_wp2
      go_roundw
      case rel => exact ⟨k + 1, g', cap', by omega, by rw [sh], by go_num, rfl, HO.out, HB.out⟩
      case measure => simp [intOf]; omega
    · obtain rfl : k = 1 := by omega
      have hcap : 1 ≤ cap := by
        rcases HOWN.out.2 with ⟨hx, _⟩ | ⟨_, _, _, hv, _, _, hc, _⟩
        · cases hx
        · cases hv; exact hc
      have hgB : w.heap.size ≤ g ∧ g < wr.heap.size := HOWN.out.lt g rfl
      obtain ⟨b0, hb0⟩ : ∃ b0, b0 = sh 0 n % 256 := ⟨_, rfl⟩
      have hb0l : 0 ≤ b0 ∧ b0 < 64 := by rw [hb0]; simp only [sh]; omega
      have hrow : (be 1 n).map (Value.int .u8) = Value.int .u8 b0 :: (be 0 n).map (Value.int .u8) := by rw [hb0]; rfl
      have hown := HOWN.out
      rw [hrow] at hown
      have hc0 : wr.cell? ⟨g, 0, none⟩ = some (.int .u8 b0) := by rw [hown.cellAt 0 (by omega)]; rfl
      have hfin : strOfNums [b0] ++ strOfNums (be 0 n) = strOfNums (be 1 n) := by rw [hb0]; exact fin0 n
      generalize hT : be 0 n = T at *
      have hTl : T.length = 0 := by rw [← hT]; exact be_length _ _
      have hconv := fun (W : World) (hW : ∀ i, W.cell? ⟨g, i, none⟩ = wr.cell? ⟨g, i, none⟩) => run_convert_bytes_arg (P := Tryd.prog) W 113 5 Tryd.underlying113 Tryd.underlying5 g 1 0 (cap - 1) T hTl (fun i hi => by
        rw [hW, hown.cellAt (1 + i) (by omega), Nat.add_comm 1 i, List.getElem?_cons_succ, List.getElem?_map, List.getD_eq_getElem?_getD, List.getElem?_eq_getElem (by omega)]; rfl) 9 Tryd.underlying9
      have hconv1 := fun (W : World) => run_convert_bytes_arg (P := Tryd.prog) W 113 5 Tryd.underlying113 Tryd.underlying5 g 0 0 0 T hTl (fun i hi => by omega) 9 Tryd.underlying9
      have c1 := hconv wr.drew (fun _ => rfl)
      have c2 := hconv (wr.alloc (.cells #[.int .u8 b0] 5)).drew (fun i => World.cell?_alloc_past _ g i hgB.2)
      have d1 := hconv1 wr.drew
      have d2 := hconv1 (wr.alloc (.cells #[.int .u8 b0] 5)).drew
      clear hconv1
      have c3 := run_convert_bytes_arg (P := Tryd.prog) (wr.alloc (.cells #[.int .u8 (b0)] 5)).drew 113 5 Tryd.underlying113 Tryd.underlying5 wr.heap.size 0 1 1 [b0] rfl (fun i hi => by
        obtain rfl : i = 0 := by omega
        simp) 9 Tryd.underlying9
      have e1 : IntKind.i64.wrap b0 = b0 := by rw [IntKind.wrap_i64]; omega
      have e3 : IntKind.u8.wrap b0 = b0 := by rw [IntKind.wrap_u8]; omega
      have z1 : (strOfNums [b0]).size = 1 := strOfNums_size _
      have z2 : (strOfNums T).size = 0 := by rw [strOfNums_size, hTl]
      have HFIN := Lib.hid hfin
      clear hconv hown hrow hfin hT hTl HOWN hb0 hb0l
      by_cases hc1 : cap = 1
      all_goals
        go_wp2
        go_region
        go_wp2
        go_ret2
        exact ⟨by rw [← HFIN.out]; rfl, (HBEL.out.alloc hH _).drew⟩
set_option maxHeartbeats 800000 in
set_option maxRecDepth 20000 in
theorem rput1 (n : Int) (h1 : 64 ≤ n) (h2 : n < 16384) (w : World) : Calls Tryd.prog 89 #[.int .u64 n] w fun e w' => e = .returned (.tuple #[.string (strOfNums (be 2 (16384 + n))), .int .i64 0]) ∧ Below w.heap.size w w' := by
  obtain ⟨i0, hi, hz0, hz1, hz2⟩ := info_parts info5
  go_enter Tryd.func89, Tryd.ntmps89
  go_wp2_with fail
  refine (rsize1 n h1 h2 _).mono ?_
  rintro e w1 ⟨rfl, rfl⟩
  go_wp2_with fail
  go_loopw [0, 5, 6] (fun v0 v5 v6 wr => ∃ k g cap : Nat, k ≤ 2 ∧ v0 = .int .u64 (sh k n) ∧ v6 = .int .i64 k ∧ v5 = .slice (some ⟨g, 0, none⟩) k cap ∧ wr.ownsRow w.heap.size 5 1 (.slice (some ⟨g, 0, none⟩) k cap) k ((be k n).map (Value.int .u8)) ∧ Below w.heap.size w wr) (fun _ _ v6 _ => 2 - (intOf v6).toNat)
  case atStart => exact ⟨0, w.heap.size, 0, Nat.zero_le _, rfl, rfl, rfl, World.ownsRow_lit (size := 1) w #[] 0 (Nat.le_refl _) (Nat.zero_le _) rfl, (Below.refl _ _).alloc (Nat.le_refl _) _⟩
  case round =>
    obtain ⟨k, g, cap, hk, rfl, rfl, rfl, hown, hbel⟩ := hrel
    have hsb := sh_bd k n (by omega)
    have hH : w.heap.size ≤ wr.heap.size := hbel.size
    have HBEL := Lib.hid hbel
    have HOWN := Lib.hid hown
    clear hown hbel
    by_cases hlt : k < 2
    · go_wp2_with (at_builtin; refine wpList_append_own _ rfl _ _ 113 rfl w.heap.size 5 i0 (.int .u8 0) 1 1 Tryd.underlying113 hi hz0 hz1 hz2 rfl (by decide) _ 1 [.int .u8 (sh k n % 256)] rfl (World.ownsRow_lit (size := 1) wr #[.int .u8 (sh k n % 256)] 1 hH (by decide) rfl) ⟨g, 0, none⟩ k cap ((be k n).map (Value.int .u8)) rfl (by simp [be_length]) ((HOWN.out.alloc _).cells rfl) (ints_oneCell _ _) (by unfold maxLen; omega) (by omega) (by simp; omega) ?_)
      intro v' w1 hown' hgrow _
      simp only [Nat.add_comm 1 k] at hown'
      obtain ⟨g', cap', rfl, hg1, hg2⟩ := hown'.form (by omega)
      have HB := Lib.hid ((HBEL.out.alloc hH _).grown hgrow (by simp; omega) (fun q hq => by cases hq; exact hH))
      have HO := Lib.hid hown'
      clear hown' hgrow HBEL HOWN hg1 hg2
      go_wp2
      go_roundw
      case rel => exact ⟨k + 1, g', cap', by omega, by rw [sh], by go_num, rfl, HO.out, HB.out⟩
      case measure => simp [intOf]; omega
    · obtain rfl : k = 2 := by omega
      have hcap : 2 ≤ cap := by
        rcases HOWN.out.2 with ⟨hx, _⟩ | ⟨_, _, _, hv, _, _, hc, _⟩
        · cases hx
        · cases hv; exact hc
      have hgB : w.heap.size ≤ g ∧ g < wr.heap.size := HOWN.out.lt g rfl
      obtain ⟨b0, hb0⟩ : ∃ b0, b0 = sh 1 n % 256 := ⟨_, rfl⟩
      have hb0l : 0 ≤ b0 ∧ b0 < 64 := by rw [hb0]; simp only [sh]; omega
      have hrow : (be 2 n).map (Value.int .u8) = Value.int .u8 b0 :: (be 1 n).map (Value.int .u8) := by rw [hb0]; rfl
      have hown := HOWN.out
      rw [hrow] at hown
      have hc0 : wr.cell? ⟨g, 0, none⟩ = some (.int .u8 b0) := by rw [hown.cellAt 0 (by omega)]; rfl
      have hfin : strOfNums [b0 + 64] ++ strOfNums (be 1 n) = strOfNums (be 2 (16384 + n)) := by rw [hb0]; exact fin1 n (by omega) (by omega)
      generalize hT : be 1 n = T at *
      have hTl : T.length = 1 := by rw [← hT]; exact be_length _ _
      have hconv := fun (W : World) (hW : ∀ i, W.cell? ⟨g, i, none⟩ = wr.cell? ⟨g, i, none⟩) => run_convert_bytes_arg (P := Tryd.prog) W 113 5 Tryd.underlying113 Tryd.underlying5 g 1 1 (cap - 1) T hTl (fun i hi => by
        rw [hW, hown.cellAt (1 + i) (by omega), Nat.add_comm 1 i, List.getElem?_cons_succ, List.getElem?_map, List.getD_eq_getElem?_getD, List.getElem?_eq_getElem (by omega)]; rfl) 9 Tryd.underlying9
      have c1 := hconv wr.drew (fun _ => rfl)
      have c2 := hconv (wr.alloc (.cells #[.int .u8 (b0 + 64)] 5)).drew (fun i => World.cell?_alloc_past _ g i hgB.2)
      have c3 := run_convert_bytes_arg (P := Tryd.prog) (wr.alloc (.cells #[.int .u8 (b0 + 64)] 5)).drew 113 5 Tryd.underlying113 Tryd.underlying5 wr.heap.size 0 1 1 [b0 + 64] rfl (fun i hi => by
        obtain rfl : i = 0 := by omega
        simp) 9 Tryd.underlying9
      have e1 : IntKind.i64.wrap b0 = b0 := by rw [IntKind.wrap_i64]; omega
      have e2 : IntKind.i64.wrap (b0 + 64) = b0 + 64 := by rw [IntKind.wrap_i64]; omega
      have e3 : IntKind.u8.wrap (b0 + 64) = b0 + 64 := by rw [IntKind.wrap_u8]; omega
      have z1 : (strOfNums [b0 + 64]).size = 1 := strOfNums_size _
      have z2 : (strOfNums T).size = 1 := by rw [strOfNums_size, hTl]
      have HFIN := Lib.hid hfin
      clear hconv hown hrow hfin hT hTl HOWN hb0 hb0l
      go_wp2
      go_region
      go_wp2
      go_ret2
      exact ⟨by rw [← HFIN.out]; rfl, (HBEL.out.alloc hH _).drew⟩
set_option maxHeartbeats 800000 in
set_option maxRecDepth 20000 in
theorem rput2 (n : Int) (h1 : 16384 ≤ n) (h2 : n < 1073741824) (w : World) : Calls Tryd.prog 89 #[.int .u64 n] w fun e w' => e = .returned (.tuple #[.string (strOfNums (be 4 (2147483648 + n))), .int .i64 0]) ∧ Below w.heap.size w w' := by
  obtain ⟨i0, hi, hz0, hz1, hz2⟩ := info_parts info5
  go_enter Tryd.func89, Tryd.ntmps89
  go_wp2_with fail
  refine (rsize2 n h1 h2 _).mono ?_
  rintro e w1 ⟨rfl, rfl⟩
  go_wp2_with fail
  go_loopw [0, 5, 6] (fun v0 v5 v6 wr => ∃ k g cap : Nat, k ≤ 4 ∧ v0 = .int .u64 (sh k n) ∧ v6 = .int .i64 k ∧ v5 = .slice (some ⟨g, 0, none⟩) k cap ∧ wr.ownsRow w.heap.size 5 1 (.slice (some ⟨g, 0, none⟩) k cap) k ((be k n).map (Value.int .u8)) ∧ Below w.heap.size w wr) (fun _ _ v6 _ => 4 - (intOf v6).toNat)
  case atStart => exact ⟨0, w.heap.size, 0, Nat.zero_le _, rfl, rfl, rfl, World.ownsRow_lit (size := 1) w #[] 0 (Nat.le_refl _) (Nat.zero_le _) rfl, (Below.refl _ _).alloc (Nat.le_refl _) _⟩
  case round =>
    obtain ⟨k, g, cap, hk, rfl, rfl, rfl, hown, hbel⟩ := hrel
    have hsb := sh_bd k n (by omega)
    have hH : w.heap.size ≤ wr.heap.size := hbel.size
    have HBEL := Lib.hid hbel
    have HOWN := Lib.hid hown
    clear hown hbel
    by_cases hlt : k < 4
    · go_wp2_with (at_builtin; refine wpList_append_own _ rfl _ _ 113 rfl w.heap.size 5 i0 (.int .u8 0) 1 1 Tryd.underlying113 hi hz0 hz1 hz2 rfl (by decide) _ 1 [.int .u8 (sh k n % 256)] rfl (World.ownsRow_lit (size := 1) wr #[.int .u8 (sh k n % 256)] 1 hH (by decide) rfl) ⟨g, 0, none⟩ k cap ((be k n).map (Value.int .u8)) rfl (by simp [be_length]) ((HOWN.out.alloc _).cells rfl) (ints_oneCell _ _) (by unfold maxLen; omega) (by omega) (by simp; omega) ?_)
      intro v' w1 hown' hgrow _
      simp only [Nat.add_comm 1 k] at hown'
      obtain ⟨g', cap', rfl, hg1, hg2⟩ := hown'.form (by omega)
      have HB := Lib.hid ((HBEL.out.alloc hH _).grown hgrow (by simp; omega) (fun q hq => by cases hq; exact hH))
      have HO := Lib.hid hown'
      clear hown' hgrow HBEL HOWN hg1 hg2
      go_wp2
      go_roundw
      case rel => exact ⟨k + 1, g', cap', by omega, by rw [sh], by go_num, rfl, HO.out, HB.out⟩
      case measure => simp [intOf]; omega
    · obtain rfl : k = 4 := by omega
      have hcap : 4 ≤ cap := by
        rcases HOWN.out.2 with ⟨hx, _⟩ | ⟨_, _, _, hv, _, _, hc, _⟩
        · cases hx
        · cases hv; exact hc
      have hgB : w.heap.size ≤ g ∧ g < wr.heap.size := HOWN.out.lt g rfl
      obtain ⟨b0, hb0⟩ : ∃ b0, b0 = sh 3 n % 256 := ⟨_, rfl⟩
      have hb0l : 0 ≤ b0 ∧ b0 < 64 := by rw [hb0]; simp only [sh]; omega
      have hrow : (be 4 n).map (Value.int .u8) = Value.int .u8 b0 :: (be 3 n).map (Value.int .u8) := by rw [hb0]; rfl
      have hown := HOWN.out
      rw [hrow] at hown
      have hc0 : wr.cell? ⟨g, 0, none⟩ = some (.int .u8 b0) := by rw [hown.cellAt 0 (by omega)]; rfl
      have hfin : strOfNums [b0 + 128] ++ strOfNums (be 3 n) = strOfNums (be 4 (2147483648 + n)) := by rw [hb0]; exact fin2 n (by omega) (by omega)
      generalize hT : be 3 n = T at *
      have hTl : T.length = 3 := by rw [← hT]; exact be_length _ _
      have hconv := fun (W : World) (hW : ∀ i, W.cell? ⟨g, i, none⟩ = wr.cell? ⟨g, i, none⟩) => run_convert_bytes_arg (P := Tryd.prog) W 113 5 Tryd.underlying113 Tryd.underlying5 g 1 3 (cap - 1) T hTl (fun i hi => by
        rw [hW, hown.cellAt (1 + i) (by omega), Nat.add_comm 1 i, List.getElem?_cons_succ, List.getElem?_map, List.getD_eq_getElem?_getD, List.getElem?_eq_getElem (by omega)]; rfl) 9 Tryd.underlying9
      have c1 := hconv wr.drew (fun _ => rfl)
      have c2 := hconv (wr.alloc (.cells #[.int .u8 (b0 + 128)] 5)).drew (fun i => World.cell?_alloc_past _ g i hgB.2)
      have c3 := run_convert_bytes_arg (P := Tryd.prog) (wr.alloc (.cells #[.int .u8 (b0 + 128)] 5)).drew 113 5 Tryd.underlying113 Tryd.underlying5 wr.heap.size 0 1 1 [b0 + 128] rfl (fun i hi => by
        obtain rfl : i = 0 := by omega
        simp) 9 Tryd.underlying9
      have e1 : IntKind.i64.wrap b0 = b0 := by rw [IntKind.wrap_i64]; omega
      have e2 : IntKind.i64.wrap (b0 + 128) = b0 + 128 := by rw [IntKind.wrap_i64]; omega
      have e3 : IntKind.u8.wrap (b0 + 128) = b0 + 128 := by rw [IntKind.wrap_u8]; omega
      have z1 : (strOfNums [b0 + 128]).size = 1 := strOfNums_size _
      have z2 : (strOfNums T).size = 3 := by rw [strOfNums_size, hTl]
      have HFIN := Lib.hid hfin
      clear hconv hown hrow hfin hT hTl HOWN hb0 hb0l
      go_wp2
      go_region
      go_wp2
      go_ret2
      exact ⟨by rw [← HFIN.out]; rfl, (HBEL.out.alloc hH _).drew⟩
set_option maxHeartbeats 800000 in
set_option maxRecDepth 20000 in
theorem rput3 (n : Int) (h1 : 1073741824 ≤ n) (h2 : n < 4611686018427387904) (w : World) : Calls Tryd.prog 89 #[.int .u64 n] w fun e w' => e = .returned (.tuple #[.string (strOfNums (be 8 (13835058055282163712 + n))), .int .i64 0]) ∧ Below w.heap.size w w' := by
  obtain ⟨i0, hi, hz0, hz1, hz2⟩ := info_parts info5
  go_enter Tryd.func89, Tryd.ntmps89
  go_wp2_with fail
  refine (rsize3 n h1 h2 _).mono ?_
  rintro e w1 ⟨rfl, rfl⟩
  go_wp2_with fail
  go_loopw [0, 5, 6] (fun v0 v5 v6 wr => ∃ k g cap : Nat, k ≤ 8 ∧ v0 = .int .u64 (sh k n) ∧ v6 = .int .i64 k ∧ v5 = .slice (some ⟨g, 0, none⟩) k cap ∧ wr.ownsRow w.heap.size 5 1 (.slice (some ⟨g, 0, none⟩) k cap) k ((be k n).map (Value.int .u8)) ∧ Below w.heap.size w wr) (fun _ _ v6 _ => 8 - (intOf v6).toNat)
  case atStart => exact ⟨0, w.heap.size, 0, Nat.zero_le _, rfl, rfl, rfl, World.ownsRow_lit (size := 1) w #[] 0 (Nat.le_refl _) (Nat.zero_le _) rfl, (Below.refl _ _).alloc (Nat.le_refl _) _⟩
  case round =>
    obtain ⟨k, g, cap, hk, rfl, rfl, rfl, hown, hbel⟩ := hrel
    have hsb := sh_bd k n (by omega)
    have hH : w.heap.size ≤ wr.heap.size := hbel.size
    have HBEL := Lib.hid hbel
    have HOWN := Lib.hid hown
    clear hown hbel
    by_cases hlt : k < 8
    · go_wp2_with (at_builtin; refine wpList_append_own _ rfl _ _ 113 rfl w.heap.size 5 i0 (.int .u8 0) 1 1 Tryd.underlying113 hi hz0 hz1 hz2 rfl (by decide) _ 1 [.int .u8 (sh k n % 256)] rfl (World.ownsRow_lit (size := 1) wr #[.int .u8 (sh k n % 256)] 1 hH (by decide) rfl) ⟨g, 0, none⟩ k cap ((be k n).map (Value.int .u8)) rfl (by simp [be_length]) ((HOWN.out.alloc _).cells rfl) (ints_oneCell _ _) (by unfold maxLen; omega) (by omega) (by simp; omega) ?_)
      intro v' w1 hown' hgrow _
      simp only [Nat.add_comm 1 k] at hown'
      obtain ⟨g', cap', rfl, hg1, hg2⟩ := hown'.form (by omega)
      have HB := Lib.hid ((HBEL.out.alloc hH _).grown hgrow (by simp; omega) (fun q hq => by cases hq; exact hH))
      have HO := Lib.hid hown'
      clear hown' hgrow HBEL HOWN hg1 hg2
      go_wp2
      go_roundw
      case rel => exact ⟨k + 1, g', cap', by omega, by rw [sh], by go_num, rfl, HO.out, HB.out⟩
      case measure => simp [intOf]; omega
    · obtain rfl : k = 8 := by omega
      have hcap : 8 ≤ cap := by
        rcases HOWN.out.2 with ⟨hx, _⟩ | ⟨_, _, _, hv, _, _, hc, _⟩
        · cases hx
        · cases hv; exact hc
      have hgB : w.heap.size ≤ g ∧ g < wr.heap.size := HOWN.out.lt g rfl
      obtain ⟨b0, hb0⟩ : ∃ b0, b0 = sh 7 n % 256 := ⟨_, rfl⟩
      have hb0l : 0 ≤ b0 ∧ b0 < 64 := by rw [hb0]; simp only [sh]; omega
      have hrow : (be 8 n).map (Value.int .u8) = Value.int .u8 b0 :: (be 7 n).map (Value.int .u8) := by rw [hb0]; rfl
      have hown := HOWN.out
      rw [hrow] at hown
      have hc0 : wr.cell? ⟨g, 0, none⟩ = some (.int .u8 b0) := by rw [hown.cellAt 0 (by omega)]; rfl
      have hfin : strOfNums [b0 + 192] ++ strOfNums (be 7 n) = strOfNums (be 8 (13835058055282163712 + n)) := by rw [hb0]; exact fin3 n (by omega) (by omega)
      generalize hT : be 7 n = T at *
      have hTl : T.length = 7 := by rw [← hT]; exact be_length _ _
      have hconv := fun (W : World) (hW : ∀ i, W.cell? ⟨g, i, none⟩ = wr.cell? ⟨g, i, none⟩) => run_convert_bytes_arg (P := Tryd.prog) W 113 5 Tryd.underlying113 Tryd.underlying5 g 1 7 (cap - 1) T hTl (fun i hi => by
        rw [hW, hown.cellAt (1 + i) (by omega), Nat.add_comm 1 i, List.getElem?_cons_succ, List.getElem?_map, List.getD_eq_getElem?_getD, List.getElem?_eq_getElem (by omega)]; rfl) 9 Tryd.underlying9
      have c1 := hconv wr.drew (fun _ => rfl)
      have c2 := hconv (wr.alloc (.cells #[.int .u8 (b0 + 192)] 5)).drew (fun i => World.cell?_alloc_past _ g i hgB.2)
      have c3 := run_convert_bytes_arg (P := Tryd.prog) (wr.alloc (.cells #[.int .u8 (b0 + 192)] 5)).drew 113 5 Tryd.underlying113 Tryd.underlying5 wr.heap.size 0 1 1 [b0 + 192] rfl (fun i hi => by
        obtain rfl : i = 0 := by omega
        simp) 9 Tryd.underlying9
      have e1 : IntKind.i64.wrap b0 = b0 := by rw [IntKind.wrap_i64]; omega
      have e2 : IntKind.i64.wrap (b0 + 192) = b0 + 192 := by rw [IntKind.wrap_i64]; omega
      have e3 : IntKind.u8.wrap (b0 + 192) = b0 + 192 := by rw [IntKind.wrap_u8]; omega
      have z1 : (strOfNums [b0 + 192]).size = 1 := strOfNums_size _
      have z2 : (strOfNums T).size = 7 := by rw [strOfNums_size, hTl]
      have HFIN := Lib.hid hfin
      clear hconv hown hrow hfin hT hTl HOWN hb0 hb0l
      go_wp2
      go_region
      go_wp2
      go_ret2
      exact ⟨by rw [← HFIN.out]; rfl, (HBEL.out.alloc hH _).drew⟩
theorem rputN (n : Int) (h1 : 4611686018427387904 ≤ n) (w : World) : Calls Tryd.prog 89 #[.int .u64 n] w fun e w' => e = .returned (.tuple #[.string ⟨#[]⟩, .int .i64 1]) ∧ w = w' := by
  go_enter Tryd.func89, Tryd.ntmps89
  go_wp2_with fail
  refine (rsizeN n h1 _).mono ?_
  rintro e w1 ⟨rfl, rfl⟩
  go_wp2
  go_ret2
  exact ⟨rfl, rfl⟩
/-- A number's bytes. -/
def putS (n : Int) : List Int := if n < 64 then be 1 n else if n < 16384 then be 2 (16384 + n) else if n < 1073741824 then be 4 (2147483648 + n) else be 8 (13835058055282163712 + n)
theorem put_yes (n : Int) (h0 : 0 ≤ n) (h4 : n < 4611686018427387904) (w : World) (h : Wd w) : Calls Tryd.prog 95 #[.int .u64 n] w fun e w' => e = .returned (.tuple #[.string (strOfNums (putS n)), .int .i64 0]) ∧ Below w.heap.size w w' := by
  unfold putS
  by_cases h1 : n < 64
  · rw [if_pos h1]; exact put0 n h0 h1 w h
  rw [if_neg h1]
  by_cases h2 : n < 16384
  · rw [if_pos h2]; exact put1 n (by omega) h2 w h
  rw [if_neg h2]
  by_cases h3 : n < 1073741824
  · rw [if_pos h3]; exact put2 n (by omega) h3 w h
  rw [if_neg h3]; exact put3 n (by omega) h4 w h
theorem rput_yes (n : Int) (h0 : 0 ≤ n) (h4 : n < 4611686018427387904) (w : World) : Calls Tryd.prog 89 #[.int .u64 n] w fun e w' => e = .returned (.tuple #[.string (strOfNums (putS n)), .int .i64 0]) ∧ Below w.heap.size w w' := by
  unfold putS
  by_cases h1 : n < 64
  · rw [if_pos h1]; exact rput0 n h0 h1 w
  rw [if_neg h1]
  by_cases h2 : n < 16384
  · rw [if_pos h2]; exact rput1 n (by omega) h2 w
  rw [if_neg h2]
  by_cases h3 : n < 1073741824
  · rw [if_pos h3]; exact rput2 n (by omega) h3 w
  rw [if_neg h3]; exact rput3 n (by omega) h4 w
end Go.Proofs.YtbbgibekplfacaaDoor.X
