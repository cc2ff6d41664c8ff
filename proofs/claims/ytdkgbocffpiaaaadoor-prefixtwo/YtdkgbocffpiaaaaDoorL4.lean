/- The walk of the law PrefixTwo. -/
import Derived.Test.YtdkgbocffpiaaaaDoorA8
import Derived.Test.YtdkgbocffpiaaaaDoorW8
import Derived.Test.YtdkgbocffpiaaaaDoorF
import Derived.Deep.AppendLies
namespace Go.Proofs.YtdkgbocffpiaaaaDoor
open Go Go.RowKit
theorem info22 : (Tryd.prog.info? 22).map (fun i => (i.zero, i.size, i.bytes)) = some (some (.int .u64 0), 1, 8) := by kernel_rfl
theorem own_below {B : Nat} {e : TypeId} {k : Nat} {v : Value} {n : Nat} {xs : List Value} {w w' : World} (h : w.ownsRow B e k v n xs) (hb : Below w.heap.size w w') : w'.ownsRow B e k v n xs :=
  h.kept (row := none) ⟨hb.os, hb.tape, hb.output, hb.size, fun j hj _ => hb.block j hj⟩ (by cases hv : v.ownBlock <;> simp)
theorem emptyS : strOfNums [] = ⟨#[]⟩ := rfl
theorem getEmpty : getS ⟨#[]⟩ 0 = (0, 0, 2) := rfl
set_option maxHeartbeats 1000000 in
set_option maxRecDepth 100000 in
theorem twoLong (a : Option Addr) (len cap : Nat) (hl : 40 < len) (w : World) (h : Wd w) : Calls Tryd.prog 10 #[.slice a len cap] w fun e w' => e = .returned (.bool true) ∧ Below w.heap.size w w' := by
  go_enter Tryd.func10, Tryd.ntmps10
  go_wp2_with fail
  refine (awake_yes _ h).mono ?_
  rintro e w3 ⟨rfl, hb3⟩
  have h3 := h.below hb3
  have HB3 := Lib.hid hb3
  clear hb3 h
  go_wp2_with fail
  refine (awake_yes _ h3).mono ?_
  rintro e w4 ⟨rfl, hb4⟩
  have HB4 := Lib.hid (HB3.out.trans (hb4.mono HB3.out.size))
  clear hb4
  go_wp2
  go_ret
  exact ⟨rfl, HB4.out⟩
set_option maxHeartbeats 1000000 in
set_option maxRecDepth 100000 in
theorem twoNone (a : Option Addr) (cap : Nat) (w : World) (h : Wd w) : Calls Tryd.prog 10 #[.slice a 0 cap] w fun e w' => e = .returned (.bool true) ∧ Below w.heap.size w w' := by
  go_enter Tryd.func10, Tryd.ntmps10
  go_wp2_with fail
  refine (awake_yes _ h).mono ?_
  rintro e w3 ⟨rfl, hb3⟩
  have h3 := h.below hb3
  have HB3 := Lib.hid hb3
  clear hb3 h
  go_wp2_with fail
  refine wp_loop_rounds 1 ?_
  rw [rounds_succ]
  go_wp2_with fail
  refine wp_loop_rounds 1 ?_
  rw [rounds_succ]
  go_wp2_with fail
  refine (get_is _ _ _ _ _ (by decide) getEmpty _ h3).mono ?_
  rintro e w4 ⟨rfl, rfl⟩
  go_wp2
  go_ret
  exact ⟨rfl, HB3.out⟩
set_option maxHeartbeats 2000000 in
set_option maxRecDepth 100000 in
theorem twoSome (b off len cap : Nat) (zs : List Int) (hl0 : 0 < len) (hl : len ≤ 40) (hlen : len ≤ zs.length) (hz : ∀ x ∈ zs, 0 ≤ x) (w : World) (h : Wd w) (hcell : ∀ j, j < len → w.cell? ⟨b, off + j, none⟩ = some (.int .u64 (zs.getD j 0))) :
    Calls Tryd.prog 10 #[.slice (some ⟨b, off, none⟩) len cap] w fun e w' => e = .returned (.bool true) ∧ Below w.heap.size w w' := by
  have hbB : b < w.heap.size := block_lt_of_cell (hcell 0 hl0)
  have HC := Lib.hid hcell
  have HZ := Lib.hid hz
  clear hcell hz
  obtain ⟨i0, hi, hz0, hz1, hz2⟩ := info_parts info22
  go_enter Tryd.func10, Tryd.ntmps10
  go_wp2_with fail
  refine (awake_yes _ h).mono ?_
  rintro e w3 ⟨rfl, hb3⟩
  have HW := Lib.hid h
  have HB3 := Lib.hid hb3
  clear hb3 h
  go_wp2_with fail
  go_loopw [3, 4, 28] (fun v3 v4 v28 wr => ∃ k : Nat, k ≤ len ∧ v28 = .int .i64 k ∧ v3 = .string (strOfNums (allS (keep zs k))) ∧ wr.ownsRow w.heap.size 22 1 v4 (keep zs k).length ((keep zs k).map (Value.int .u64)) ∧ Below w.heap.size w wr) (fun _ _ v28 _ => len - (intOf v28).toNat)
  case atStart => exact ⟨0, Nat.zero_le _, rfl, rfl, World.ownsRow_nil _ _ _ _, HB3.out⟩
  case round =>
    obtain ⟨k, hk, rfl, rfl, hown, hbel⟩ := hrel
    clear HB3
    have hH : w.heap.size ≤ wr.heap.size := hbel.size
    have HWr := Lib.hid (HW.out.below hbel)
    have HBEL := Lib.hid hbel
    have HOWN := Lib.hid hown
    have hkl := keep_length zs k
    have hal := allS_length (keep zs k) (keep_mem zs HZ.out k)
    have zsz : (strOfNums (allS (keep zs k))).size ≤ 320 := by rw [strOfNums_size]; omega
    clear hown hbel hal
    by_cases hlt : k < len
    · have hcx : wr.cell? ⟨b, off + k, none⟩ = some (.int .u64 (zs.getD k 0)) := (HBEL.out.cell hbB).trans (HC.out k hlt)
      have hx0 : 0 ≤ zs.getD k 0 := by
        have hkz : k < zs.length := by omega
        rw [List.getD_eq_getElem?_getD, List.getElem?_eq_getElem hkz, Option.getD_some]
        exact HZ.out _ (List.getElem_mem hkz)
      have ky := Lib.hid (keep_yes zs k (by omega))
      have kn := Lib.hid (keep_no zs k (by omega))
      generalize zs.getD k 0 = x at *
      by_cases hx : x < 4611686018427387904
      · have hpl := putS_length x hx0 hx
        have p1 := Lib.hid (fun w h => put_yes x hx0 hx w h)
        have z2 : (strOfNums (putS x)).size ≤ 8 := by rw [strOfNums_size]; omega
        have KY := Lib.hid (ky.out hx)
        have HS : Hid (strOfNums (allS (keep zs k)) ++ strOfNums (putS x) = strOfNums (allS (keep zs (k + 1)))) := by
          show strOfNums (allS (keep zs k)) ++ strOfNums (putS x) = strOfNums (allS (keep zs (k + 1)))
          rw [KY.out, allS_append, allS_one, strOfNums_append]
        have HL : Hid ((keep zs (k + 1)).length = (keep zs k).length + 1 ∧ (keep zs (k + 1)).map (Value.int .u64) = (keep zs k).map (Value.int .u64) ++ [.int .u64 x]) := by
          show (keep zs (k + 1)).length = (keep zs k).length + 1 ∧ (keep zs (k + 1)).map (Value.int .u64) = (keep zs k).map (Value.int .u64) ++ [.int .u64 x]
          rw [KY.out]; simp
        clear ky kn KY hpl
        generalize strOfNums (putS x) = px at *
        generalize strOfNums (allS (keep zs k)) = al at *
        generalize (keep zs k).map (Value.int .u64) = row at *
        generalize (keep zs k).length = rl at *
        go_wp2_with fail
        refine (p1.out _ HWr.out).mono ?_
        rintro e w4 ⟨rfl, hb4⟩
        have HO4 := Lib.hid (own_below HOWN.out hb4)
        have HB4 := Lib.hid (HBEL.out.trans (hb4.mono HBEL.out.size))
        have hH4 : w.heap.size ≤ w4.heap.size := HB4.out.size
        clear hb4 HOWN HBEL hcx
        go_wp2_with (at_builtin; refine wpList_append_own _ rfl _ _ 44 rfl w.heap.size 22 i0 (.int .u64 0) 1 8 Tryd.underlying44 hi hz0 hz1 hz2 rfl (by decide) _ rl row rfl (HO4.out.alloc _) ⟨w4.heap.size, 0, none⟩ 1 1 [.int .u64 x] rfl rfl (fun j u hj => by (match j, hj with | 0, hj => simp at hj; subst hj; simp [Addr.add])) (fun u hu => by simp at hu; subst hu; rfl) (by unfold maxLen; omega) (by omega) (by simp; omega) ?_)
        intro v' w5 hown' hgrow _
        have HB5 : Hid (Below w.heap.size w w5) := (HB4.out.alloc hH4 _).grown hgrow (by simp; omega) (fun q hq => (HO4.out.lt q hq).1)
        have HO5 := Lib.hid hown'
        clear hown' hgrow HO4 HB4
        go_wp2
        go_roundw
        case rel => exact ⟨k + 1, by omega, by go_num, by rw [HS.out], by rw [HL.out.1, HL.out.2]; exact HO5.out, HB5.out⟩
        case measure => simp [intOf]; omega
      · have hx' : 4611686018427387904 ≤ x := by omega
        have KN := Lib.hid (kn.out hx)
        clear ky kn
        generalize hal : strOfNums (allS (keep zs k)) = al at *
        have HAL := Lib.hid hal
        clear hal
        go_wp2_with fail
        refine (putN x hx' _ HWr.out).mono ?_
        rintro e w4 ⟨rfl, rfl⟩
        go_wp2
        go_roundw
        case rel => exact ⟨k + 1, by omega, by go_num, by rw [KN.out, HAL.out], by rw [KN.out]; exact HOWN.out, HBEL.out⟩
        case measure => simp [intOf]; omega
    · obtain rfl : k = len := by omega
      have HMEM := Lib.hid (keep_mem zs HZ.out k)
      clear HC HZ HW hi hz0 hz1 hz2 hlen hbB
      generalize keep zs k = L at *
      have hnth := Lib.hid (getS_nth L HMEM.out)
      have hsz : (strOfNums (allS L)).size = (allS L).length := strOfNums_size _
      have hend := getS_end (strOfNums (allS L))
      rw [hsz] at hend
      have HEND := Lib.hid hend
      have hal : (allS L).length ≤ 320 := by rw [← hsz]; exact zsz
      have htk : allS (L.take L.length) = allS L := by rw [List.take_length]
      have HTK := Lib.hid htk
      clear hend zsz htk
      rcases HOWN.out.2 with ⟨rfl, hn⟩ | ⟨g, cap2, cur, rfl, hg⟩
      · obtain rfl : L = [] := List.eq_nil_of_length_eq_zero hn
        clear HOWN hnth HEND HTK hal hsz hn HMEM
        rw [show strOfNums (allS []) = ⟨#[]⟩ from rfl]
        go_wp2_with fail
        refine wp_loop_rounds 1 ?_
        rw [rounds_succ]
        go_wp2_with fail
        refine (get_is _ _ _ _ _ (by decide) getEmpty _ HWr.out).mono ?_
        rintro e w4 ⟨rfl, rfl⟩
        go_wp2
        go_ret
        exact ⟨rfl, HBEL.out⟩
      · clear hg
        generalize strOfNums (allS L) = al at *
        go_wp2_with fail
        go_loop [9, 49] (fun v9 v49 => ∃ j : Nat, j ≤ L.length ∧ v49 = .int .i64 j ∧ v9 = .int .i64 ((allS (L.take j)).length : Int)) (fun _ v49 => L.length - (intOf v49).toNat)
        case atStart => exact ⟨0, Nat.zero_le _, rfl, rfl⟩
        case round =>
          obtain ⟨j, hj, rfl, rfl⟩ := hrel
          by_cases hjl : j < L.length
          · have hcj : wr.cell? ⟨g, j, none⟩ = some (.int .u64 (L.getD j 0)) := by
              rw [HOWN.out.cellAt j (by omega), List.getElem?_map, List.getD_eq_getElem?_getD, List.getElem?_eq_getElem hjl]; rfl
            obtain ⟨hg1, hg2⟩ := hnth.out j hjl
            have HG := Lib.hid hg1
            have hle : decide (((allS (L.take (j + 1))).length : Int) ≤ ((allS (L.take j)).length : Int)) = false := by rw [decide_eq_false_iff_not]; omega
            have hle2 : decide ((allS (L.take (j + 1))).length ≤ (allS (L.take j)).length) = false := by rw [decide_eq_false_iff_not]; omega
            clear hg1
            generalize (allS (L.take j)).length = at0 at *
            generalize hn1 : (allS (L.take (j + 1))).length = at1 at *
            have HN1 := Lib.hid hn1
            generalize L.getD j 0 = x at *
            clear hn1
            go_wp2_with fail
            refine (get_is _ _ _ _ _ (by rw [hsz]; unfold maxLen; omega) HG.out _ HWr.out).mono ?_
            rintro e w4 ⟨rfl, rfl⟩
            go_wp2
            go_round
            case rel => exact ⟨j + 1, by omega, by go_num, by rw [HN1.out]⟩
            case measure => simp [intOf]; omega
          · obtain rfl : j = L.length := by omega
            rw [HTK.out]
            go_wp2_with fail
            refine (get_is _ _ _ _ _ (by rw [hsz]; unfold maxLen; omega) HEND.out _ HWr.out).mono ?_
            rintro e w4 ⟨rfl, rfl⟩
            go_wp2
            go_ret
            exact ⟨rfl, HBEL.out⟩
theorem walkTwo (a : Option Addr) (len cap : Nat) (zs : List Int) (w : World) (hrow : IsRow .u64 w a len cap zs) (h : Wd w) : Calls Tryd.prog 10 #[.slice a len cap] w fun e w' => e = .returned (.bool true) ∧ Below w.heap.size w w' := by
  by_cases hl : 40 < len
  · exact twoLong a len cap hl w h
  rcases hrow with ⟨rfl, rfl, rfl, rfl⟩ | ⟨x, rfl, hlc, hm, hzl, hcell, hwf⟩
  · exact twoNone _ _ w h
  rcases Nat.eq_zero_or_pos len with h0 | h0
  · subst h0; exact twoNone _ _ w h
  · obtain ⟨b, off, rfl, hc⟩ := ints_at hcell (by omega)
    exact twoSome b off len cap zs h0 (by omega) (by omega) (fun n hn => nonneg_u64 (hwf n hn)) w h (fun j hj => hc j (by omega))
end Go.Proofs.YtdkgbocffpiaaaaDoor
