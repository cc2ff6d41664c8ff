/- The walk of the law PackBack. -/
import Derived.Test.YtgeafheoaffooaaDoorLW
import Derived.Test.YtgeafheoaffooaaDoorA10
import Derived.Deep.RegionWith
namespace Go.Proofs.YtgeafheoaffooaaDoor
open Go Go.RowKit
theorem fcell2 (w : World) (k n : Int) (t : ByteArray) (T : TypeId) : (w.alloc (.cells #[.int .i64 k, .int .i64 n, .string t] T)).drew.cell? ⟨w.heap.size, 2, none⟩ = some (.string t) := by
  have h : (w.alloc (.cells #[.int .i64 k, .int .i64 n, .string t] T)).drew.heap[w.heap.size]? = some (.cells #[.int .i64 k, .int .i64 n, .string t] T (0, 0)) := heap_alloc_new w _
  unfold World.cell?
  rw [h]
  rfl
theorem fcell1b (w : World) (k n : Int) (t : ByteArray) (T : TypeId) : (w.alloc (.cells #[.int .i64 k, .int .i64 n, .string t] T)).drew.cell? ⟨w.heap.size, 1, none⟩ = some (.int .i64 n) := by
  have h : (w.alloc (.cells #[.int .i64 k, .int .i64 n, .string t] T)).drew.heap[w.heap.size]? = some (.cells #[.int .i64 k, .int .i64 n, .string t] T (0, 0)) := heap_alloc_new w _
  unfold World.cell?
  rw [h]
  rfl
theorem wd_drew {w : World} (h : Wd w) : Wd w.drew := ⟨h.c0, h.c1, h.c2, h.c3, h.pos⟩
theorem rd_drew {w : World} {b : Nat} {rest : ByteArray} {err : Int} (h : Rd w b rest err) : Rd w.drew b rest err := h
set_option maxHeartbeats 2000000 in
set_option maxRecDepth 100000 in
theorem back_great (a : Option Addr) (len cap : Nat) (fs : List Fd) (hg : greatS ⟨#[]⟩ len fs) (w : World) (hd : Wd w) (h : IsFs w a len fs) :
    Calls Tryd.prog 5 #[.slice a len cap] w fun x w' => x = .returned (.bool true) ∧ Below w.heap.size w w' := by
  have H := Lib.hid h
  clear h
  go_enter Tryd.func5, Tryd.ntmps5
  go_wp2_with fail
  refine (awake_yes _ hd).mono ?_
  rintro x w2 ⟨rfl, hb2⟩
  have hd2 := hd.below hb2
  have HB2 := Lib.hid hb2
  clear hb2
  have HF : Hid (IsFs w2 a len fs) := isFs_below H.out HB2.out
  go_wp2_with fail
  refine (great_yes _ a len cap fs hg _ HF.out).mono ?_
  rintro x w3 ⟨rfl, hb3⟩
  have hd3 := hd2.below hb3
  have HB3 := Lib.hid (HB2.out.trans (hb3.mono HB2.out.size))
  clear hb3 HB2 hd2 hg
  go_wp2_with fail
  refine (awake_yes _ hd3).mono ?_
  rintro x w4 ⟨rfl, hb4⟩
  have HB4 := Lib.hid (HB3.out.trans (hb4.mono HB3.out.size))
  clear hb4
  go_wp2
  go_ret
  exact ⟨rfl, HB4.out⟩
set_option maxHeartbeats 4000000 in
set_option maxRecDepth 100000 in
theorem back_play (a : Option Addr) (len cap : Nat) (fs : List Fd) (hg : ¬ greatS ⟨#[]⟩ len fs) (w : World) (hd : Wd w) (h : IsFs w a len fs) :
    Calls Tryd.prog 5 #[.slice a len cap] w fun x w' => x = .returned (.bool true) ∧ Below w.heap.size w w' := by
  have H := Lib.hid h
  have hpos := hd.pos
  have hl : len ≤ 200 := Nat.le_of_not_lt fun hx => hg (.inr (.inl hx))
  have HTX : Hid (∀ i, i < len → (fs.getD i fd0).2.2.size ≤ 200) := fun i hi => Nat.le_of_not_lt fun hx => hg (.inr (.inr ⟨i, hi, hx⟩))
  clear h
  go_enter Tryd.func5, Tryd.ntmps5
  go_wp2_with fail
  refine (awake_yes _ hd).mono ?_
  rintro x w2 ⟨rfl, hb2⟩
  have HB2 := Lib.hid hb2
  clear hb2
  have HF : Hid (IsFs w2 a len fs) := isFs_below H.out HB2.out
  go_wp2_with fail
  refine (great_no _ a len cap fs hg _ HF.out).mono ?_
  rintro x w3 ⟨rfl, hb3⟩
  have hb3' := HB2.out.trans (hb3.mono HB2.out.size)
  have hH3 := hb3'.size
  have HB3 := Lib.hid (hb3'.alloc hH3 (.cells #[.slice none 0 0, .bool false] 44))
  have HW3 := Lib.hid (wr_new w3)
  clear hb3 HB2 hg HF hb3'
  have HD := Lib.hid hd
  clear hd
  go_wp2_with fail
  generalize w3.heap.size = B at *
  go_loopw [21] (fun v21 wr => ∃ (k : Nat) (failed : Bool) (s : ByteArray) (v : Value), k ≤ len ∧ v21 = .int .i64 k ∧ Wr wr (B + 1) B v s failed ∧ (failed = true → s = ⟨#[]⟩) ∧ (failed = false → s = catF (fs.take k) ∧ ∀ i, i < k → okF (fs.getD i fd0)) ∧ s.size ≤ 300 * k ∧ Below w.heap.size w wr) (fun v21 _ => len - (intOf v21).toNat)
  case atStart => exact ⟨0, false, ⟨#[]⟩, _, Nat.zero_le _, rfl, HW3.out, fun _ => rfl, fun _ => ⟨rfl, fun i hi => absurd hi (Nat.not_lt_zero i)⟩, Nat.zero_le _, HB3.out⟩
  case round =>
    obtain ⟨k, failed, s, v, hk, rfl, hwr, hs1, hs2, hsz, hbel⟩ := hrel
    clear HB3 HW3
    have HBEL := Lib.hid hbel
    have HWR := Lib.hid hwr
    have HS1 := Lib.hid hs1
    have HS2 := Lib.hid hs2
    have hdr := HD.out.below hbel
    have hH : w.heap.size ≤ wr.heap.size := hbel.size
    clear hbel hwr hs1 hs2
    by_cases hlt : k < len
    · obtain ⟨b, off, rfl, hf⟩ := H.out.lies (by omega)
      have hfl := H.out.size
      have hb := hf.lt (by omega)
      have n1 := H.out.nlo k hlt
      have n2 := H.out.nhi k hlt
      have ck : wr.cell? ⟨b, off + k * 3, none⟩ = some (.int .i64 (fs.getD k fd0).1) := (HBEL.out.cell hb).trans (hf.k k (by omega))
      have cn : wr.cell? ⟨b, off + k * 3 + 1, none⟩ = some (.int .i64 (fs.getD k fd0).2.1) := (HBEL.out.cell hb).trans (hf.n k (by omega))
      have ct : wr.cell? ⟨b, off + k * 3 + 2, none⟩ = some (.string (fs.getD k fd0).2.2) := (HBEL.out.cell hb).trans (hf.t k (by omega))
      have htx := HTX.out k hlt
      have hkl : k < fs.length := by omega
      have hBw : w.heap.size ≤ B := hH3
      clear hf hfl hb
      by_cases h1 : (fs.getD k fd0).1 = 1
      · have hpx : (pxN (fs.getD k fd0).2.1).size ≤ 8 := pxN_size _
        have P22 := wnum_any (B + 1) B v s failed _ n1 n2 (by omega) HS1.out _ (hdr.alloc (.cells #[.int .i64 (fs.getD k fd0).1, .int .i64 (fs.getD k fd0).2.1, .string (fs.getD k fd0).2.2] 31)) (HWR.out.alloc _)
        rw [wS_N] at P22
        obtain ⟨q1, q2, q3⟩ := wS_step fs k hkl s failed (decide (okN (fs.getD k fd0).2.1)) (pxN (fs.getD k fd0).2.1) (fun e => ⟨(by unfold pxF; rw [if_pos h1]), ⟨fun _ => of_decide_eq_true e, fun e2 => by omega⟩⟩) HS1.out HS2.out hsz (by omega)
        generalize wS s failed (decide (okN (fs.getD k fd0).2.1)) (pxN (fs.getD k fd0).2.1) = out at *
        generalize (failed || !(decide (okN (fs.getD k fd0).2.1))) = fo at *
        have Q1 := Lib.hid q1
        have Q2 := Lib.hid q2
        have HP := Lib.hid P22
        clear q1 q2 P22 HS1 HS2 hpx hsz HWR
        have k1 : ((fs.getD k fd0).1 == 1) = true := by rw [beq_iff_eq]; exact h1
        generalize (fs.getD k fd0).2.2 = t at *
        generalize (fs.getD k fd0).2.1 = n at *
        generalize (fs.getD k fd0).1 = kd at *
        clear h1
        go_wp2_with fail
        refine HP.out.mono ?_
        rintro x w5 ⟨rfl, ⟨v5, hw5⟩, hf5⟩
        have HW5 := Lib.hid hw5
        have HB5 := Lib.hid (Fr.below (HBEL.out.alloc hH _) hf5 hBw (by omega))
        clear hw5 hf5 HP ck cn ct
        go_wp2
        go_roundw
        case rel => exact ⟨k + 1, fo, out, _, by omega, by go_num, HW5.out, Q1.out, Q2.out, q3, HB5.out⟩
        case measure => simp [intOf]; omega
      by_cases h2 : (fs.getD k fd0).1 = 2
      · have hpx : (pxS (fs.getD k fd0).2.1).size ≤ 8 := pxS_size _
        have P22 := wsgn_any (B + 1) B v s failed _ n1 n2 (by omega) HS1.out _ (hdr.alloc (.cells #[.int .i64 (fs.getD k fd0).1, .int .i64 (fs.getD k fd0).2.1, .string (fs.getD k fd0).2.2] 31)) (HWR.out.alloc _)
        rw [wS_S] at P22
        obtain ⟨q1, q2, q3⟩ := wS_step fs k hkl s failed (decide (okS (fs.getD k fd0).2.1)) (pxS (fs.getD k fd0).2.1) (fun e => ⟨(by unfold pxF; rw [if_neg h1, if_pos h2]), ⟨fun e2 => absurd e2 h1, fun _ => of_decide_eq_true e⟩⟩) HS1.out HS2.out hsz (by omega)
        generalize wS s failed (decide (okS (fs.getD k fd0).2.1)) (pxS (fs.getD k fd0).2.1) = out at *
        generalize (failed || !(decide (okS (fs.getD k fd0).2.1))) = fo at *
        have Q1 := Lib.hid q1
        have Q2 := Lib.hid q2
        have HP := Lib.hid P22
        clear q1 q2 P22 HS1 HS2 hpx hsz HWR
        have k1 : ((fs.getD k fd0).1 == 1) = false := by rw [beq_eq_false_iff_ne]; exact h1
        have k2 : ((fs.getD k fd0).1 == 2) = true := by rw [beq_iff_eq]; exact h2
        generalize (fs.getD k fd0).2.2 = t at *
        generalize (fs.getD k fd0).2.1 = n at *
        generalize (fs.getD k fd0).1 = kd at *
        clear h1 h2
        go_wp2_with fail
        refine HP.out.mono ?_
        rintro x w5 ⟨rfl, ⟨v5, hw5⟩, hf5⟩
        have HW5 := Lib.hid hw5
        have HB5 := Lib.hid (Fr.below (HBEL.out.alloc hH _) hf5 hBw (by omega))
        clear hw5 hf5 HP ck cn ct
        go_wp2
        go_roundw
        case rel => exact ⟨k + 1, fo, out, _, by omega, by go_num, HW5.out, Q1.out, Q2.out, q3, HB5.out⟩
        case measure => simp [intOf]; omega
      have hpx : (pxT (fs.getD k fd0).2.2).size ≤ 208 := Nat.le_trans (pxT_size _ (by omega)) (by omega)
      have P22 := wtxt_any (B + 1) B v s (fs.getD k fd0).2.2 failed (by omega) (by omega) HS1.out _ (hdr.alloc (.cells #[.int .i64 (fs.getD k fd0).1, .int .i64 (fs.getD k fd0).2.1, .string (fs.getD k fd0).2.2] 31)) (HWR.out.alloc _)
      obtain ⟨q1, q2, q3⟩ := wS_step fs k hkl s failed true (pxT (fs.getD k fd0).2.2) (fun _ => ⟨(by unfold pxF; rw [if_neg h1, if_neg h2]), ⟨fun e2 => absurd e2 h1, fun e2 => absurd e2 h2⟩⟩) HS1.out HS2.out hsz (by omega)
      rw [Bool.not_true, Bool.or_false] at q1 q2
      change Calls _ _ _ _ _ at P22
      change Calls Tryd.prog _ _ _ (fun x w' => x = .returned (.tuple #[]) ∧ (∃ v', Wr w' (B + 1) B v' (wS s failed true (pxT (fs.getD k fd0).2.2)) failed) ∧ Fr (B + 1) B _ w') at P22
      generalize wS s failed true (pxT (fs.getD k fd0).2.2) = out at *
      generalize failed = fo at *
      have Q1 := Lib.hid q1
      have Q2 := Lib.hid q2
      have HP := Lib.hid P22
      clear q1 q2 P22 HS1 HS2 hpx hsz HWR
      have k1 : ((fs.getD k fd0).1 == 1) = false := by rw [beq_eq_false_iff_ne]; exact h1
      have k2 : ((fs.getD k fd0).1 == 2) = false := by rw [beq_eq_false_iff_ne]; exact h2
      generalize (fs.getD k fd0).2.2 = t at *
      generalize (fs.getD k fd0).2.1 = n at *
      generalize (fs.getD k fd0).1 = kd at *
      clear h1 h2
      go_wp2_with fail
      refine HP.out.mono ?_
      rintro x w5 ⟨rfl, ⟨v5, hw5⟩, hf5⟩
      have HW5 := Lib.hid hw5
      have HB5 := Lib.hid (Fr.below (HBEL.out.alloc hH _) hf5 hBw (by omega))
      clear hw5 hf5 HP ck cn ct
      go_wp2
      go_roundw
      case rel => exact ⟨k + 1, fo, out, _, by omega, by go_num, HW5.out, Q1.out, Q2.out, q3, HB5.out⟩
      case measure => simp [intOf]; omega
    · obtain rfl : k = len := by omega
      cases failed with
      | true =>
        obtain rfl := HS1.out rfl
        go_wp2_with fail
        refine (bytes_dead (B + 1) B _ _ _ HWR.out).mono ?_
        rintro x w5 ⟨rfl, rfl⟩
        go_wp2
        go_ret
        exact ⟨rfl, HBEL.out⟩
      | false =>
        obtain ⟨hs, hok⟩ := HS2.out rfl
        have htk : fs.take k = fs := List.take_of_length_le (by rw [H.out.size]; exact Nat.le_refl _)
        rw [htk] at hs
        have HOK := Lib.hid hok
        have HTK := Lib.hid htk
        subst hs
        have hBsz : (catF fs).size ≤ 60000 := by omega
        have hfl := H.out.size
        clear HS1 HS2 hok htk
        go_wp2_with fail
        refine (bytes_live (B + 1) B _ _ _ HWR.out).mono ?_
        rintro x w5 ⟨rfl, rfl⟩
        clear HWR
        have hm1 : (catF fs).size ≤ 140737488355328 := by omega
        have hm2 : (catF fs).size ≤ maxLen := by unfold maxLen; omega
        have SPL := Lib.hid (fun j (hj : j < fs.length) => catF_split fs j hj)
        have STP := Lib.hid (fun j (hj : j < fs.length) => catF_step fs j hj)
        have hfin : catF (fs.take k) = catF fs := by rw [HTK.out]
        have HFIN := Lib.hid hfin
        clear hfin
        generalize catF fs = BB at *
        go_wp2_with fail
        refine (read_any BB hm1 _).mono ?_
        rintro x w5 ⟨r, hr, rfl, hr5, hb5⟩
        have HB5 := Lib.hid (HBEL.out.trans (hb5.mono HBEL.out.size))
        have hrw : w.heap.size ≤ r := Nat.le_trans HBEL.out.size hr
        have HR5 := Lib.hid hr5
        clear hb5 hr5 hr HBEL hdr hH
        go_wp2_with fail
        go_loopw [55] (fun v55 wr2 => ∃ (j : Nat), j ≤ k ∧ v55 = .int .i64 j ∧ Rd wr2 r (rst BB (catF (fs.take j)).size 0) 0 ∧ Below w.heap.size w wr2) (fun v55 _ => k - (intOf v55).toNat)
        case atStart => exact ⟨0, Nat.zero_le _, rfl, HR5.out, HB5.out⟩
        case round =>
          obtain ⟨j, hj, rfl, hrd, hbel⟩ := hrel
          clear HB5 HR5
          have HBEL := Lib.hid hbel
          have HRD := Lib.hid hrd
          have hdr := HD.out.below hbel
          have hH := hbel.size
          have hrl := hrd.lt
          clear hbel hrd
          by_cases hlt : j < k
          · obtain ⟨b, off, rfl, hf⟩ := H.out.lies (by omega)
            have hb := hf.lt (by omega)
            have ck : wr.cell? ⟨b, off + j * 3, none⟩ = some (.int .i64 (fs.getD j fd0).1) := (HBEL.out.cell hb).trans (hf.k j (by omega))
            have cn : wr.cell? ⟨b, off + j * 3 + 1, none⟩ = some (.int .i64 (fs.getD j fd0).2.1) := (HBEL.out.cell hb).trans (hf.n j (by omega))
            have ct : wr.cell? ⟨b, off + j * 3 + 2, none⟩ = some (.string (fs.getD j fd0).2.2) := (HBEL.out.cell hb).trans (hf.t j (by omega))
            have htx := HTX.out j hlt
            have hokj := HOK.out j hlt
            obtain ⟨post, hpost⟩ := SPL.out j (by omega)
            have hstp := STP.out j (by omega)
            have hAt : (catF (fs.take j)).size ≤ BB.size := by rw [hpost]; simp only [ByteArray.size_append]; omega
            have hnext : (catF (fs.take (j + 1))).size = (catF (fs.take j)).size + (pxF (fs.getD j fd0)).size := by rw [hstp, ByteArray.size_append]
            clear hstp hf hb
            by_cases h1 : (fs.getD j fd0).1 = 1
            · have okn : okN (fs.getD j fd0).2.1 := hokj.1 h1
              have e1 : pxF (fs.getD j fd0) = strOfNums (putS (fs.getD j fd0).2.1) := by unfold pxF; rw [if_pos h1]; unfold pxN; rw [if_pos okn]
              rw [e1] at hpost hnext
              obtain ⟨r1, r2, r3⟩ := rd_raw (catF (fs.take j)) post (fs.getD j fd0).2.1 okn
              rw [← hpost] at r1 r2 r3
              have hno := num_of BB (catF (fs.take j)).size 1152921504606846976 _ hAt r1 r3
              rw [show bd 1152921504606846976 = 1152921504606846976 from by decide] at hno
              rw [← hnext] at r2
              have k1 : ((fs.getD j fd0).1 == 1) = true := by rw [beq_iff_eq]; exact h1
              by_cases hbig : (fs.getD j fd0).2.1 ≤ 1152921504606846976
              · obtain ⟨v1, v2⟩ := hno.1 hbig
                have P : ∀ W, Wd W → Rd W r (rst BB (catF (fs.take j)).size 0) 0 → Calls Tryd.prog 11 #[.pointer (some ⟨r, 0, none⟩), .int .i64 1152921504606846976] W fun x w' => x = .returned (.int .i64 (fs.getD j fd0).2.1) ∧ Rd w' r (rst BB (catF (fs.take (j + 1))).size 0) 0 ∧ W.grownBy w' (some r) := by
                  intro W hW hR
                  have hx := num_any BB (catF (fs.take j)).size 0 1152921504606846976 r hAt hm2 (by decide) (by decide) W hW hR
                  rw [v1, v2, r2] at hx
                  exact hx
                have P11 := Lib.hid P
                clear P hno v1 v2 r1 r2 r3 hpost hnext e1 okn hokj h1 hAt
                generalize (fs.getD j fd0).2.2 = t at *
                generalize (fs.getD j fd0).2.1 = n at *
                generalize (fs.getD j fd0).1 = kd at *
                go_wp2_with fail
                refine (P11.out _ (hdr.alloc _) (HRD.out.alloc _)).mono ?_
                rintro x w6 ⟨rfl, hr6, hg6⟩
                have c6 : w6.cell? ⟨wr.heap.size, 1, none⟩ = some (.int .i64 n) := hg6.cell (fcell1b wr _ n t _) (by simp; omega)
                have HR6 := Lib.hid hr6
                have HB6 := Lib.hid ((HBEL.out.alloc hH _).grown hg6 (by simp; omega) (fun k e => by simp at e; omega))
                clear hr6 hg6 P11 ck cn ct
                go_wp2
                go_roundw
                case rel => exact ⟨j + 1, by omega, by go_num, HR6.out, HB6.out⟩
                case measure => simp [intOf]; omega
              · obtain ⟨v1, v2⟩ := hno.2 (by omega)
                have P : ∀ W, Wd W → Rd W r (rst BB (catF (fs.take j)).size 0) 0 → Calls Tryd.prog 11 #[.pointer (some ⟨r, 0, none⟩), .int .i64 1152921504606846976] W fun x w' => x = .returned (.int .i64 0) ∧ Rd w' r ⟨#[]⟩ 1 ∧ W.grownBy w' (some r) := by
                  intro W hW hR
                  have hx := num_any BB (catF (fs.take j)).size 0 1152921504606846976 r hAt hm2 (by decide) (by decide) W hW hR
                  rw [v1, v2, rst_dead _ _ 1 (by decide)] at hx
                  exact hx
                have P11 := Lib.hid P
                clear P hno v1 v2 r1 r2 r3 hpost hnext e1 okn hokj h1 hAt
                generalize (fs.getD j fd0).2.2 = t at *
                generalize (fs.getD j fd0).2.1 = n at *
                generalize (fs.getD j fd0).1 = kd at *
                have hbig2 : 1152921504606846976 < n := by omega
                go_wp2_with fail
                refine (P11.out _ (hdr.alloc _) (HRD.out.alloc _)).mono ?_
                rintro x w6 ⟨rfl, hr6, hg6⟩
                have c6 : w6.cell? ⟨wr.heap.size, 1, none⟩ = some (.int .i64 n) := hg6.cell (fcell1b wr _ n t _) (by simp; omega)
                have HR6 := Lib.hid hr6
                have HB6 := Lib.hid ((HBEL.out.alloc hH _).grown hg6 (by simp; omega) (fun k e => by simp at e; omega))
                clear hr6 hg6 P11 ck cn ct
                go_wp2_with fail
                refine (err_any r _ 1 _ HR6.out).mono ?_
                rintro x w7 ⟨rfl, rfl⟩
                go_wp2
                go_ret
                exact ⟨rfl, HB6.out⟩
            have k1 : ((fs.getD j fd0).1 == 1) = false := by rw [beq_eq_false_iff_ne]; exact h1
            by_cases h2 : (fs.getD j fd0).1 = 2
            · have okn : okS (fs.getD j fd0).2.1 := hokj.2 h2
              have e1 : pxF (fs.getD j fd0) = strOfNums (putS (zigS (fs.getD j fd0).2.1)) := by unfold pxF; rw [if_neg h1, if_pos h2]; unfold pxS; rw [if_pos okn]
              rw [e1] at hpost hnext
              obtain ⟨r1, r2, r3⟩ := rd_raw (catF (fs.take j)) post (zigS (fs.getD j fd0).2.1) (zig_bd _ okn)
              rw [← hpost] at r1 r2 r3
              rw [← hnext] at r2
              have v1 : sgnV BB (catF (fs.take j)).size 0 = (fs.getD j fd0).2.1 := by unfold sgnV; rw [if_neg (by rw [r3]; simp), r1, zag_zig]
              have k2 : ((fs.getD j fd0).1 == 2) = true := by rw [beq_iff_eq]; exact h2
              have P : ∀ W, Wd W → Rd W r (rst BB (catF (fs.take j)).size 0) 0 → Calls Tryd.prog 13 #[.pointer (some ⟨r, 0, none⟩)] W fun x w' => x = .returned (.int .i64 (fs.getD j fd0).2.1) ∧ Rd w' r (rst BB (catF (fs.take (j + 1))).size 0) 0 ∧ W.grownBy w' (some r) := by
                intro W hW hR
                have hx := sgn_any BB (catF (fs.take j)).size 0 r (by omega) hAt hm2 W hW hR
                rw [v1, r3, r2] at hx
                exact hx
              have P11 := Lib.hid P
              clear P v1 r1 r2 r3 hpost hnext e1 okn hokj h1 h2 hAt
              generalize (fs.getD j fd0).2.2 = t at *
              generalize (fs.getD j fd0).2.1 = n at *
              generalize (fs.getD j fd0).1 = kd at *
              go_wp2_with fail
              go_region_with (first
                | (go_at_call 13; refine (P11.out _ (wd_drew (hdr.alloc _)) (rd_drew (HRD.out.alloc _))).mono ?_; rintro x w6 ⟨rfl, hr6, hg6⟩; have c6 : w6.cell? ⟨wr.heap.size, 1, none⟩ = some (.int .i64 n) := hg6.cell (fcell1b wr _ n t _) (by simp; omega); have HR6 := Lib.hid hr6; have HB6 := Lib.hid ((HBEL.out.alloc hH _).drew.grown hg6 (by simp; omega) (fun k e => by simp at e; omega)); clear hr6 hg6))
              all_goals (
                clear c6 P11 ck cn ct
                go_wp2
                go_roundw
                case rel => exact ⟨j + 1, by omega, by go_num, HR6.out, HB6.out⟩
                case measure => simp [intOf]; omega)
            have k2 : ((fs.getD j fd0).1 == 2) = false := by rw [beq_eq_false_iff_ne]; exact h2
            have e1 : pxF (fs.getD j fd0) = pxT (fs.getD j fd0).2.2 := by unfold pxF; rw [if_neg h1, if_neg h2]
            rw [e1] at hpost hnext
            obtain ⟨v1, v2, v3⟩ := rd_txt (catF (fs.take j)) post (fs.getD j fd0).2.2 200 (by omega) (by rw [show bd 200 = 200 from by decide]; omega)
            rw [← hpost] at v1 v2 v3
            rw [← hnext] at v2
            have P : ∀ W, Wd W → Rd W r (rst BB (catF (fs.take j)).size 0) 0 → Calls Tryd.prog 15 #[.pointer (some ⟨r, 0, none⟩), .int .i64 200] W fun x w' => x = .returned (.string (fs.getD j fd0).2.2) ∧ Rd w' r (rst BB (catF (fs.take (j + 1))).size 0) 0 ∧ W.grownBy w' (some r) := by
              intro W hW hR
              have hx := txt_any BB (catF (fs.take j)).size 0 200 r hAt hm1 (by decide) (by decide) W hW hR
              rw [v1, v2, v3] at hx
              exact hx
            have P11 := Lib.hid P
            clear P v1 v2 v3 hpost hnext e1 hokj h1 h2 hAt
            generalize (fs.getD j fd0).2.2 = t at *
            generalize (fs.getD j fd0).2.1 = n at *
            generalize (fs.getD j fd0).1 = kd at *
            go_wp2_with fail
            go_region_with (first
              | (go_at_call 15; refine (P11.out _ (wd_drew (hdr.alloc _)) (rd_drew (HRD.out.alloc _))).mono ?_; rintro x w6 ⟨rfl, hr6, hg6⟩; have c6 : w6.cell? ⟨wr.heap.size, 2, none⟩ = some (.string t) := hg6.cell (fcell2 wr _ n t _) (by simp; omega); have HR6 := Lib.hid hr6; have HB6 := Lib.hid ((HBEL.out.alloc hH _).drew.grown hg6 (by simp; omega) (fun k e => by simp at e; omega)); clear hr6 hg6))
            all_goals (
              clear c6 P11 ck cn ct
              go_wp2
              go_roundw
              case rel => exact ⟨j + 1, by omega, by go_num, HR6.out, HB6.out⟩
              case measure => simp [intOf]; omega)
          · obtain rfl : j = k := by omega
            rw [HFIN.out] at HRD
            have P := end_any BB BB.size 0 r wr HRD.out
            rw [end_all] at P
            have HP := Lib.hid P
            clear P HRD
            go_wp2_with fail
            refine HP.out.mono ?_
            rintro x w6 ⟨rfl, hr6, hg6⟩
            have HB6 := Lib.hid (HBEL.out.grown hg6 hH (fun k e => by simp at e; omega))
            clear hr6 hg6 HP
            go_wp2
            go_ret
            exact ⟨rfl, HB6.out⟩
theorem walkBack (a : Option Addr) (len cap : Nat) (fs : List Fd) (w : World) (hd : Wd w) (h : IsFs w a len fs) :
    Calls Tryd.prog 5 #[.slice a len cap] w fun x w' => x = .returned (.bool true) ∧ Below w.heap.size w w' := by
  by_cases hg : greatS ⟨#[]⟩ len fs
  · exact back_great a len cap fs hg w hd h
  · exact back_play a len cap fs hg w hd h
end Go.Proofs.YtgeafheoaffooaaDoor
