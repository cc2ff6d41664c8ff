/- The walk of FeedOrder. -/
import Derived.Test.YtjmkdgjdemndaaaDoorD5
namespace Go.Proofs.YtjmkdgjdemndaaaDoor
open Go Go.RowKit
set_option maxRecDepth 20000
set_option maxHeartbeats 16000000 in
theorem walkOrder (x : Int) (a : Option Addr) (len cap : Nat) (rs : List Rn) (a2 : Option Addr) (len2 cap2 : Nat) (l2 : List Int) (w : World) (hd : X.Wd w) (h : IsRs w a len rs) (h2 : IsBs w a2 len2 l2) :
    Calls Tryd.prog 4 #[.int .i64 x, .slice a len cap, .slice a2 len2 cap2] w fun e w' => e = .returned (.bool true) ∧ Below w.heap.size w w' := by
  have HD := Lib.hid hd
  have H := Lib.hid h
  have HA2 := Lib.hid h2
  have hsz := h.size
  clear h hd h2
  go_enter Tryd.func4, Tryd.ntmps4
  go_wp2_with fail
  refine (cnew_any 3 w.heap.size w (Nat.le_refl _)).mono ?_
  rintro e w1 ⟨rfl, hj, hb⟩
  have HJ0 := Lib.hid hj
  have HB0 := Lib.hid hb
  clear hj hb
  go_wp2_with fail
  refine (K.lnew_any 1 x 1 true w1).mono ?_
  rintro e w2 ⟨rfl, ⟨bs, br, hl⟩, hb⟩
  have hlo : w.heap.size ≤ w1.heap.size := HB0.out.size
  have HL0 := Lib.hid (hl.lower hlo)
  have HJ1 := Lib.hid (HJ0.out.next hb)
  have HB1 := Lib.hid (Below.next HB0.out hb)
  clear hl hb HJ0 HB0 hlo
  generalize w1.heap.size = b at *
  go_wp2_with fail
  refine (fnew_any w2).mono ?_
  rintro e w3 ⟨rfl, hf, hb⟩
  have H1 : Hid (Fj w w3 w.heap.size (Jf w.heap.size (.slice none 0 0) fun _ => False) (clP 3) [] b bs br ⟨1, x, 1, true, 0, [], 0, []⟩ w2.heap.size 0) := Lib.hid ⟨Below.next HB1.out hb, HJ1.out.next hb, ⟨_, _, HL0.out.next hb⟩, hf, HB1.out.size⟩
  rw [show clP 3 = 3 from rfl] at H1
  clear hf hb HJ1 HL0 HB1
  generalize Jf w.heap.size (.slice none 0 0) (fun _ => False) = F0 at H1
  generalize w2.heap.size = fb at *
  by_cases hg : gRs rs
  · go_wp2_with fail
    refine (awake_any _ (HD.out.below H1.out.bel)).mono ?_
    rintro e w4 ⟨rfl, hb⟩
    have H2 := Lib.hid (H1.out.next hb)
    clear hb H1
    go_wp2_with fail
    refine (greatRs_yes a len cap rs hg _ (isRs_below H.out H2.out.bel)).mono ?_
    rintro e w5 ⟨rfl, hb⟩
    have H3 := Lib.hid (H2.out.next hb)
    clear hb H2
    go_wp2_with fail
    refine (awake_any _ (HD.out.below H3.out.bel)).mono ?_
    rintro e w6 ⟨rfl, hb⟩
    have H4 := Lib.hid (H3.out.next hb)
    clear hb H3
    go_wp2
    go_ret
    exact ⟨rfl, H4.out.bel⟩
  obtain ⟨hl40, hgl⟩ := gRs_at hg
  have HG := Lib.hid hgl
  have HNG := fun w h => Lib.hid (greatRs_no a len cap rs hg w h)
  have hlen : len ≤ 40 := by omega
  clear hgl hl40 hg
  go_wp2_with fail
  refine (awake_any _ (HD.out.below H1.out.bel)).mono ?_
  rintro e w4 ⟨rfl, hb⟩
  have H2 := Lib.hid (H1.out.next hb)
  clear hb H1
  go_wp2_with fail
  refine (HNG _ (isRs_below H.out H2.out.bel)).out.mono ?_
  rintro e w5 ⟨rfl, hb⟩
  have H3 := Lib.hid (H2.out.next hb)
  clear hb H2 HNG
  by_cases h60 : 60 < len2
  · have k1 : decide ((60 : Int) < (len2 : Int)) = true := decide_eq_true (by omega)
    go_wp2_with fail
    refine (awake_any _ (HD.out.below H3.out.bel)).mono ?_
    rintro e w6 ⟨rfl, hb⟩
    have H4 := Lib.hid (H3.out.next hb)
    clear hb H3
    go_wp2
    go_ret
    exact ⟨rfl, H4.out.bel⟩
  have k1 : decide ((60 : Int) < (len2 : Int)) = false := decide_eq_false (by omega)
  go_wp2_with fail
  go_loopw [10, 11, 49] (fun v10 v11 v49 wr => ∃ i : Nat, i ≤ len2 ∧ v49 = .int .i64 i ∧ ∃ (p : Nat) (v : Value) (got : List Rn) (F : Nat → Prop) (L : List Cr) (bs br : Nat) (E : K.En) (k : Nat) (ds : List ByteArray), v = v10 ∧ v11 = .int .i64 (p : Int) ∧ L = sofar 3 rs (min i len) ∧ Fo w wr w.heap.size F 3 L b bs br E fb p v got ∧ Fq x L p p E k ds ∧ got.map kR = L.take p) (fun _ _ v49 _ => len2 - (intOf v49).toNat)
  case atStart => exact ⟨0, Nat.zero_le _, rfl, 0, _, [], F0, [], bs, br, _, 0, [], rfl, rfl, by rw [Nat.zero_min]; rfl, fo_start H3.out, fq_start x, rfl⟩
  case round =>
    obtain ⟨i, hi, rfl, p, v, got, F, L, bs, br, E, k, ds, rfl, rfl, hL, hfo, hq, hgm⟩ := hrel
    clear H3
    by_cases hlt2 : i < len2
    · obtain ⟨ab, aoff, ea, hab, hz⟩ := HA2.out.lies (by omega)
      subst ea
      obtain ⟨hz1, _, _⟩ := hz i hlt2
      have z9 := (hfo.j.bel.cell hab).trans hz1
      generalize l2.getD i 0 = zz at z9
      clear hz hz1
      by_cases hlt : i < len
      · have q1 : decide ((i : Int) < (len : Int)) = true := decide_eq_true (by omega)
        obtain ⟨gb, off, ef, d0, d1, d2, hru⟩ := rcells_of H.out hfo.j.bel hlt
        subst ef
        obtain ⟨_, hsm⟩ := HG.out i (by omega)
        have hru2 := hru.below hfo.j.bel
        have hst := sofar_step 3 (rs := rs) (k := i) (by omega)
        have hsl := sofar_len 3 rs i
        rw [Nat.min_eq_left (by omega)] at hL
        rw [← hL] at hst hsl
        generalize rs.getD i rn0 = r at *
        obtain ⟨ro, rn, ra, rl, rc, rus⟩ := r
        simp only at d0 d1 d2 hsm hru2
        have hL1000 : L.length ≤ 1000 := by omega
        have HAD := Lib.hid (fo_add hL1000 ⟨ro, rn, ra, rl, rc, rus⟩ hsm wr hru2 hfo hq hgm)
        have HST := Lib.hid hst
        clear hru hru2 hst hL hsm hL1000 hsl hfo hq hgm
        go_wp2_with fail
        refine HAD.out.mono ?_
        rintro e w4 ⟨⟨en, rfl⟩, F, hfo, hq, hgm⟩
        rw [← HST.out] at hfo hq hgm
        have hLS : sofar 3 rs (i + 1) = sofar 3 rs (min (i + 1) len) := by rw [Nat.min_eq_left (by omega)]
        generalize sofar 3 rs (i + 1) = L at *
        have HLS := Lib.hid hLS
        have HFO := Lib.hid hfo
        have HFQ := Lib.hid hq
        have HGM := Lib.hid hgm
        clear hfo hq hgm HAD HST hLS
        have hL40 : L.length ≤ 40 := by
          rw [HLS.out]
          have := sofar_len 3 rs (min (i + 1) len)
          omega
        have HL40 := Lib.hid hL40
        have hL1000 : L.length ≤ 1000 := by omega
        have HL1000 := Lib.hid hL1000
        clear hL40 hL1000
        go_wp2_with fail
        refine (fo_pump HL1000.out HD.out _ HFO.out HFQ.out).mono ?_
        rintro e w5 ⟨⟨n, rfl⟩, E2, p2, ds2, hfo, hq2⟩
        have HFO2 := Lib.hid hfo
        have HQ2 := Lib.hid hq2
        clear hfo hq2 HFO HFQ
        obtain ⟨N, hN⟩ : ∃ N, E2.frames.length = N := ⟨_, rfl⟩
        have HNL := Lib.hid hN
        have hN60 : N ≤ 1000 := by
          rw [← hN, HQ2.out.n]
          have h1 := HQ2.out.pl
          have h2 := HQ2.out.kp
          have h3 := HL40.out
          split <;> omega
        clear hN
        go_wp2_with fail
        refine (fj_frames rfl HNL.out _ HFO2.out.j).mono ?_
        rintro e w6 ⟨a3, x3, rfl, hr, hb⟩
        have HFO3 := Lib.hid (HFO2.out.next hb)
        have HRF := Lib.hid hr
        clear hr hb HFO2
        go_wp2_with fail
        go_loopw [10, 11, 71] (fun v10 v11 v71 wr => ∃ j : Nat, j ≤ N ∧ v71 = .int .i64 j ∧ ∃ (u : Value) (gt : List Rn), u = v10 ∧ v11 = .int .i64 ((lastj p p2 k j : Nat) : Int) ∧ Fo w wr w.heap.size F 3 L b bs br E2 fb p2 u gt ∧ gt.map kR = L.take (lastj p p2 k j) ∧ ∃ B, K.RowF B wr (.slice a3 N x3) E2.frames) (fun _ _ v71 _ => N - (intOf v71).toNat)
        case atStart => exact ⟨0, Nat.zero_le _, rfl, _, got, rfl, by rw [HQ2.out.first], HFO3.out, by rw [HQ2.out.first]; exact HGM.out, _, HRF.out⟩
        case round =>
          clear HRF
          obtain ⟨j, hj, rfl, u, gt, rfl, e11, hfo, hgm, B, hrow⟩ := hrel
          by_cases hjn : j < N
          · obtain ⟨s, dd, hf, hcase⟩ := HQ2.out.at (j := j) (by rw [HNL.out]; exact hjn)
            have hfs := (hrow.isF HNL.out.symm).1
            obtain ⟨b1, off1, e1, _, hf1⟩ := hfs.lies (by omega)
            subst e1
            have f4 := hf1 j hjn
            rw [hf] at f4
            have z0 := f4.e
            have z1 := f4.s
            have z2 := f4.a
            have z3 := f4.d
            simp only at z0 z1 z2 z3
            have hlp : lastj p p2 k j ≤ 1000 := by
              have h1 := HQ2.out.pl
              have h2 := HQ2.out.p0p
              have h3 := HL40.out
              unfold lastj
              omega
            obtain ⟨lj, hlj⟩ : ∃ n, lastj p p2 k j = n := ⟨_, rfl⟩
            obtain ⟨lk, hlk⟩ : ∃ n, lastj p p2 k (j + 1) = n := ⟨_, rfl⟩
            rw [hlj, hlk] at hcase
            rw [hlj] at hgm e11 hlp
            subst e11
            have HLK := Lib.hid hlk
            have HGT := Lib.hid hgm
            have hbA := Joins.below_alloc1 wr (.cells #[.int .i64 1, .int .i64 s, .int .i64 0, .string dd] 40)
            have HFA := Lib.hid (hfo.next hbA)
            have HRA := Lib.hid (hrow.below hbA)
            have hfb : K.Fb (wr.alloc (.cells #[.int .i64 1, .int .i64 s, .int .i64 0, .string dd] 40)) wr.heap.size (1, s, 0, dd) := heap_alloc_new wr _
            have y1 := hfb.c1
            have y3 := hfb.c3
            simp only at y1 y3
            have HFB := Lib.hid hfb
            clear hf hfs hf1 f4 hlk hgm hbA hfo hrow hfb HFO3 hlj
            rcases hcase with ⟨hle, hsame⟩ | ⟨hs, hnext, hlt, hdd⟩
            · have q2 : decide (s ≤ (lj : Int)) = true := decide_eq_true hle
              have HSAME := Lib.hid hsame
              clear hle hsame
              go_wp2
              go_roundw
              case rel => exact ⟨j + 1, by omega, by go_num, u, gt, rfl, by rw [HLK.out, HSAME.out], HFA.out, by rw [HLK.out, HSAME.out]; exact HGT.out, B, HRA.out⟩
              case measure => simp [intOf]; omega
            · have q2 : decide (s ≤ (lj : Int)) = false := decide_eq_false (by omega)
              have hs2 : s = (lj : Int) + 1 := by omega
              clear hs
              subst hs2
              have hmay := (HFA.out.j.lg.good.each _ (show L.getD lj kr0 ∈ L by rw [List.getD_eq_getElem?_getD, List.getElem?_eq_getElem hlt]; exact List.getElem_mem _)).1
              have htk := take_one hlt
              subst hdd
              obtain ⟨q, hqq⟩ : ∃ q, L.getD lj kr0 = q := ⟨_, rfl⟩
              rw [hqq] at hmay htk y3 z3 HFA HRA HFB
              have HMAY := Lib.hid hmay
              have HTK := Lib.hid htk
              have HNEXT := Lib.hid hnext
              clear hmay htk hqq hnext hlt
              go_wp2_with fail
              refine (got_any q HMAY.out _ (HD.out.below HFA.out.j.bel)).mono ?_
              rintro e w7 ⟨r, rfl, hown, hkr, hb⟩
              have hN : ∀ y, F y → y < (wr.alloc (.cells #[.int .i64 1, .int .i64 ((lj : Int) + 1), .int .i64 0, .string (pxC q)] 40)).heap.size := fun y hy => (HFA.out.j.lg.foot y hy).2
              have hBN := HFA.out.j.bel.size
              generalize (wr.alloc (.cells #[.int .i64 1, .int .i64 ((lj : Int) + 1), .int .i64 0, .string (pxC q)] 40)).heap.size = N7 at hown hN hBN
              obtain ⟨ro, rn, ra, rl, rc, rus⟩ := r
              have HKR := Lib.hid hkr
              have hb8 := Below.next hb (Joins.below_alloc1 w7 (.cells #[.int .i64 ro, .int .i64 rn, .slice ra rl rc] 43))
              have hb9 := Below.next hb8 (Joins.below_alloc1 (w7.alloc (.cells #[.int .i64 ro, .int .i64 rn, .slice ra rl rc] 43)) (.cells #[.int .i64 ro, .int .i64 rn, .slice ra rl rc] 43))
              have HF9 := Lib.hid (HFA.out.next hb9)
              have HR9 := Lib.hid (HRA.out.below hb9)
              have ho9 := (hown.next' (Joins.below_alloc1 w7 (.cells #[.int .i64 ro, .int .i64 rn, .slice ra rl rc] 43))).next' (Joins.below_alloc1 (w7.alloc (.cells #[.int .i64 ro, .int .i64 rn, .slice ra rl rc] 43)) (.cells #[.int .i64 ro, .int .i64 rn, .slice ra rl rc] 43))
              have hfb8 : K.Fb (w7.alloc (.cells #[.int .i64 ro, .int .i64 rn, .slice ra rl rc] 43)) wr.heap.size (1, (lj : Int) + 1, 0, pxC q) := HFB.out.same (hb8.block _ HFB.out.lt)
              have x1 := hfb8.c1
              simp only at x1
              have h8 := Rb.new w7 ro rn ra rl rc
              have g0 := h8.c0
              have g1 := h8.c1
              have g2 := h8.c2
              have hone := rsAt_one (w7.alloc (.cells #[.int .i64 ro, .int .i64 rn, .slice ra rl rc] 43)) ⟨ro, rn, ra, rl, rc, rus⟩
              rw [show (w7.alloc (.cells #[.int .i64 ro, .int .i64 rn, .slice ra rl rc] 43)).heap.size = w7.heap.size + 1 by simp] at hone
              have HONE := Lib.hid hone
              have HO9 := Lib.hid ho9
              have HN7 := Lib.hid hN
              have HBN := Lib.hid hBN
              have hgl9 : gt.length ≤ 1000 := by
                have := congrArg List.length HGT.out
                rw [List.length_map, List.length_take] at this
                omega
              have HGL9 := Lib.hid hgl9
              clear hb hb8 hb9 ho9 hfb8 h8 hone hN hBN hown hkr hgl9 y1 z0 z1 z2 z3
              simp only [rv]
              go_wp2_with (at_builtin; refine wpList_appR rfl (.tmp 96) (.tmp 98) rfl w.heap.size _ _ rfl HF9.out.g.row (some ⟨w7.heap.size + 1, 0, none⟩) 1 1 rfl [⟨ro, rn, ra, rl, rc, rus⟩] HONE.out (Nat.le_refl _) (fun e => by cases e) (by have := HGL9.out; omega) HF9.out.j.bel.size ?_)
              intro a' c' w9 h1 h2 h3
              have h3' : (Value.slice a' (gt.length + 1) c').ownBlock = u.ownBlock ∨ (Value.slice a' (gt.length + 1) c').ownBlock = some ((w7.alloc (.cells #[.int .i64 ro, .int .i64 rn, .slice ra rl rc] 43)).alloc (.cells #[.int .i64 ro, .int .i64 rn, .slice ra rl rc] 43)).heap.size := by rw [show ((w7.alloc (.cells #[.int .i64 ro, .int .i64 rn, .slice ra rl rc] 43)).alloc (.cells #[.int .i64 ro, .int .i64 rn, .slice ra rl rc] 43)).heap.size = w7.heap.size + 1 + 1 by simp]; exact h3
              have HF10 := Lib.hid (HF9.out.app HO9.out HN7.out HBN.out h1 h2 h3')
              have HR10 := Lib.hid (HF9.out.rowF HR9.out h2)
              clear h1 h2 h3 h3' HF9 HR9 HONE HO9 HN7 HBN
              go_wp2
              go_roundw
              case rel => exact ⟨j + 1, by omega, by go_num, _, _, rfl, by rw [HLK.out, HNEXT.out]; rfl, HF10.out, by rw [HLK.out, HNEXT.out, List.map_append, HGT.out, HTK.out, List.map_cons, List.map_nil, HKR.out], B, HR10.out⟩
              case measure => simp [intOf]; omega
          · obtain rfl : j = N := by omega
            have he := HQ2.out.end
            rw [HNL.out] at he
            rw [he] at e11 hgm
            subst e11
            have HFO4 := Lib.hid hfo
            have HGM4 := Lib.hid hgm
            have hp2 : p2 ≤ 1000 := by
              have h1 := HQ2.out.pl
              have h3 := HL40.out
              omega
            clear hfo hgm hrow he HFO3
            go_wp2_with fail
            refine (fo_hear _ _ HFO4.out HQ2.out).mono ?_
            rintro e w8 ⟨rfl, bs2, br2, E3, k3, ds3, hfo, hq3⟩
            have HFO5 := Lib.hid hfo
            have HQ3 := Lib.hid hq3
            clear hfo hq3 HFO4
            go_wp2
            go_roundw
            case rel => exact ⟨i + 1, by omega, by go_num, p2, u, gt, F, L, bs2, br2, E3, k3, ds3, rfl, rfl, HLS.out, HFO5.out, HQ3.out, HGM4.out⟩
            case measure => simp [intOf]; omega
      · have q1 : decide ((i : Int) < (len : Int)) = false := decide_eq_false (by omega)
        have hLS : L = sofar 3 rs (min (i + 1) len) := by rw [hL, Nat.min_eq_right (by omega), Nat.min_eq_right (by omega)]
        have HLS := Lib.hid hLS
        have HFO := Lib.hid hfo
        have HFQ := Lib.hid hq
        have HGM := Lib.hid hgm
        clear hfo hq hgm hLS hL
        have hL40 : L.length ≤ 40 := by
          rw [HLS.out]
          have := sofar_len 3 rs (min (i + 1) len)
          omega
        have HL40 := Lib.hid hL40
        have hL1000 : L.length ≤ 1000 := by omega
        have HL1000 := Lib.hid hL1000
        clear hL40 hL1000
        go_wp2_with fail
        refine (fo_pump HL1000.out HD.out _ HFO.out HFQ.out).mono ?_
        rintro e w5 ⟨⟨n, rfl⟩, E2, p2, ds2, hfo, hq2⟩
        have HFO2 := Lib.hid hfo
        have HQ2 := Lib.hid hq2
        clear hfo hq2 HFO HFQ
        obtain ⟨N, hN⟩ : ∃ N, E2.frames.length = N := ⟨_, rfl⟩
        have HNL := Lib.hid hN
        have hN60 : N ≤ 1000 := by
          rw [← hN, HQ2.out.n]
          have h1 := HQ2.out.pl
          have h2 := HQ2.out.kp
          have h3 := HL40.out
          split <;> omega
        clear hN
        go_wp2_with fail
        refine (fj_frames rfl HNL.out _ HFO2.out.j).mono ?_
        rintro e w6 ⟨a3, x3, rfl, hr, hb⟩
        have HFO3 := Lib.hid (HFO2.out.next hb)
        have HRF := Lib.hid hr
        clear hr hb HFO2
        go_wp2_with fail
        go_loopw [10, 11, 71] (fun v10 v11 v71 wr => ∃ j : Nat, j ≤ N ∧ v71 = .int .i64 j ∧ ∃ (u : Value) (gt : List Rn), u = v10 ∧ v11 = .int .i64 ((lastj p p2 k j : Nat) : Int) ∧ Fo w wr w.heap.size F 3 L b bs br E2 fb p2 u gt ∧ gt.map kR = L.take (lastj p p2 k j) ∧ ∃ B, K.RowF B wr (.slice a3 N x3) E2.frames) (fun _ _ v71 _ => N - (intOf v71).toNat)
        case atStart => exact ⟨0, Nat.zero_le _, rfl, _, got, rfl, by rw [HQ2.out.first], HFO3.out, by rw [HQ2.out.first]; exact HGM.out, _, HRF.out⟩
        case round =>
          clear HRF
          obtain ⟨j, hj, rfl, u, gt, rfl, e11, hfo, hgm, B, hrow⟩ := hrel
          by_cases hjn : j < N
          · obtain ⟨s, dd, hf, hcase⟩ := HQ2.out.at (j := j) (by rw [HNL.out]; exact hjn)
            have hfs := (hrow.isF HNL.out.symm).1
            obtain ⟨b1, off1, e1, _, hf1⟩ := hfs.lies (by omega)
            subst e1
            have f4 := hf1 j hjn
            rw [hf] at f4
            have z0 := f4.e
            have z1 := f4.s
            have z2 := f4.a
            have z3 := f4.d
            simp only at z0 z1 z2 z3
            have hlp : lastj p p2 k j ≤ 1000 := by
              have h1 := HQ2.out.pl
              have h2 := HQ2.out.p0p
              have h3 := HL40.out
              unfold lastj
              omega
            obtain ⟨lj, hlj⟩ : ∃ n, lastj p p2 k j = n := ⟨_, rfl⟩
            obtain ⟨lk, hlk⟩ : ∃ n, lastj p p2 k (j + 1) = n := ⟨_, rfl⟩
            rw [hlj, hlk] at hcase
            rw [hlj] at hgm e11 hlp
            subst e11
            have HLK := Lib.hid hlk
            have HGT := Lib.hid hgm
            have hbA := Joins.below_alloc1 wr (.cells #[.int .i64 1, .int .i64 s, .int .i64 0, .string dd] 40)
            have HFA := Lib.hid (hfo.next hbA)
            have HRA := Lib.hid (hrow.below hbA)
            have hfb : K.Fb (wr.alloc (.cells #[.int .i64 1, .int .i64 s, .int .i64 0, .string dd] 40)) wr.heap.size (1, s, 0, dd) := heap_alloc_new wr _
            have y1 := hfb.c1
            have y3 := hfb.c3
            simp only at y1 y3
            have HFB := Lib.hid hfb
            clear hf hfs hf1 f4 hlk hgm hbA hfo hrow hfb HFO3 hlj
            rcases hcase with ⟨hle, hsame⟩ | ⟨hs, hnext, hlt, hdd⟩
            · have q2 : decide (s ≤ (lj : Int)) = true := decide_eq_true hle
              have HSAME := Lib.hid hsame
              clear hle hsame
              go_wp2
              go_roundw
              case rel => exact ⟨j + 1, by omega, by go_num, u, gt, rfl, by rw [HLK.out, HSAME.out], HFA.out, by rw [HLK.out, HSAME.out]; exact HGT.out, B, HRA.out⟩
              case measure => simp [intOf]; omega
            · have q2 : decide (s ≤ (lj : Int)) = false := decide_eq_false (by omega)
              have hs2 : s = (lj : Int) + 1 := by omega
              clear hs
              subst hs2
              have hmay := (HFA.out.j.lg.good.each _ (show L.getD lj kr0 ∈ L by rw [List.getD_eq_getElem?_getD, List.getElem?_eq_getElem hlt]; exact List.getElem_mem _)).1
              have htk := take_one hlt
              subst hdd
              obtain ⟨q, hqq⟩ : ∃ q, L.getD lj kr0 = q := ⟨_, rfl⟩
              rw [hqq] at hmay htk y3 z3 HFA HRA HFB
              have HMAY := Lib.hid hmay
              have HTK := Lib.hid htk
              have HNEXT := Lib.hid hnext
              clear hmay htk hqq hnext hlt
              go_wp2_with fail
              refine (got_any q HMAY.out _ (HD.out.below HFA.out.j.bel)).mono ?_
              rintro e w7 ⟨r, rfl, hown, hkr, hb⟩
              have hN : ∀ y, F y → y < (wr.alloc (.cells #[.int .i64 1, .int .i64 ((lj : Int) + 1), .int .i64 0, .string (pxC q)] 40)).heap.size := fun y hy => (HFA.out.j.lg.foot y hy).2
              have hBN := HFA.out.j.bel.size
              generalize (wr.alloc (.cells #[.int .i64 1, .int .i64 ((lj : Int) + 1), .int .i64 0, .string (pxC q)] 40)).heap.size = N7 at hown hN hBN
              obtain ⟨ro, rn, ra, rl, rc, rus⟩ := r
              have HKR := Lib.hid hkr
              have hb8 := Below.next hb (Joins.below_alloc1 w7 (.cells #[.int .i64 ro, .int .i64 rn, .slice ra rl rc] 43))
              have hb9 := Below.next hb8 (Joins.below_alloc1 (w7.alloc (.cells #[.int .i64 ro, .int .i64 rn, .slice ra rl rc] 43)) (.cells #[.int .i64 ro, .int .i64 rn, .slice ra rl rc] 43))
              have HF9 := Lib.hid (HFA.out.next hb9)
              have HR9 := Lib.hid (HRA.out.below hb9)
              have ho9 := (hown.next' (Joins.below_alloc1 w7 (.cells #[.int .i64 ro, .int .i64 rn, .slice ra rl rc] 43))).next' (Joins.below_alloc1 (w7.alloc (.cells #[.int .i64 ro, .int .i64 rn, .slice ra rl rc] 43)) (.cells #[.int .i64 ro, .int .i64 rn, .slice ra rl rc] 43))
              have hfb8 : K.Fb (w7.alloc (.cells #[.int .i64 ro, .int .i64 rn, .slice ra rl rc] 43)) wr.heap.size (1, (lj : Int) + 1, 0, pxC q) := HFB.out.same (hb8.block _ HFB.out.lt)
              have x1 := hfb8.c1
              simp only at x1
              have h8 := Rb.new w7 ro rn ra rl rc
              have g0 := h8.c0
              have g1 := h8.c1
              have g2 := h8.c2
              have hone := rsAt_one (w7.alloc (.cells #[.int .i64 ro, .int .i64 rn, .slice ra rl rc] 43)) ⟨ro, rn, ra, rl, rc, rus⟩
              rw [show (w7.alloc (.cells #[.int .i64 ro, .int .i64 rn, .slice ra rl rc] 43)).heap.size = w7.heap.size + 1 by simp] at hone
              have HONE := Lib.hid hone
              have HO9 := Lib.hid ho9
              have HN7 := Lib.hid hN
              have HBN := Lib.hid hBN
              have hgl9 : gt.length ≤ 1000 := by
                have := congrArg List.length HGT.out
                rw [List.length_map, List.length_take] at this
                omega
              have HGL9 := Lib.hid hgl9
              clear hb hb8 hb9 ho9 hfb8 h8 hone hN hBN hown hkr hgl9 y1 z0 z1 z2 z3
              simp only [rv]
              go_wp2_with (at_builtin; refine wpList_appR rfl (.tmp 96) (.tmp 98) rfl w.heap.size _ _ rfl HF9.out.g.row (some ⟨w7.heap.size + 1, 0, none⟩) 1 1 rfl [⟨ro, rn, ra, rl, rc, rus⟩] HONE.out (Nat.le_refl _) (fun e => by cases e) (by have := HGL9.out; omega) HF9.out.j.bel.size ?_)
              intro a' c' w9 h1 h2 h3
              have h3' : (Value.slice a' (gt.length + 1) c').ownBlock = u.ownBlock ∨ (Value.slice a' (gt.length + 1) c').ownBlock = some ((w7.alloc (.cells #[.int .i64 ro, .int .i64 rn, .slice ra rl rc] 43)).alloc (.cells #[.int .i64 ro, .int .i64 rn, .slice ra rl rc] 43)).heap.size := by rw [show ((w7.alloc (.cells #[.int .i64 ro, .int .i64 rn, .slice ra rl rc] 43)).alloc (.cells #[.int .i64 ro, .int .i64 rn, .slice ra rl rc] 43)).heap.size = w7.heap.size + 1 + 1 by simp]; exact h3
              have HF10 := Lib.hid (HF9.out.app HO9.out HN7.out HBN.out h1 h2 h3')
              have HR10 := Lib.hid (HF9.out.rowF HR9.out h2)
              clear h1 h2 h3 h3' HF9 HR9 HONE HO9 HN7 HBN
              go_wp2
              go_roundw
              case rel => exact ⟨j + 1, by omega, by go_num, _, _, rfl, by rw [HLK.out, HNEXT.out]; rfl, HF10.out, by rw [HLK.out, HNEXT.out, List.map_append, HGT.out, HTK.out, List.map_cons, List.map_nil, HKR.out], B, HR10.out⟩
              case measure => simp [intOf]; omega
          · obtain rfl : j = N := by omega
            have he := HQ2.out.end
            rw [HNL.out] at he
            rw [he] at e11 hgm
            subst e11
            have HFO4 := Lib.hid hfo
            have HGM4 := Lib.hid hgm
            have hp2 : p2 ≤ 1000 := by
              have h1 := HQ2.out.pl
              have h3 := HL40.out
              omega
            clear hfo hgm hrow he HFO3
            go_wp2_with fail
            refine (fo_hear _ _ HFO4.out HQ2.out).mono ?_
            rintro e w8 ⟨rfl, bs2, br2, E3, k3, ds3, hfo, hq3⟩
            have HFO5 := Lib.hid hfo
            have HQ3 := Lib.hid hq3
            clear hfo hq3 HFO4
            go_wp2
            go_roundw
            case rel => exact ⟨i + 1, by omega, by go_num, p2, u, gt, F, L, bs2, br2, E3, k3, ds3, rfl, rfl, HLS.out, HFO5.out, HQ3.out, HGM4.out⟩
            case measure => simp [intOf]; omega
    · obtain rfl : i = len2 := by omega
      have hpl := hq.pl
      have hLL : L.length ≤ 40 := by
        rw [hL]
        have := sofar_len 3 rs (min i len)
        omega
      have hgl := got_len hgm hpl
      have hsm := hfo.j.lg.sm
      obtain ⟨M, hM⟩ : ∃ M, L.length = M := ⟨_, rfl⟩
      have hL1000 : L.length ≤ 1000 := by omega
      have hCA := fun W h => Lib.hid (call_any (L := L) (B := w.heap.size) (b := w.heap.size) (F := F) (c := 3) hL1000 W h)
      rw [hM] at hCA hpl hLL
      obtain ⟨ag, cg, hv, _, _, _⟩ := hfo.g.row.is
      rw [hgl] at hv
      subst hv
      have q2 : decide ((p : Int) ≤ (M : Int)) = true := decide_eq_true (by omega)
      have HCA := Lib.hid hCA
      have HM := Lib.hid hM
      have HSM := Lib.hid hsm
      have HGL := Lib.hid hgl
      have HGM := Lib.hid hgm
      have HFO := Lib.hid hfo
      clear hCA hM hsm hgl hgm hfo hq hL hL1000
      go_wp2_with fail
      refine (HCA.out _ HFO.out.j.lg).out.mono ?_
      rintro e w6 ⟨g, xs, rfl, hrz, _, how, hxs, hb⟩
      have HFO2 := Lib.hid (HFO.out.next hb)
      have hfront := fun W => slR_front (some ⟨g, 0, none⟩) M M p (by omega) W
      have h2 := rz_is hrz how
      have l2 := map_len hxs
      rw [HM.out] at l2
      rw [l2] at h2
      have h1 := (HFO2.out.g.row.isR HGL.out.symm fun r hr => (HFO2.out.g.own r hr).ru).1
      have hal : Alk p got (xs.take p) := alk_of (by rw [HGM.out, List.map_take, hxs]) p
      have hsz9 : ∀ i, i < p → (got.getD i rn0).us.length ≤ 1000000 := fun i hi => us_le (L := L.take p) (fun r hr => HSM.out r (List.mem_of_mem_take hr)) HGM.out i (by rw [HGL.out]; exact hi)
      have HSA := Lib.hid (sameall_yes ag (some ⟨g, 0, none⟩) p cg M got (xs.take p) (by omega) hal hsz9 w6 h1 (h2.front hpl))
      clear hrz how hxs hb h1 h2 l2 hal hsz9 HFO
      go_wp2_with fail
      refine (fat_any _ HFO2.out.j.fd).mono ?_
      rintro e w7 ⟨rfl, rfl⟩
      go_wp2_with fail
      refine HSA.out.mono ?_
      rintro e w8 ⟨rfl, hb⟩
      have HFO3 := Lib.hid (HFO2.out.next hb)
      clear hb
      go_wp2
      go_ret
      exact ⟨rfl, HFO3.out.j.bel⟩
end Go.Proofs.YtjmkdgjdemndaaaDoor
