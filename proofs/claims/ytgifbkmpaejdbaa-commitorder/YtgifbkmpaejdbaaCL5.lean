/- The walk of CommitOrder. -/
import Derived.Test.YtgifbkmpaejdbaaC8
import Derived.Maps.OwnOps
import Derived.Maps.RangeWalk
import Derived.Maps.Views
namespace Go.Proofs.Ytgifbkmpaejdbaa
open Go Go.RowKit
set_option maxRecDepth 20000
open Go.Maps
theorem lawK : Keyed Try.prog 3 := int_keyed Try.underlying3
theorem zeroK (w : World) : (zeroValue 3).run Try.prog w = .ok (.int .i64 0) w := by kernel_rfl
/-- What the law's map holds behind these rounds: at each origin how many there were. -/
structure MD (D : DataW Unit) (L : List Cr) : Prop where
  map : Maps.IsMap D
  at' : ∀ o : Int, D.atKey (.int .i64 o) (.lit (.int .i64 0)) = .lit (.int .i64 (lastL o L))
  has : ∀ kl, Maps.has D kl = true → ∃ r ∈ L, kl = .int .i64 r.1
theorem MD.start : MD (.map []) [] := ⟨Maps.isMap_empty, fun _ => rfl, fun kl h => by cases h⟩
theorem MD.step {D : DataW Unit} {L : List Cr} (h : MD D L) (r : Cr) : MD (D.put (.int .i64 r.1) (.lit (.int .i64 r.2.1))) (L ++ [r]) := by
  refine ⟨h.map.put _ _, fun o => ?_, fun kl hk => ?_⟩
  · rw [lastL_snoc]
    by_cases e : r.1 = o
    · rw [if_pos e, ← e, Maps.atKey_put_same (k := .int .i64 r.1) h.map trivial]
    · rw [if_neg e, Maps.atKey_put_other (fun e' => e (by cases e'; rfl))]
      exact h.at' o
  · by_cases e : kl = .int .i64 r.1
    · exact ⟨r, List.mem_append.2 (.inr (List.mem_singleton.2 rfl)), e⟩
    · rw [Maps.has_put_other e] at hk
      obtain ⟨r', hr, e'⟩ := h.has kl hk
      exact ⟨r', List.mem_append.2 (.inl hr), e'⟩
theorem Cj.turn {T : TypeId} {P : Int → List Cr → Value → Array Value → Prop} {w0 w w' : World} {b m : Nat} {F : Nat → Prop} {c : Int} {L : List Cr} (h : Cj T P w0 w b F c L) (hg : w.grownBy w' (some m)) (hm : ¬ F m) (hB : w0.heap.size ≤ m) : Cj T P w0 w' b F c L :=
  ⟨h.bel.grown hg h.bel.size (fun j hj => by cases hj; exact hB), h.j.keep fun k hk => hg.block k (h.j.foot k hk).2 (fun e => hm (by cases e; exact hk))⟩
theorem grown_below {w w' : World} (hg : w.grownBy w' none) : Below w.heap.size w w' := ⟨hg.os, hg.tape, hg.output, hg.size, fun k hk => hg.block k hk (by simp)⟩
theorem lit_inj {a b : Int} (h : (DataW.lit (.int .i64 a) : DataW Unit) = .lit (.int .i64 b)) : a = b := by
  cases h
  rfl
theorem take_kR {xs : List Rn} {L : List Cr} (h : xs.map kR = L) (i : Nat) : L.getD i kr0 = kR (xs.getD i rn0) := by rw [← h, map_getD]
theorem wf_ro {o : Int} (h1 : 1 ≤ o) (h2 : o ≤ 64) : (Lit.int .i64 o).wf = true := WalkArith.wf_i64 (by omega)
set_option maxHeartbeats 4000000 in
theorem walkOrder (c0 : Int) (a : Option Addr) (len cap : Nat) (rs : List Rn) (w : World) (h : IsRs w a len rs) :
    Calls Try.prog 6 #[.int .i64 c0, .slice a len cap] w fun e w' => e = .returned (.bool true) ∧ Below w.heap.size w w' := by
  have H := Lib.hid h
  have hsz := h.size
  have hmm := @run_makeMap Try.prog
  clear h
  go_enter Try.func6, Try.ntmps6
  go_wp2_with fail
  refine (cnew_any c0 w.heap.size w (Nat.le_refl _)).mono ?_
  rintro e w1 ⟨rfl, hj, hb⟩
  have H1 : Hid (Cj 53 Pc w w1 w.heap.size _ (clP c0) []) := Lib.hid ⟨hb, hj⟩
  generalize Jf w.heap.size (.slice none 0 0) (fun _ => False) = F0 at H1
  clear hj hb
  have HL : min (max c0 1) 64 = clP c0 := by
    unfold clP
    split
    · omega
    · split <;> omega
  have HCL := Lib.hid HL
  clear HL
  generalize clP c0 = c at *
  by_cases hg : gRs rs
  · go_wp2_with fail
    refine (awake_any _).mono ?_
    rintro e w2 ⟨rfl, hb⟩
    have H2 := Lib.hid (H1.out.next hb)
    clear hb H1
    go_wp2_with fail
    refine (greatRs_yes a len cap rs hg _ (isRs_below H.out H2.out.bel)).mono ?_
    rintro e w3 ⟨rfl, hb⟩
    have H3 := Lib.hid (H2.out.next hb)
    clear hb H2
    go_wp2_with fail
    refine (awake_any _).mono ?_
    rintro e w4 ⟨rfl, hb⟩
    have H4 := Lib.hid (H3.out.next hb)
    clear hb H3
    go_wp2
    go_ret
    exact ⟨rfl, H4.out.bel⟩
  obtain ⟨hl40, hgl⟩ := gRs_at hg
  have HG := Lib.hid hgl
  have HNG := fun w h => Lib.hid (greatRs_no a len cap rs hg w h)
  have hlen : len ≤ 40 := by omega
  clear hgl hl40 hg
  go_wp2_with fail
  refine (awake_any _).mono ?_
  rintro e w2 ⟨rfl, hb⟩
  have H2 := Lib.hid (H1.out.next hb)
  clear hb H1
  go_wp2_with fail
  refine (HNG _ (isRs_below H.out H2.out.bel)).out.mono ?_
  rintro e w3 ⟨rfl, hb⟩
  have H3 := Lib.hid (H2.out.next hb)
  clear hb H2 HNG
  go_wp2_with fail
  go_loopw [28] (fun v28 wr => ∃ k : Nat, k ≤ len ∧ v28 = .int .i64 k ∧ ∃ F L, L = sofar c rs k ∧ Cj 53 Pc w wr w.heap.size F c L) (fun v28 _ => len - (intOf v28).toNat)
  case atStart => exact ⟨0, Nat.zero_le _, rfl, F0, [], rfl, H3.out⟩
  case round =>
    obtain ⟨k, hk, rfl, F, L, hL, hp⟩ := hrel
    clear H3
    by_cases hlt : k < len
    · obtain ⟨gb, off, rfl, d0, d1, d2, hru⟩ := rcells_of H.out hp.bel hlt
      obtain ⟨_, hsm⟩ := HG.out k (by omega)
      have hru2 := (hru.below hp.bel).below (Joins.below_alloc1 wr (.cells #[.int .i64 (rs.getD k rn0).o, .int .i64 (rs.getD k rn0).n, .slice (rs.getD k rn0).a (rs.getD k rn0).len (rs.getD k rn0).cap] 31))
      have hst := sofar_step c (rs := rs) (k := k) (by omega)
      have hsl := sofar_len c rs k
      rw [← hL] at hst hsl
      have HPA := Lib.hid (hp.next (Joins.below_alloc1 wr (.cells #[.int .i64 (rs.getD k rn0).o, .int .i64 (rs.getD k rn0).n, .slice (rs.getD k rn0).a (rs.getD k rn0).len (rs.getD k rn0).cap] 31)))
      have HF8 : Hid (∀ j, wr.heap.size ≤ j → ¬ F j) := Lib.hid fun j hj hF => by have := (hp.j.foot j hF).2; omega
      generalize rs.getD k rn0 = r at *
      obtain ⟨ro, rn, ra, rl, rc, rus⟩ := r
      simp only at d0 d1 d2 hsm hru2 HPA
      have HST := Lib.hid hst
      have HRU := Lib.hid hru2
      have HSM := Lib.hid hsm
      have h8 := Rb.new wr ro rn ra rl rc
      have HR8 := Lib.hid h8
      have e0 := h8.c0
      have e1 := h8.c1
      have e2 := h8.c2
      have hL1000 : L.length ≤ 1000 := by omega
      clear hru hru2 hst hp hL hsm h8
      go_wp2_with fail
      refine (cadd_any (L := L) hL1000 ⟨ro, rn, ra, rl, rc, rus⟩ HSM.out _ HRU.out HPA.out.j).mono ?_
      rintro e w3 ⟨rfl, F', hc⟩
      have HP3 := Lib.hid (HPA.out.com hc)
      clear hc e0 e1 e2
      go_wp2
      go_roundw
      case rel => exact ⟨k + 1, by omega, by go_num, F', _, HST.out.symm, HP3.out⟩
      case measure => simp [intOf]; omega
    · obtain rfl : k = len := by omega
      have hsl := sofar_len c rs k
      rw [← hL] at hsl
      have hgd := hp.j.good
      obtain ⟨M, hM⟩ : ∃ M, L.length = M := ⟨_, rfl⟩
      have hM40 : M ≤ 40 := by omega
      have hn : L.length ≤ 1000 := by omega
      have HCA := fun W h => Lib.hid (call_any (L := L) (B := w.heap.size) (b := w.heap.size) (F := F) (c := c) hn W h)
      rw [hM] at HCA
      have hpM := hp.next (Joins.below_alloc1 wr (.map #[] 0))
      have hown0 := World.ownsMap_made wr Try.prog 3 (plainElem (H := Unit) Try.prog 3)
      have HNF : Hid (¬ F wr.heap.size) := Lib.hid fun hF => by have := (hp.j.foot _ hF).2; omega
      have HMB : Hid (w.heap.size ≤ wr.heap.size) := Lib.hid hp.bel.size
      have HMS : Hid ((wr.alloc (.map #[] 0)).heap.size = wr.heap.size + 1) := Lib.hid (by simp)
      have HC64 : Hid (c ≤ 64) := Lib.hid hp.j.cl.2
      have HGD := Lib.hid hgd
      have HM := Lib.hid hM
      have HPM := Lib.hid hpM
      have HO0 := Lib.hid hown0
      clear hp hL hsl hgd hM hn hpM hown0
      go_wp2_with fail
      generalize wr.heap.size = mb at *
      refine (HCA _ HPM.out.j).out.mono ?_
      rintro e w5 ⟨g1, xs, rfl, hrz, hg1, how, hxs, hb⟩
      have hxl := map_len hxs
      rw [HM.out] at hxl
      have HXS := Lib.hid hxs
      have HP5 := Lib.hid (HPM.out.next hb)
      have HZ5 := Lib.hid hrz
      have HO5 := Lib.hid (HO0.out.kept (grownOf none hb) (by simp))
      have HNE : Hid (g1 ≠ mb) := Lib.hid (by have := HMS.out; omega)
      have HXL := Lib.hid hxl
      clear hrz hg1 how hxs hb HPM HO0 HCA
      go_wp2_with fail
      go_loopw [40] (fun v40 wz => ∃ i : Nat, i ≤ M ∧ v40 = .int .i64 i ∧ Cj 53 Pc w wz w.heap.size F c L ∧ Rz wz g1 xs ∧ ∃ D, wz.ownsMap Try.prog 3 (plainElem (H := Unit) Try.prog 3) mb i D ∧ MD D (L.take i)) (fun v40 _ => M - (intOf v40).toNat)
      case atStart => exact ⟨0, Nat.zero_le _, rfl, HP5.out, HZ5.out, _, HO5.out, MD.start⟩
      case round =>
        obtain ⟨i, hi, rfl, hcj, hz, DD, hown, hmd⟩ := hrel
        clear HP5 HZ5 HO5
        by_cases hil : i < M
        · obtain ⟨m0, m1, m2⟩ := hz.row i (by omega)
          have hgt := HGD.out.at' (k := i) (by rw [HM.out]; exact hil)
          have hst := take_one (L := L) (k := i) (by rw [HM.out]; exact hil)
          have hbd := (HGD.out.take i).bound (L.getD i kr0).1
          have hmd2 := hmd.step (L.getD i kr0)
          rw [← hst] at hmd2
          rw [take_kR HXS.out] at hgt hbd hmd2
          have hmL := hown.lt
          have hbA := Joins.below_alloc1 wr (.cells #[.int .i64 (xs.getD i rn0).o, .int .i64 (xs.getD i rn0).n, .slice (xs.getD i rn0).a (xs.getD i rn0).len (xs.getD i rn0).cap] 31)
          have hcA := hcj.next hbA
          have hzA := hz.next hbA
          have hownA := hown.alloc (.cells #[.int .i64 (xs.getD i rn0).o, .int .i64 (xs.getD i rn0).n, .slice (xs.getD i rn0).a (xs.getD i rn0).len (xs.getD i rn0).cap] 31)
          generalize xs.getD i rn0 = r at *
          obtain ⟨ro, rn, ra, rl, rc, rus⟩ := r
          simp only [kR] at m0 m1 m2 hgt hbd hmd2 hcA hzA hownA
          have hat0 := hmd.at' ro
          obtain ⟨z, hz0⟩ : ∃ z, lastL ro (L.take i) = z := ⟨_, rfl⟩
          rw [hz0] at hgt hbd hat0
          have h8 := Rb.new wr ro rn ra rl rc
          have e0 := h8.c0
          have e1 := h8.c1
          have e2 := h8.c2
          have hwz : wrap64 (z + 1) = rn := by unfold wrap64; omega
          have HR8 := Lib.hid h8
          have HCA := Lib.hid hcA
          have HZA := Lib.hid hzA
          have HOA := Lib.hid hownA
          have HMD2 := Lib.hid hmd2
          have HAT0 := Lib.hid hat0
          have HMAP := Lib.hid hmd.map
          have HML : Hid (wr.heap.size ≠ mb) := Lib.hid (by omega)
          have HWZ := Lib.hid hwz
          have HWF : Hid ((Lit.int .i64 ro).wf = true) := Lib.hid (wf_ro hgt.2.1 (by have := HC64.out; have := hgt.2.2; omega))
          clear hgt hst hbd hmd hmd2 hown hcj hz hbA hcA hzA hownA hat0 h8 hwz hz0 hmL
          have tok1 : True := trivial
          go_wp2_with (first
            | (at_lookup; have _t := tok1; refine wpList_lookup_own_int _ rfl _ _ 49 rfl 3 3 .i64 lawK Try.underlying49 Try.underlying3 (zeroK _) mb i _ rfl HOA.out _ _ rfl (keyOf_int_mk Try.underlying3 HWF.out) ?_; intro c1 hat hwc; have hc1 := HWZ.out; rw [lit_inj (HAT0.out.symm.trans hat)] at hc1; have HC1 := Lib.hid hc1; clear tok1 hat hwc hc1)
            | (at_mapUpdate; refine wpList_mapUpdate_own _ rfl _ _ _ 49 rfl 3 3 lawK Try.underlying49 _ mb i _ rfl HOA.out (by unfold maxLen; omega) _ _ _ rfl rfl (keyOf_int_mk Try.underlying3 HWF.out) _ [] (plainElem_int Try.underlying3 (wrap64_wf _)) ?_; intro w1' hown1 hgrow1; have hr1 := HR8.out.kept hgrow1 (fun e => HML.out (by cases e; rfl)); have f0 := hr1.c0; have f1 := hr1.c1; rw [HC1.out] at hown1; have HO1 := Lib.hid hown1; have HG1 := Lib.hid hgrow1; clear hr1 hown1 hgrow1)
            | (at_lookup; refine wpList_lookup_own_int _ rfl _ _ 49 rfl 3 3 .i64 lawK Try.underlying49 Try.underlying3 (zeroK _) mb (i + 1) _ rfl HO1.out _ _ rfl (keyOf_int_mk Try.underlying3 HWF.out) ?_; intro c2 hat hwc; rw [Maps.atKey_put_same (k := .int .i64 ro) HMAP.out trivial] at hat; have q9 : (rn != c2) = false := (by rw [bne_eq_false_iff_eq]; exact lit_inj hat); clear hat hwc)
            | go_in)
          go_roundw
          case rel => exact ⟨i + 1, by omega, by go_num, HCA.out.turn HG1.out HNF.out HMB.out, HZA.out.kept HG1.out (fun e => HNE.out (by cases e; rfl)), _, HO1.out, HMD2.out⟩
          case measure => simp [intOf]; omega
        · obtain rfl : M = i := by omega
          rw [List.take_of_length_le (Nat.le_of_eq HM.out)] at hmd
          have HMDE := Lib.hid hmd
          have HCJ0 := Lib.hid hcj
          have HNR : Hid (¬ F wr.heap.size) := Lib.hid fun hF => by have := (hcj.j.foot _ hF).2; omega
          have HRB : Hid (w.heap.size ≤ wr.heap.size) := Lib.hid hcj.bel.size
          clear hcj hz hmd
          go_wp2_with (first
            | (at_range; refine wpList_range_own _ rfl _ 49 rfl 3 3 lawK Try.underlying49 _ mb M _ rfl hown ?_; intro w7 hrg0 hg0 hs0)
            | go_in)
          have HCJ0 := Lib.hid (HCJ0.out.next (grown_below hg0))
          have HRG := Lib.hid hrg0
          clear hg0 hs0 hrg0 hown
          go_frame
          generalize wr.heap.size = rr at *
          go_loopw [11] (fun _ wy => ∃ (left : Lit → Bool) (cnt : Nat), wy.ranges Try.prog 3 (plainElem (H := Unit) Try.prog 3) mb rr M DD left cnt ∧ (∀ kl, left kl = true → Maps.has DD kl = true) ∧ Cj 53 Pc w wy w.heap.size F c L) (fun _ wy => wy.rangeLeft mb rr)
          case atStart => exact ⟨_, _, HRG.out, fun kl h => h, HCJ0.out⟩
          case round =>
            obtain ⟨left, cnt, hrg, hlf, hcj⟩ := hrel
            have HCJ := Lib.hid hcj
            have HLF := Lib.hid hlf
            clear HRG HCJ0 hcj hlf
            go_wp2_with (first
              | (at_next; refine wpList_next_ranges_ii _ rfl _ rfl 3 3 .i64 .i64 lawK Try.underlying3 Try.underlying3 mb rr M _ _ _ rfl hrg ?_ ?_)
              | go_in)
            · intro _ _
              go_wp2
              go_ret
              exact ⟨rfl, HCJ.out.bel⟩
            · intro x cc w8 cnt1 hwx hwc hlx hat hrg1 hlt hg1 hs1 hen
              obtain ⟨r0, hr0, hx0⟩ := HMDE.out.has _ (HLF.out _ hlx)
              have hx1 : x = r0.1 := by cases hx0; rfl
              obtain ⟨g1', g2', _⟩ := HGD.out.each r0 hr0
              obtain ⟨g4, _⟩ := mayR_zero g1'
              unfold headOk at g4
              have hxc : lastL x L = cc := lit_inj ((HMDE.out.at' x).symm.trans (hat _))
              have q1 : decide (x < 1) = false := decide_eq_false (by rw [hx1]; omega)
              have q2 : decide (min (max c0 1) 64 < x) = false := decide_eq_false (by rw [HCL.out, hx1]; omega)
              have HC8 := Lib.hid (HCJ.out.turn hg1 HNR.out HRB.out)
              have HLA := fun W h => Lib.hid (clast_any (L := L) (B := w.heap.size) (b := w.heap.size) (F := F) (c := c) x W h)
              rw [hxc] at HLA
              have HL1 : Hid (∀ kl, (left kl && !kl.sameKey (.int .i64 x)) = true → Maps.has DD kl = true) := Lib.hid fun kl hk => by
                rw [Bool.and_eq_true] at hk
                exact HLF.out kl hk.1
              have HR1 := Lib.hid hrg1
              have HLT : Hid (w8.rangeLeft mb rr < wr.rangeLeft mb rr) := Lib.hid (by rw [hrg1.left_eq, hrg.left_eq]; exact hlt)
              clear hwx hwc hlx hat hrg1 hlt hg1 hs1 hr0 hx0 hx1 g1' g2' g4 hxc hrg
              go_wp2_with fail
              refine (HLA _ HC8.out.j).out.mono ?_
              rintro e w9 ⟨rfl, rfl⟩
              go_wp2
              go_roundw
              case rel => exact ⟨_, cnt1, HR1.out, HL1.out, HC8.out⟩
              case measure => exact HLT.out
end Go.Proofs.Ytgifbkmpaejdbaa
