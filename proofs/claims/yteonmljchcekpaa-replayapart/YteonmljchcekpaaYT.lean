/- The document's Touched. -/
import Derived.Test.YteonmljchcekpaaYT0
import Derived.Deep.RegionHeld3
import Derived.Deep.QuietTactic
import Derived.BigQuiet
namespace Go.Proofs.Yteonmljchcekpaa
open Go Go.RowKit Go.Maps Go.Sort
set_option maxRecDepth 20000
theorem bel_next {wF w1 w7 : World} (h : Below wF.heap.size wF w1) (hb : Below w1.heap.size w1 w7) : Below wF.heap.size wF w7 := Below.next h hb
theorem ssAt_drewN {w : World} {a : Option Addr} {len : Nat} {ts : List Ky} (h : SsAt w a len ts) (n : Nat) : SsAt (w.drewN n) a len ts := ⟨h.size, h.lies⟩
theorem bel_undrewN {w w' : World} {n : Nat} (h : Below (w.drewN n).heap.size (w.drewN n) w') : Below w.heap.size w w' := ⟨h.os, h.tape, h.output, h.size, h.block⟩
theorem rowS_drewN {B w v l} (h : RowS B w v l) (n : Nat) : RowS B (w.drewN n) v l := h
theorem bel_drewN {B : Nat} {w w' : World} (h : Below B w w') (n : Nat) : Below B w (w'.drewN n) := ⟨h.os, h.tape, h.output, h.size, h.block⟩
theorem RowS.cell {B w a n c l} (h : RowS B w (.slice a n c) l) (hn : n = l.length) {j : Nat} (hj : j < l.length) : ∃ b off, a = some ⟨b, off, none⟩ ∧ w.cell? ⟨b, off + j, none⟩ = some (.string ⟨(l.getD j []).toArray⟩) := by
  obtain ⟨hi, _, _⟩ := h.isS hn
  obtain ⟨b, off, e, _, hf⟩ := hi.lies (by omega)
  exact ⟨b, off, e, hf j hj⟩
set_option maxHeartbeats 8000000 in
theorem dtouched_any (ar : Option Addr) (lr cr : Nat) (rs : List Rn) (hp : Pl [] rs) (ss : List Ky) (hss : TouL (flatR rs) ss) (w : World) (hr : IsRs w ar lr rs) :
    Calls Try.prog 19 #[.slice ar lr cr] w fun e w' => ∃ a' c', e = .returned (.slice a' ss.length c') ∧ IsSs w' a' ss ∧ Below w.heap.size w w' := by
  have HF := fun w hr => Lib.hid (flat_any none 0 0 [] ar lr cr rs hp (Nat.le_refl _) (fun _ => rfl) w (isUs_nil w) hr)
  rw [List.append_nil] at HF
  have hlen := hp.len
  rw [List.append_nil] at hlen
  have HSS := Lib.hid hss
  have HR := Lib.hid hr
  clear hp hr hss
  generalize flatR rs = us at *
  go_enter Try.func19, Try.ntmps19
  go_wp2_with fail
  refine (HF _ HR.out).out.mono ?_
  rintro e wF ⟨aF, cF, rfl, hi, hbF⟩
  have HUS := Lib.hid hi
  have HBF := Lib.hid hbF
  clear hi hbF HF HR
  obtain ⟨n, hn⟩ : ∃ n, us.length = n := ⟨_, rfl⟩
  rw [hn] at HUS hlen ⊢
  go_wp2_with fail
  go_loopw [4, 5] (fun v4 v5 wr => ∃ (k : Nat) (ts : List Ky) (a4 : Option Addr) (c4 : Nat), k ≤ n ∧ v5 = .int .i64 k ∧ v4 = .slice a4 ts.length c4 ∧ RowS wF.heap.size wr (.slice a4 ts.length c4) ts ∧ ts.length ≤ k ∧ TouL (us.take k) ts ∧ Below wF.heap.size wF wr) (fun _ v5 _ => n - (intOf v5).toNat)
  case atStart => exact ⟨0, [], some ⟨wF.heap.size, 0, none⟩, 0, Nat.zero_le _, rfl, rfl, rowS_new wF, Nat.le_refl _, ⟨List.Pairwise.nil, fun x => ⟨fun h => (by cases h), fun ⟨_, h, _⟩ => (by cases h)⟩⟩, Joins.below_alloc1 _ _⟩
  case round =>
    obtain ⟨k, ts, a4, c4, hk, rfl, rfl, hrow, htk, htl, hbel⟩ := hrel
    by_cases hlt : k < n
    · obtain ⟨b2, off2, eF, c0, c1, c2, c3⟩ := cells_of HUS.out hbel hlt
      subst eF
      have HKC0 : Hid (∀ W, Below wF.heap.size wF W → W.cell? ⟨b2, off2 + k * 4, none⟩ = some (.string (us.getD k up0).1)) := Lib.hid fun W hW => by
        obtain ⟨b3, off3, e3, d0, _⟩ := cells_of HUS.out hW hlt
        simp only [Option.some.injEq, Addr.mk.injEq, and_true] at e3
        obtain ⟨rfl, rfl⟩ := e3
        exact d0
      have HSN := Lib.hid (up_snoc us k (by omega))
      have HM := fun w => Lib.hid (rmay_any (us.getD k up0) w)
      have HR0 := Lib.hid hrow
      have HB0 := Lib.hid hbel
      have HTL := Lib.hid htl
      clear hrow hbel htl
      by_cases hme : mayE (us.getD k up0) = 0
      · have HME := Lib.hid hme
        rw [hme] at HM
        clear hme
        obtain ⟨key, HKE⟩ : ∃ key, Hid ((us.getD k up0).1 = key) := ⟨_, Lib.hid rfl⟩
        have HKC : Hid (∀ W, Below wF.heap.size wF W → W.cell? ⟨b2, off2 + k * 4, none⟩ = some (.string key)) := by rw [← HKE.out]; exact HKC0
        have HUP : Hid (∃ ux un ut, us.getD k up0 = (key, ux, un, ut)) := Lib.hid ⟨_, _, _, by rw [← HKE.out]⟩
        obtain ⟨ux, un, ut, hup⟩ := HUP.out
        rw [hup] at c0 c1 c2 c3 HM
        simp only [uu] at c0 c1 c2 c3 HM
        have HUE := Lib.hid hup
        clear HUP HKC0 hup
        go_wp2_with fail
        refine (HM _).out.mono ?_
        rintro e w1 ⟨rfl, hb1⟩
        have HRw := Lib.hid (HR0.out.below hb1)
        have HBw := Lib.hid (bel_next HB0.out hb1)
        clear hb1 HR0 HB0 HM c0 c1 c2 c3
        go_wp2_with fail
        go_loopw [6] (fun v6 w2 => ∃ j : Nat, j ≤ ts.length ∧ v6 = .int .i64 j ∧ (∀ i, i < j → ts.getD i [] < ky key) ∧ RowS wF.heap.size w2 (.slice a4 ts.length c4) ts ∧ Below wF.heap.size wF w2) (fun v6 _ => ts.length - (intOf v6).toNat)
        case atStart => exact ⟨0, Nat.zero_le _, rfl, fun i hi => absurd hi (Nat.not_lt_zero i), HRw.out, HBw.out⟩
        case round =>
          obtain ⟨j, hj, rfl, hall, hr1, hb1⟩ := hrel
          clear HRw HBw
          have HALL := Lib.hid hall
          have HR1 := Lib.hid hr1
          have HB1 := Lib.hid hb1
          have c0 := HKC.out _ hb1
          have z0 : (0 : Int) ≤ (j : Int) := by omega
          have z1 : (0 : Int) ≤ (k : Int) := by omega
          have z2 : (k : Int) < (n : Int) := by omega
          have hw1 := hb1.size
          clear hall hb1
          by_cases hjn : j < ts.length
          · obtain ⟨b4, off4, ea, c1⟩ := hr1.cell rfl hjn
            subst ea
            obtain ⟨tb, HTB⟩ : ∃ tb : ByteArray, Hid (ts.getD j [] = ky tb) := ⟨⟨(ts.getD j []).toArray⟩, Lib.hid rfl⟩
            rw [HTB.out] at c1
            have c2 : wr.cell? ⟨b4, off4 + j, none⟩ = some (.string tb) := c1
            clear c1 hr1
            have z3 : (j : Int) < (ts.length : Int) := by omega
            have z4 : decide (j < ts.length) = true := decide_eq_true hjn
            by_cases hlt2 : ky tb < ky key
            · have q := less_yes hlt2
              have HLT := Lib.hid hlt2
              clear hlt2
              go_wp2_with fail
              go_quiet (fail)
              go_wp2
              go_roundw
              case rel =>
                refine ⟨j + 1, by omega, by go_num, fun i hi => ?_, rowS_drewN HR1.out _, bel_drewN HB1.out _⟩
                rcases Nat.lt_or_ge i j with hx | hx
                · exact HALL.out i hx
                · rw [show i = j by omega, HTB.out]; exact HLT.out
              case measure => simp [intOf]; omega
            · have q := less_no hlt2
              by_cases he : tb = key
              · subst he
                have q2 := eq_yes tb
                have HT2 := Lib.hid (touL_there (u := us.getD k up0) HTL.out (by rw [HKE.out, ← HTB.out]; exact getD_mem hjn))
                rw [← HSN.out] at HT2
                clear hlt2
                go_wp2_with fail
                go_quiet (fail)
                go_wp2_with fail
                go_quiet (fail)
                go_wp2
                go_roundw
                case rel => exact ⟨k + 1, ts, _, _, by omega, by go_num, rfl, rowS_drewN HR1.out _, by omega, HT2.out, bel_drewN HB1.out _⟩
                case measure => simp [intOf]; omega
              · have q2 := eq_no he
                have hgt : ky key < ky tb := Classical.byContradiction fun hx => he (ky_inj (List.le_antisymm hx hlt2))
                have HT2 := Lib.hid (touL_ins (u := us.getD k up0) (j := j) HTL.out HME.out (by rw [HKE.out]; exact HALL.out) (fun _ => by rw [HKE.out, HTB.out]; exact hgt))
                rw [← HSN.out, HKE.out] at HT2
                clear hlt2 he hgt
                go_wp2_with fail
                go_quiet (fail)
                go_wp2_with fail
                go_quiet (fail)
                generalize hA4 : (some ({ block := b4, off := off4 } : Addr)) = a4 at *
                have hcap := HR1.out.isS rfl
                have hs1 := slS_front a4 ts.length c4 j (by omega)
                have hs2 := slS_back a4 ts.length c4 j hj
                have HBK := Lib.hid (SsAt.back hcap.1 hcap.2.1 hj)
                have HBN := Lib.hid (back_none (n := j) hcap.2.2)
                have hbc : ts.length - j ≤ c4 - j := by omega
                generalize (if c4 = j then a4 else a4.map (·.add (j * 1))) = RA at *
                clear hcap
                go_wp2_with (first
                  | (at_builtin; refine wpList_appS0 rfl _ _ rfl rfl RA (ts.length - j) (c4 - j) rfl (ts.drop j) (ssAt_drewN HBK.out _) hbc HBN.out (by omega) ?_; intro a7 c7 w7 hr7 hb7; have HR7 : Hid (RowS wr.heap.size w7 (.slice a7 (ts.length - j) c7) (ts.drop j)) := Lib.hid hr7; have HF7 := Lib.hid (RowS.front (HR1.out.below (bel_undrewN hb7)) rfl hj); have HB7 := Lib.hid (bel_next HB1.out (bel_undrewN hb7)); clear hr7 hb7; go_frame)
                  | fail)
                have hw7 := HB7.out.size
                have hts : (ts.drop j).length = ts.length - j := List.length_drop
                have htk : (ts.take j).length = j := by rw [List.length_take]; omega
                have d0 := HKC.out _ HB7.out
                have tok2 : True := trivial
                have tok3 : True := trivial
                go_wp2_with fail
                go_region_held3 (fun w' => w'.cell? ⟨b2, off2 + k * 4, none⟩ = some (.string key))
                  (first | with_reducible assumption | with_reducible exact HKC.out _ HB7.out.drew | with_reducible exact HKC.out _ (HB7.out.alloc HB7.out.size _).drew | with_reducible exact HKC.out _ H8.out.2 | with_reducible exact HKC.out _ H9.out)
                  (first
                    | (have _t := tok2
                       refine step_appS (by rfl) (.tmp 64) (.tmp 70) (by rfl) wF.heap.size _ (ts.take j) (by rfl) (HF7.out.alloc _).drew (some ⟨w7.heap.size, 0, none⟩) 1 1 (by rfl) [ky key] (ssAt_one _ key).drew (Nat.le_refl _) (fun e => by cases e) (by omega) (by simp; omega) ?_
                       intro a8 c8 w8 hr8 hg8 ho8
                       have H8 := Lib.hid (ins_mid HR1.out HB7.out HF7.out HR7.out hg8)
                       have HR8 := Lib.hid hr8
                       clear tok2 hr8 hg8 ho8)
                    | (have _t := tok3
                       refine step_appS (by rfl) (.tmp 71) (.tmp 72) (by rfl) wF.heap.size _ (ts.take j ++ [ky key]) (by rfl) HR8.out a7 (ts.length - j) c7 (by rfl) (ts.drop j) (H8.out.1.isS hts.symm).1 (H8.out.1.isS hts.symm).2.1 (H8.out.1.isS hts.symm).2.2 (by simp; omega) H8.out.2.size ?_
                       intro a9 c9 w9 hr9 hg9 ho9
                       have H9 := Lib.hid (belS HR8.out H8.out.2 hg9 H8.out.2.size)
                       have HR9 := Lib.hid hr9
                       clear tok3 hr9 hg9 ho9))
                rw [ins_len ts j (ky key) hj] at HR9
                go_wp2
                go_roundw
                case rel =>
                  refine ⟨k + 1, ins ts j (ky key), a9, c9, by omega, by go_num, by rw [ins_length _ hj]; congr 1; omega, HR9.out, ?_, HT2.out, H9.out⟩
                  rw [ins_length _ hj]; omega
                case measure => simp [intOf]; omega
          · have HT2 := Lib.hid (touL_ins (u := us.getD k up0) (j := j) HTL.out HME.out (by rw [HKE.out]; exact HALL.out) (fun hx => absurd hx hjn))
            rw [← HSN.out, HKE.out] at HT2
            have z4 : decide (j < ts.length) = false := decide_eq_false hjn
            clear hr1
            go_wp2_with fail
            go_quiet (fail)
            go_wp2_with fail
            go_quiet (fail)
            have hcap := HR1.out.isS rfl
            have hs1 := slS_front a4 ts.length c4 j (by omega)
            have hs2 := slS_back a4 ts.length c4 j hj
            have HBK := Lib.hid (SsAt.back hcap.1 hcap.2.1 hj)
            have HBN := Lib.hid (back_none (n := j) hcap.2.2)
            have hbc : ts.length - j ≤ c4 - j := by omega
            generalize (if c4 = j then a4 else a4.map (·.add (j * 1))) = RA at *
            clear hcap
            go_wp2_with (first
              | (at_builtin; refine wpList_appS0 rfl _ _ rfl rfl RA (ts.length - j) (c4 - j) rfl (ts.drop j) (ssAt_drewN HBK.out _) hbc HBN.out (by omega) ?_; intro a7 c7 w7 hr7 hb7; have HR7 : Hid (RowS wr.heap.size w7 (.slice a7 (ts.length - j) c7) (ts.drop j)) := Lib.hid hr7; have HF7 := Lib.hid (RowS.front (HR1.out.below (bel_undrewN hb7)) rfl hj); have HB7 := Lib.hid (bel_next HB1.out (bel_undrewN hb7)); clear hr7 hb7; go_frame)
              | fail)
            have hw7 := HB7.out.size
            have hts : (ts.drop j).length = ts.length - j := List.length_drop
            have htk : (ts.take j).length = j := by rw [List.length_take]; omega
            have d0 := HKC.out _ HB7.out
            have tok2 : True := trivial
            have tok3 : True := trivial
            go_wp2_with fail
            go_region_held3 (fun w' => w'.cell? ⟨b2, off2 + k * 4, none⟩ = some (.string key))
              (first | with_reducible assumption | with_reducible exact HKC.out _ HB7.out.drew | with_reducible exact HKC.out _ (HB7.out.alloc HB7.out.size _).drew | with_reducible exact HKC.out _ H8.out.2 | with_reducible exact HKC.out _ H9.out)
              (first
                | (have _t := tok2
                   refine step_appS (by rfl) (.tmp 64) (.tmp 70) (by rfl) wF.heap.size _ (ts.take j) (by rfl) (HF7.out.alloc _).drew (some ⟨w7.heap.size, 0, none⟩) 1 1 (by rfl) [ky key] (ssAt_one _ key).drew (Nat.le_refl _) (fun e => by cases e) (by omega) (by simp; omega) ?_
                   intro a8 c8 w8 hr8 hg8 ho8
                   have H8 := Lib.hid (ins_mid HR1.out HB7.out HF7.out HR7.out hg8)
                   have HR8 := Lib.hid hr8
                   clear tok2 hr8 hg8 ho8)
                | (have _t := tok3
                   refine step_appS (by rfl) (.tmp 71) (.tmp 72) (by rfl) wF.heap.size _ (ts.take j ++ [ky key]) (by rfl) HR8.out a7 (ts.length - j) c7 (by rfl) (ts.drop j) (H8.out.1.isS hts.symm).1 (H8.out.1.isS hts.symm).2.1 (H8.out.1.isS hts.symm).2.2 (by simp; omega) H8.out.2.size ?_
                   intro a9 c9 w9 hr9 hg9 ho9
                   have H9 := Lib.hid (belS HR8.out H8.out.2 hg9 H8.out.2.size)
                   have HR9 := Lib.hid hr9
                   clear tok3 hr9 hg9 ho9))
            rw [ins_len ts j (ky key) hj] at HR9
            go_wp2
            go_roundw
            case rel =>
              refine ⟨k + 1, ins ts j (ky key), a9, c9, by omega, by go_num, by rw [ins_length _ hj]; congr 1; omega, HR9.out, ?_, HT2.out, H9.out⟩
              rw [ins_length _ hj]; omega
            case measure => simp [intOf]; omega
      · have HT2 := Lib.hid (touL_no HTL.out hme)
        rw [← HSN.out] at HT2
        have hq : (mayE (us.getD k up0) == 0) = false := beq_false_of_ne hme
        clear hme HKC0 HSN
        generalize mayE (us.getD k up0) = me at *
        generalize us.getD k up0 = u at *
        obtain ⟨uk, ux, un, ut⟩ := u
        simp only [uu] at c0 c1 c2 c3 HM
        go_wp2_with fail
        refine (HM _).out.mono ?_
        rintro e w1 ⟨rfl, hb1⟩
        have HRw := Lib.hid (HR0.out.below hb1)
        have HBw := Lib.hid (bel_next HB0.out hb1)
        clear hb1 HR0 HB0 HM
        go_wp2
        go_roundw
        case rel => exact ⟨k + 1, ts, a4, c4, by omega, by go_num, rfl, HRw.out, by omega, HT2.out, HBw.out⟩
        case measure => simp [intOf]; omega
    · obtain rfl : k = n := by omega
      rw [← hn, List.take_length] at htl
      obtain rfl := HSS.out.eq htl
      have HRw := Lib.hid hrow
      have HBw := Lib.hid (Below.next HBF.out hbel)
      clear hrow hbel htl HSS
      go_wp2
      go_ret
      exact ⟨a4, c4, rfl, (HRw.out.isS rfl).1.is, HBw.out⟩
end Go.Proofs.Yteonmljchcekpaa
