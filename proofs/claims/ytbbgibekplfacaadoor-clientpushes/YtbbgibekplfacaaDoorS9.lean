/- The document's Keys. -/
import Derived.Maps.RangeWalk
import Derived.Maps.AppendAt
import Derived.OwnWalk
import Derived.Test.YtbbgibekplfacaaDoorS8
namespace Go.Proofs.YtbbgibekplfacaaDoor.Y
open Go Go.RowKit Go.Maps Go.Sort
theorem infoStr : (Tryd.prog.info? 9).map (fun i => (i.zero, i.size, i.bytes)) = some (some (.string ⟨#[]⟩), 1, 16) := by kernel_rfl
theorem run_kind (k n : Int) (s : ByteArray) (w : World) : (Instr.field 49 (.agg #[.int .i64 k, .int .i64 n, .string s]) 0).run Tryd.prog w = .ok (.int .i64 k) w := by kernel_rfl
set_option maxRecDepth 100000 in
set_option maxHeartbeats 4000000 in
theorem rkeys_any (a : Option Addr) (len cap0 : Nat) (us : List Up) (ss : List Ky) (hss : KeyL (stF us) ss) (hu : ∀ u ∈ us, Sh u.2.2.2) (hl : len ≤ 1000) (w : World) (h : IsUs w a len us) :
    Calls Tryd.prog 64 #[.slice a len cap0] w fun e w' => ∃ g cap, e = .returned (.slice (some ⟨g, 0, none⟩) ss.length cap) ∧ w'.ownsRow w.heap.size 9 1 (.slice (some ⟨g, 0, none⟩) ss.length cap) ss.length (ss.map encStr) ∧ Below w.heap.size w w' := by
  obtain ⟨i0, hi, hz0, hz1, hz2⟩ := info_parts infoStr
  have H := Lib.hid h
  have HU := Lib.hid hu
  have HSS := Lib.hid hss
  clear h hu hss
  go_enter Tryd.func64, Tryd.ntmps64
  go_wp2_with fail
  go_loopw [3, 4] (fun v3 v4 wr => ∃ (k : Nat) (ts : List Ky) (g cap : Nat), k ≤ len ∧ v4 = .int .i64 k ∧ v3 = .slice (some ⟨g, 0, none⟩) ts.length cap ∧ ts.length ≤ k ∧ Upk us k ts ∧ wr.ownsRow w.heap.size 9 1 (.slice (some ⟨g, 0, none⟩) ts.length cap) ts.length (ts.map encStr) ∧ Below w.heap.size w wr) (fun _ v4 _ => len - (intOf v4).toNat)
  case atStart =>
    exact ⟨0, [], w.heap.size, 0, Nat.zero_le _, rfl, rfl, Nat.le_refl _, upk_start us, World.ownsRow_lit w #[] 0 (Nat.le_refl _) (by unfold maxLen; omega) rfl, Joins.below_alloc1 _ _⟩
  case round =>
    obtain ⟨k, ts, g, cap, hk, rfl, rfl, htk, hup, hrow, hbel⟩ := hrel
    by_cases hlt : k < len
    · have hfl := H.out.size
      have hIs := isUs_below H.out hbel
      obtain ⟨b, off, rfl, hf⟩ := hIs.lies (by omega)
      have hb := hf.lt (by omega)
      have c0 : wr.cell? ⟨b, off + k * 4, none⟩ = some (.string (us.getD k up0).1) := hf.key k (by omega)
      have HG := fun key w h => Lib.hid (rget_any key (some ⟨b, off, none⟩) len cap0 us HU.out hl w h)
      have HI := Lib.hid hIs
      by_cases h0 : (stF us (ky (us.getD k up0).1)).1 = 0
      · have HUP := Lib.hid (upk_none hup h0)
        have HR := Lib.hid hrow
        have HB := Lib.hid hbel
        have HGk := fun w h => Lib.hid (HG (us.getD k up0).1 w h).out
        clear hf hb hup hrow hbel HG hfl hIs
        generalize stF us (ky (us.getD k up0).1) = r at *
        obtain ⟨rk, rn, rs⟩ := r
        simp only at h0
        subst h0
        generalize (us.getD k up0).1 = key at *
        simp only [vv_eq] at HGk
        have hfd := run_kind 0 rn rs
        go_wp2_with fail
        refine (HGk _ HI.out).out.mono ?_
        rintro e w1 ⟨rfl, hb1⟩
        have HR1 := Lib.hid (HR.out.kept (grown_of none hb1) (Classical.em _))
        have HB1 := Lib.hid (Below.next HB.out hb1)
        clear hb1 HR HB
        go_wp2
        go_roundw
        case rel => exact ⟨k + 1, ts, g, cap, by omega, by go_num, rfl, by omega, HUP.out, HR1.out, HB1.out⟩
        case measure => simp [intOf]; omega
      · have HN := Lib.hid h0
        have HUP := Lib.hid hup
        have HR := Lib.hid hrow
        have HB := Lib.hid hbel
        have HGk := fun w h => Lib.hid (HG (us.getD k up0).1 w h).out
        have hq : ((stF us (ky (us.getD k up0).1)).1 == 0) = false := beq_false_of_ne h0
        clear hf hb hup hrow hbel HG hfl h0 hIs
        generalize stF us (ky (us.getD k up0).1) = r at HGk hq
        obtain ⟨rk, rn, rs⟩ := r
        simp only at hq
        obtain ⟨key, HKE⟩ : ∃ key, Hid ((us.getD k up0).1 = key) := ⟨_, Lib.hid rfl⟩
        rw [HKE.out] at HGk c0
        simp only [vv_eq] at HGk
        have hfd := run_kind rk rn rs
        go_wp2_with fail
        refine (HGk _ HI.out).out.mono ?_
        rintro e w1 ⟨rfl, hb1⟩
        have hr1 := HR.out.kept (grown_of none hb1) (Classical.em _)
        have HR1 := Lib.hid hr1
        have HB1 := Lib.hid (Below.next HB.out hb1)
        clear hb1 HR HB hr1
        go_wp2_with fail
        go_loopw [6] (fun v6 wr2 => ∃ j : Nat, j ≤ ts.length ∧ v6 = .int .i64 j ∧ (∀ i, i < j → ts.getD i [] < ky key) ∧ wr2 = w1) (fun v6 _ => ts.length - (intOf v6).toNat)
        case atStart => exact ⟨0, Nat.zero_le _, rfl, fun i hi => absurd hi (Nat.not_lt_zero i), rfl⟩
        case round =>
          obtain ⟨j, hj, rfl, hall, rfl⟩ := hrel
          have HALL := Lib.hid hall
          clear hall
          by_cases hjn : j < ts.length
          · have c1 := HR1.out.cellAt j (by omega)
            have e1 : (ts.map encStr)[j]? = some (.string ⟨(ts.getD j []).toArray⟩) := by simp [encStr, List.getD_eq_getElem?_getD, hjn]
            rw [e1] at c1
            obtain ⟨tb, HTB⟩ : ∃ tb : ByteArray, Hid (ts.getD j [] = ky tb) := ⟨⟨(ts.getD j []).toArray⟩, Lib.hid rfl⟩
            rw [HTB.out] at c1
            have c2 : wr.cell? ⟨g, j, none⟩ = some (.string tb) := c1
            clear c1 e1
            by_cases hlt2 : ky tb < ky key
            · have q := less_yes hlt2
              have HLT := Lib.hid hlt2
              clear hlt2
              go_wp2
              go_roundw
              case rel =>
                refine ⟨j + 1, by omega, by go_num, fun i hi => ?_, trivial⟩
                rcases Nat.lt_or_ge i j with hx | hx
                · exact HALL.out i hx
                · rw [show i = j by omega, HTB.out]; exact HLT.out
              case measure => simp [intOf]; omega
            · have q := less_no hlt2
              by_cases he : tb = key
              · subst he
                have q2 := eq_yes tb
                have HT2 := Lib.hid (upk_there HUP.out (by rw [HKE.out, ← HTB.out]; exact getD_mem hjn))
                clear hlt2
                go_wp2
                go_roundw
                case rel => exact ⟨k + 1, ts, g, cap, by omega, by go_num, rfl, by omega, HT2.out, HR1.out, HB1.out⟩
                case measure => simp [intOf]; omega
              · have q2 := eq_no he
                have hgt : ky key < ky tb := Classical.byContradiction fun hx => he (ky_inj (List.le_antisymm hx hlt2))
                have HT2 := Lib.hid (upk_ins (j := j) HUP.out HN.out (by rw [HKE.out]; exact HALL.out) (fun _ => by rw [HKE.out, HTB.out]; exact hgt))
                clear hlt2 he hgt
                have HE := Lib.hid (World.ownsRow_lit (size := 1) (e := 9) (base := wr.heap.size) wr #[] 0 (Nat.le_refl _) (by unfold maxLen; omega) rfl)
                have HN1 := Lib.hid (own_cells HR1.out (.cells #[] 9) j)
                have HL1 := Lib.hid (drop_len ts j)
                have HO1 := Lib.hid (one_cells (ts.drop j))
                have hgw : g < wr.heap.size := (HR1.out.lt g rfl).2
                have hws := HB1.out.size
                have hcap := own_cap HR1.out
                have hcj : ¬ cap = j := by omega
                have tok1 : True := trivial
                have tok2 : True := trivial
                have tok3 : True := trivial
                go_wp2_with (first
                  | (at_builtin; have _t := tok1; refine wpList_append_own _ rfl _ _ 59 rfl wr.heap.size 9 i0 (.string ⟨#[]⟩) 1 16 Tryd.underlying59 hi hz0 hz1 hz2 rfl (by decide) _ 0 [] rfl HE.out ⟨g, j, none⟩ (ts.length - j) (cap - j) ((ts.drop j).map encStr) rfl HL1.out HN1.out HO1.out (by unfold maxLen; omega) (by omega) (by simp) ?_; intro vr w2 hownr hgr hnilr; obtain ⟨g2, cap2, rfl, hg2, hownr, hkeep⟩ := rest_form HR1.out hj hownr hgr hnilr; have hw2 := Nat.le_trans hws hkeep.2.size; clear tok1 hgr hnilr)
                  | (at_builtin; have _t := tok2; refine wpList_append_own _ rfl _ _ 59 rfl w.heap.size 9 i0 (.string ⟨#[]⟩) 1 16 Tryd.underlying59 hi hz0 hz1 hz2 rfl (by decide) _ _ _ rfl (hkeep.1.alloc _) ⟨w2.heap.size, 0, none⟩ 1 1 [.string key] rfl rfl (cell_one_new _ _ _) (by simp [Value.oneCell']) (by unfold maxLen; omega) (by omega) (by simp; omega) ?_; intro v2 w4 hown2 hg4 hnil2; have hrest := rest_cells hownr hg2 hgw hg4; have hsz4 := hg4.size; clear tok2)
                  | (at_builtin; have _t := tok3; refine wpList_append_own _ rfl _ _ 59 rfl w.heap.size 9 i0 (.string ⟨#[]⟩) 1 16 Tryd.underlying59 hi hz0 hz1 hz2 rfl (by decide) _ _ _ rfl hown2 ⟨g2, 0, none⟩ (ts.length - j) cap2 ((ts.drop j).map encStr) rfl HL1.out hrest HO1.out (by unfold maxLen; omega) (by omega) (by simp at hsz4; omega) ?_; intro v3 w5 hown3 hg5 hnil3; clear tok3; go_frame)
                  | go_in)
                obtain ⟨g3, cap3, rfl, hr3⟩ := ins_form hj hown3 hnil3 hnil2
                have hb5 := ins_below HB1.out hkeep.2 hg4 hown2 hg5 (HR1.out.lt g rfl).1
                clear hown3 hg5 hnil3 hown2 hg4 hnil2
                go_roundw
                case rel =>
                  refine ⟨k + 1, ins ts j (ky key), g3, cap3, by omega, by go_num, ?_, ?_, ?_, ?_, hb5⟩
                  · rw [ins_length _ hj]
                  · rw [ins_length _ hj]; omega
                  · rw [← HKE.out]; exact HT2.out
                  · rw [ins_length _ hj]; exact hr3
                case measure => simp [intOf]; omega
          · have HT2 := Lib.hid (upk_ins (j := j) HUP.out HN.out (by rw [HKE.out]; exact HALL.out) (fun hx => absurd hx hjn))
            have hje : ts.length - j = 0 := by omega
            by_cases hcj : cap = j
            · subst hcj
              have HE := Lib.hid (World.ownsRow_lit (size := 1) (e := 9) (base := wr.heap.size) wr #[] 0 (Nat.le_refl _) (by unfold maxLen; omega) rfl)
              have hgw : g < wr.heap.size := (HR1.out.lt g rfl).2
              have hws := HB1.out.size
              have hcap := own_cap HR1.out
              have tok1 : True := trivial
              have tok2 : True := trivial
              have tok3 : True := trivial
              go_wp2_with (first
                | (at_builtin; have _t := tok1; refine wpList_append_own _ rfl _ _ 59 rfl wr.heap.size 9 i0 (.string ⟨#[]⟩) 1 16 Tryd.underlying59 hi hz0 hz1 hz2 rfl (by decide) _ 0 [] rfl HE.out _ 0 _ [] rfl rfl (nil_cells _) nil_one (by unfold maxLen; omega) (by omega) (by simp) ?_; intro vr w2 hownr hgr hnilr; obtain ⟨g2, cap2, rfl, hg2, hownr, hkeep⟩ := rest_form0 HR1.out hj hje hownr hgr hnilr; have hw2 := Nat.le_trans hws hkeep.2.size; clear tok1 hgr hnilr)
                | (at_builtin; have _t := tok2; refine wpList_append_own _ rfl _ _ 59 rfl w.heap.size 9 i0 (.string ⟨#[]⟩) 1 16 Tryd.underlying59 hi hz0 hz1 hz2 rfl (by decide) _ _ _ rfl (hkeep.1.alloc _) ⟨w2.heap.size, 0, none⟩ 1 1 [.string key] rfl rfl (cell_one_new _ _ _) (by simp [Value.oneCell']) (by unfold maxLen; omega) (by omega) (by simp; omega) ?_; intro v2 w4 hown2 hg4 hnil2; have hrest := rest_cells hownr hg2 hgw hg4; have hsz4 := hg4.size; clear tok2)
                | (at_builtin; have _t := tok3; refine wpList_append_own _ rfl _ _ 59 rfl w.heap.size 9 i0 (.string ⟨#[]⟩) 1 16 Tryd.underlying59 hi hz0 hz1 hz2 rfl (by decide) _ _ _ rfl hown2 ⟨g2, 0, none⟩ 0 cap2 [] rfl rfl hrest nil_one (by unfold maxLen; omega) (by omega) (by simp at hsz4; omega) ?_; intro v3 w5 hown3 hg5 hnil3; clear tok3; go_frame)
                | go_in)
              obtain ⟨g3, cap3, rfl, hr3⟩ := ins_form0 hj hje hown3 hnil3 hnil2
              have hb5 := ins_below HB1.out hkeep.2 hg4 hown2 hg5 (HR1.out.lt g rfl).1
              clear hown3 hg5 hnil3 hown2 hg4 hnil2
              go_roundw
              case rel =>
                refine ⟨k + 1, ins ts cap (ky key), g3, cap3, by omega, by go_num, ?_, ?_, ?_, ?_, hb5⟩
                · rw [ins_length _ hj]
                · rw [ins_length _ hj]; omega
                · rw [← HKE.out]; exact HT2.out
                · rw [ins_length _ hj]; exact hr3
              case measure => simp [intOf]; omega
            · have HE := Lib.hid (World.ownsRow_lit (size := 1) (e := 9) (base := wr.heap.size) wr #[] 0 (Nat.le_refl _) (by unfold maxLen; omega) rfl)
              have hgw : g < wr.heap.size := (HR1.out.lt g rfl).2
              have hws := HB1.out.size
              have hcap := own_cap HR1.out
              have tok1 : True := trivial
              have tok2 : True := trivial
              have tok3 : True := trivial
              go_wp2_with (first
                | (at_builtin; have _t := tok1; refine wpList_append_own _ rfl _ _ 59 rfl wr.heap.size 9 i0 (.string ⟨#[]⟩) 1 16 Tryd.underlying59 hi hz0 hz1 hz2 rfl (by decide) _ 0 [] rfl HE.out _ 0 _ [] rfl rfl (nil_cells _) nil_one (by unfold maxLen; omega) (by omega) (by simp) ?_; intro vr w2 hownr hgr hnilr; obtain ⟨g2, cap2, rfl, hg2, hownr, hkeep⟩ := rest_form0 HR1.out hj hje hownr hgr hnilr; have hw2 := Nat.le_trans hws hkeep.2.size; clear tok1 hgr hnilr)
                | (at_builtin; have _t := tok2; refine wpList_append_own _ rfl _ _ 59 rfl w.heap.size 9 i0 (.string ⟨#[]⟩) 1 16 Tryd.underlying59 hi hz0 hz1 hz2 rfl (by decide) _ _ _ rfl (hkeep.1.alloc _) ⟨w2.heap.size, 0, none⟩ 1 1 [.string key] rfl rfl (cell_one_new _ _ _) (by simp [Value.oneCell']) (by unfold maxLen; omega) (by omega) (by simp; omega) ?_; intro v2 w4 hown2 hg4 hnil2; have hrest := rest_cells hownr hg2 hgw hg4; have hsz4 := hg4.size; clear tok2)
                | (at_builtin; have _t := tok3; refine wpList_append_own _ rfl _ _ 59 rfl w.heap.size 9 i0 (.string ⟨#[]⟩) 1 16 Tryd.underlying59 hi hz0 hz1 hz2 rfl (by decide) _ _ _ rfl hown2 ⟨g2, 0, none⟩ 0 cap2 [] rfl rfl hrest nil_one (by unfold maxLen; omega) (by omega) (by simp at hsz4; omega) ?_; intro v3 w5 hown3 hg5 hnil3; clear tok3; go_frame)
                | go_in)
              obtain ⟨g3, cap3, rfl, hr3⟩ := ins_form0 hj hje hown3 hnil3 hnil2
              have hb5 := ins_below HB1.out hkeep.2 hg4 hown2 hg5 (HR1.out.lt g rfl).1
              clear hown3 hg5 hnil3 hown2 hg4 hnil2
              go_roundw
              case rel =>
                refine ⟨k + 1, ins ts j (ky key), g3, cap3, by omega, by go_num, ?_, ?_, ?_, ?_, hb5⟩
                · rw [ins_length _ hj]
                · rw [ins_length _ hj]; omega
                · rw [← HKE.out]; exact HT2.out
                · rw [ins_length _ hj]; exact hr3
              case measure => simp [intOf]; omega
    · obtain rfl : k = len := by omega
      have hend : KeyL (stF us) ts := upk_end (by rw [H.out.size]; exact hup)
      obtain rfl : ss = ts := HSS.out.eq hend
      have HR := Lib.hid hrow
      have HBEL := Lib.hid hbel
      clear hrow hbel hup hend HSS
      go_wp2
      go_ret
      exact ⟨g, cap, rfl, HR.out, HBEL.out⟩
end Go.Proofs.YtbbgibekplfacaaDoor.Y
