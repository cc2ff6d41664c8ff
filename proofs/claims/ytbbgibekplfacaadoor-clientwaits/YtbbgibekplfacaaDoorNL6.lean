/- The walk of ClientWaits. -/
import Derived.Test.YtbbgibekplfacaaDoorRH
import Derived.Test.YtbbgibekplfacaaDoorNM
namespace Go.Proofs.YtbbgibekplfacaaDoor
open Go Go.RowKit
set_option maxRecDepth 20000
set_option maxHeartbeats 16000000 in
theorem walkWaits (x0 x1 x2 x3 : Int) (a : Option Addr) (len cap : Nat) (l : List Ac) (qo qn : Int) (qa : Option Addr) (ql qc : Nat) (qus : List Up) (w : World) (hd : X.Wd w) (h : IsAs w a len l) (hrq : Ru w ⟨qo, qn, qa, ql, qc, qus⟩) :
    Calls Tryd.prog 8 #[.agg #[.int .i64 x0, .int .i64 x1, .int .i64 x2, .int .i64 x3], .slice a len cap, .agg #[.int .i64 qo, .int .i64 qn, .slice qa ql qc]] w fun e w' => e = .returned (.bool true) ∧ Below w.heap.size w w' := by
  have hA := Joins.below_alloc2 w (.cells #[.int .i64 x0, .int .i64 x1, .int .i64 x2, .int .i64 x3] 22) (.cells #[.int .i64 qo, .int .i64 qn, .slice qa ql qc] 35)
  have hx : ((w.alloc (.cells #[.int .i64 x0, .int .i64 x1, .int .i64 x2, .int .i64 x3] 22)).alloc (.cells #[.int .i64 qo, .int .i64 qn, .slice qa ql qc] 35)).heap[w.heap.size]? = some (.cells #[.int .i64 x0, .int .i64 x1, .int .i64 x2, .int .i64 x3] 22 (0, 0)) := ((Joins.below_alloc1 (w.alloc (.cells #[.int .i64 x0, .int .i64 x1, .int .i64 x2, .int .i64 x3] 22)) (.cells #[.int .i64 qo, .int .i64 qn, .slice qa ql qc] 35)).block _ (by simp)).trans (heap_alloc_new w _)
  have hy : ((w.alloc (.cells #[.int .i64 x0, .int .i64 x1, .int .i64 x2, .int .i64 x3] 22)).alloc (.cells #[.int .i64 qo, .int .i64 qn, .slice qa ql qc] 35)).heap[w.heap.size + 1]? = some (.cells #[.int .i64 qo, .int .i64 qn, .slice qa ql qc] 35 (0, 0)) := by
    have := heap_alloc_new (w.alloc (.cells #[.int .i64 x0, .int .i64 x1, .int .i64 x2, .int .i64 x3] 22)) (.cells #[.int .i64 qo, .int .i64 qn, .slice qa ql qc] 35)
    rw [show (w.alloc (.cells #[.int .i64 x0, .int .i64 x1, .int .i64 x2, .int .i64 x3] 22)).heap.size = w.heap.size + 1 by simp] at this
    exact this
  have b0 := cell_at hx 0 _ rfl
  have b1 := cell_at hx 1 _ rfl
  have b2 := cell_at hx 2 _ rfl
  have b3 := cell_at hx 3 _ rfl
  have HX := Lib.hid hx
  have HY := Lib.hid hy
  have HB0 := Lib.hid hA
  have HD := Lib.hid (hd.below hA)
  have H := Lib.hid (isAs_below h hA)
  have HRQ := Lib.hid (hrq.below hA)
  clear hx hy hA hd h hrq
  go_enter Tryd.func8, Tryd.ntmps8
  go_wp2_with fail
  clear b0 b1 b2 b3
  generalize hxb : w.heap.size = xb at HX HY ⊢
  clear hxb
  generalize (w.alloc (.cells #[.int .i64 x0, .int .i64 x1, .int .i64 x2, .int .i64 x3] 22)).alloc (.cells #[.int .i64 qo, .int .i64 qn, .slice qa ql qc] 35) = W at *
  have HYR : Hid (Rb W (xb + 1) qo qn qa ql qc) := HY
  clear HY
  refine (made_any x0 x1 x2 x3 W).mono ?_
  rintro e w1 ⟨cb, db, rfl, P0, D0, hq⟩
  have hk := Kl.start hq
  have k0 := hk.kb.c0
  have HK1 := Lib.hid hk
  clear hk hq
  go_wp2_with fail
  clear k0
  generalize w1.heap.size = g at *
  generalize w1.alloc (.cells #[.pointer (some ⟨cb, 0, none⟩), .pointer (some ⟨db, 0, none⟩)] 27) = w2 at *
  refine (awake_any w2 (HD.out.below HK1.out.bel)).mono ?_
  rintro e w3 ⟨rfl, hb⟩
  have HK2 := Lib.hid (HK1.out.next hb)
  have k0 := HK2.out.kb.c0
  clear hb HK1
  go_wp2_with fail
  clear k0
  refine (great_any a len cap l w3 (isAs_below H.out HK2.out.bel)).mono ?_
  rintro e w4 ⟨⟨bt, rfl, hok⟩, hb⟩
  have HK3 := Lib.hid (HK2.out.next hb)
  clear hb HK2
  cases bt with
  | true =>
    clear hok
    go_wp2_with fail
    refine (awake_any w4 (HD.out.below HK3.out.bel)).mono ?_
    rintro e w5 ⟨rfl, hb⟩
    have HK4 := Lib.hid (HK3.out.next hb)
    clear hb HK3
    go_wp2
    go_ret
    exact ⟨rfl, Below.next HB0.out HK4.out.bel⟩
  | false =>
    obtain ⟨hl50, hok⟩ := hok rfl
    have HOK := Lib.hid hok
    clear hok
    have hyb := HYR.out.next HK3.out.bel
    have y0 := hyb.c0
    have y1 := hyb.c1
    have y2 := hyb.c2
    have HUQ := Lib.hid (isUs_below HRQ.out.1 HK3.out.bel)
    clear hyb
    by_cases hg : Y.gR qus
    · have HG := Lib.hid (Y.greatR_yes qo qn qa ql qc qus hg w4 HUQ.out)
      clear hg
      go_wp2_with fail
      refine HG.out.mono ?_
      rintro e w5 ⟨rfl, hb⟩
      have HK4 := Lib.hid (HK3.out.next hb)
      clear hb HG y0 y1 y2
      go_wp2_with fail
      refine (awake_any w5 (HD.out.below HK4.out.bel)).mono ?_
      rintro e w6 ⟨rfl, hb⟩
      have HK5 := Lib.hid (HK4.out.next hb)
      clear hb HK4
      go_wp2
      go_ret
      exact ⟨rfl, Below.next HB0.out HK5.out.bel⟩
    · have HG := Lib.hid (Y.greatR_no qo qn qa ql qc qus hg w4 HUQ.out)
      have HSLQ : Hid (Sl qus) := Lib.hid (gr_sl hg)
      clear hg
      go_wp2_with fail
      refine HG.out.mono ?_
      rintro e w5 ⟨rfl, hb⟩
      have HK4 := Lib.hid (HK3.out.next hb)
      clear hb HG y0 y1 y2 HUQ HK3
      have hyb := HYR.out.next HK4.out.bel
      have y0 := hyb.c0
      have z0 := cell_at ((HK4.out.bel.block xb (Array.getElem?_eq_some_iff.1 HX.out).1).trans HX.out) 0 _ rfl
      clear hyb
      by_cases ho : qo = x0
      · have e9 : (qo == x0) = true := beq_iff_eq.2 ho
        clear ho
        go_wp2_with fail
        clear y0 z0
        refine (awake_any w5 (HD.out.below HK4.out.bel)).mono ?_
        rintro e w6 ⟨rfl, hb⟩
        have HK5 := Lib.hid (HK4.out.next hb)
        clear hb HK4
        go_wp2
        go_ret
        exact ⟨rfl, Below.next HB0.out HK5.out.bel⟩
      · have e9 : (qo == x0) = false := beq_false_of_ne ho
        have HNO := Lib.hid ho
        clear ho
        go_wp2_with fail
        clear y0 z0
        go_loopw [44] (fun v wr => ∃ k : Nat, k ≤ len ∧ v = .int .i64 k ∧ ∃ P D s, Kl W wr g cb db P D k s ∧ s.Wf x0) (fun v _ => len - (intOf v).toNat)
        case atStart => exact ⟨0, Nat.zero_le _, rfl, P0, D0, _, HK4.out, wf_new x0 x1 x2 x3⟩
        case round =>
          obtain ⟨k, hk, rfl, P, D, s, hst, hwf⟩ := hrel
          clear HK4
          by_cases hlt : k < len
          · have HWF := Lib.hid hwf
            clear hwf
            have hbel := hst.bel
            obtain ⟨b, off, rfl, c0, c1, c2, c3, c4, c5, c6, c7⟩ := acells_of H.out hbel hlt
            have hru := H.out.each k hlt
            have hok := HOK.out k hlt
            generalize l.getD k ac0 = x at *
            obtain ⟨kd, ⟨uk, ux, un, ut⟩, ⟨ro, rn, ra, rl, rc, rus⟩⟩ := x
            simp only at c0 c1 c2 c3 c4 c5 c6 c7 hru
            have hA := Joins.below_alloc1 wr (.cells #[.int .i64 kd, .string uk, .int .i64 ux, .int .i64 un, .string ut, .int .i64 ro, .int .i64 rn, .slice ra rl rc] 37)
            have hab : Ab (wr.alloc (.cells #[.int .i64 kd, .string uk, .int .i64 ux, .int .i64 un, .string ut, .int .i64 ro, .int .i64 rn, .slice ra rl rc] 37)) wr.heap.size kd uk ux un ut ro rn ra rl rc := heap_alloc_new wr _
            have HLOW : Hid (0 < rl → ∀ g off, ra = some ⟨g, off, none⟩ → g < W.heap.size) := Lib.hid fun h0 g off e => Rn.us_in hru h0 e
            have HRU := Lib.hid ((hru.below hbel).below hA)
            have HOKA := Lib.hid hok
            have HAB := Lib.hid hab
            have HK := Lib.hid (hst.next hA)
            have hff : ¬ Kf W P D wr.heap.size := fun e => by have := hst.kq.foot _ e; omega
            have HFF := Lib.hid hff
            clear hbel hru hok hA hab hff hst
            have a0 := HAB.out.c0
            obtain ⟨a1, a2, a3, a4⟩ := HAB.out.up
            obtain ⟨a5, a6, a7⟩ := HAB.out.rd
            have k0 := HK.out.kb.c0
            have k1 := HK.out.kb.c1
            go_wp2_with fail
            refine (do_any kd uk ux un ut ro rn ra rl rc rus (by omega) (wr.alloc (.cells #[.int .i64 kd, .string uk, .int .i64 ux, .int .i64 un, .string ut, .int .i64 ro, .int .i64 rn, .slice ra rl rc] 37)) HD.out HOKA.out HRU.out HLOW.out HK.out.kq).mono ?_
            rintro e w7 ⟨rfl, P2, D2, hdo⟩
            have HK7 := Lib.hid (HK.out.step hdo)
            clear hdo
            clear a0 a1 a2 a3 a4 a5 a6 a7 k0 k1
            go_wp2
            go_roundw
            case rel => exact ⟨k + 1, by omega, by go_num, P2, D2, _, HK7.out, HWF.out.act _⟩
            case measure => simp [intOf]; omega
          · obtain rfl : k = len := by omega
            have HWF := Lib.hid hwf
            have HK6 := Lib.hid (hst.next (Below.refl _ _).drew)
            have HO := Lib.hid hst.kq.ok
            have hlen := HO.out.len
            clear hst hwf
            go_upto_region 9 with fail
            refine wp_region_held_drew (S := fun w' => w'.cell? ⟨g, 0, none⟩ = some (.pointer (some ⟨cb, 0, none⟩)) ∧ w'.cell? ⟨g, 1, none⟩ = some (.pointer (some ⟨db, 0, none⟩))) (by kernel_rfl) ?_ (fun hs6 => ?_)
            · exact ⟨HK6.out.kb.c0, HK6.out.kb.c1⟩
            refine tkH 0 ?_ ?_ ?_
            rotate_left
            · intro w h; try dsimp only at h
              obtain ⟨q0, q1⟩ := h; go_simp; all_goals with_reducible rfl
            try simp only [pt]
            refine tkH 1 ?_ ?_ ?_
            rotate_left
            · intro w h; try dsimp only at h
              obtain ⟨q0, q1⟩ := h; go_simp; all_goals with_reducible rfl
            try simp only [pt]
            refine tkH 3 ?_ ?_ ?_
            rotate_left
            · intro w h; try dsimp only at h
              obtain ⟨q0, q1⟩ := h; go_simp; all_goals with_reducible rfl
            try simp only [pt]
            refine tkH 4 ?_ ?_ ?_
            rotate_left
            · intro w h; try dsimp only at h
              obtain ⟨q0, q1⟩ := h; go_simp; all_goals with_reducible rfl
            try simp only [pt]
            refine wpAnyH_ready (rs := [2]) (by kernel_rfl) (by simp) ?_
            refine rdH (fun K hK => ?_) ?_
            · go_simp
              refine (cknown_any (s := s) (by omega) (fun r hr => (HO.out.sk r hr).sm) wr.drew HK6.out.kq.pk).mono ?_
              rintro e w7 ⟨gk, xk, rfl, hrz, hgk, how, hmk, hb⟩
              have hlk : xk.length = s.kn.length := by rw [← hmk, List.length_map]
              rw [← hlk]
              have HMK := Lib.hid hmk
              have HLK := Lib.hid hlk
              have HXK7 := Lib.hid (Hx.new HK6.out.kq.pk hrz hgk how)
              have HK7 := Lib.hid (HK6.out.next hb)
              have HGK : Hid (¬ D gk ∧ W.heap.size ≤ gk ∧ g ≠ gk) := Lib.hid ⟨fun e => by have := HK6.out.kq.dk.foot gk e; omega, Nat.le_trans HK6.out.bel.size hgk, fun e => by have := HK6.out.kb.lt; omega⟩
              have HGL : Hid (gk < w7.heap.size) := Lib.hid hrz.lt
              have hs7 : w7.cell? ⟨g, 0, none⟩ = some (.pointer (some ⟨cb, 0, none⟩)) ∧ w7.cell? ⟨g, 1, none⟩ = some (.pointer (some ⟨db, 0, none⟩)) := ⟨HK7.out.kb.c0, HK7.out.kb.c1⟩
              clear hb hrz hgk how hmk hlk
              go_wp2_with fail
              refine hK.out _ _ ?_ (fun hH => ?_)
              · exact hs7
              clear hK K
              try simp only [pt]
              refine wpAnyH_ready (rs := [5]) (by kernel_rfl) (by simp) ?_
              refine rdH (fun K hK => ?_) ?_
              · go_simp
                refine (cpend_any (s := s) HO.out.k (by omega) w7 HK7.out.kq.pk).mono ?_
                rintro e w8 ⟨gp, xp, rfl, hrz, hgp, how, hof, hb⟩
                have hlp : xp.length = s.uss.length - s.k := by rw [hof.len, List.length_drop]
                have HMP := Lib.hid hof
                have HLP := Lib.hid hlp
                have HXP8 := Lib.hid (Hx.new HK7.out.kq.pk hrz hgp how)
                have HXK8 := Lib.hid (HXK7.out.next hb)
                have HK8 := Lib.hid (HK7.out.next hb)
                have HNE : Hid (gp ≠ gk) := Lib.hid (by have := HGL.out; omega)
                have hs8 : w8.cell? ⟨g, 0, none⟩ = some (.pointer (some ⟨cb, 0, none⟩)) ∧ w8.cell? ⟨g, 1, none⟩ = some (.pointer (some ⟨db, 0, none⟩)) := ⟨HK8.out.kb.c0, HK8.out.kb.c1⟩
                clear hb hrz hgp how hof HXK7 hlp HGL
                go_wp2_with fail
                refine hK.out _ _ ?_ (fun hH => ?_)
                · exact hs8
                clear hK K
                try simp only [pt]
                refine tkH 6 ?_ ?_ ?_
                rotate_left
                · intro w h; try dsimp only at h
                  obtain ⟨q0, q1⟩ := h; go_simp; all_goals with_reducible rfl
                try simp only [pt]
                refine tkH 7 ?_ ?_ ?_
                rotate_left
                · intro w h; try dsimp only at h
                  obtain ⟨q0, q1⟩ := h; go_simp; all_goals with_reducible rfl
                try simp only [pt]
                refine wpAnyH_done (by kernel_rfl) ?_ _
                clear hs6 hs7 hs8
                have KA8 := Lib.hid HK8.out.alone
                have HQL : Hid (ql = qus.length) := Lib.hid HRQ.out.1.size.symm
                have hql : ql ≤ 20 := by have := HSLQ.out.1; have := HQL.out; omega
                have hxk : xk.length ≤ 1000 := by have := HLK.out; omega
                clear HK6 HK7 HK8
                go_upto_region 10 with fail
                go_cut [12] from 58 (fun v12 wx => ∃ gi ga a9 c9, v12 = .pointer (some ⟨gi, 0, none⟩) ∧ Kw W wx g cb db P D s s gk xk gp xp gi qo qn a9 ql c9 ga ∧ ga < wx.heap.size ∧ Ru wx ⟨qo, qn, a9, ql, c9, qus⟩)
                case first =>
                  have HUQ : Hid (∀ {w : World}, Below w8.heap.size w8 w → Ru w ⟨qo, qn, qa, ql, qc, qus⟩) := Lib.hid fun hb => HRQ.out.below (Below.next KA8.out.bel hb)
                  have HW10 : Hid (Below w8.heap.size w8 w8.drew) := Lib.hid (Below.refl _ _).drew
                  have hyb := HYR.out.next (Below.next KA8.out.bel HW10.out)
                  refine wp_region_held_drew (S := fun w' => w'.cell? ⟨xb + 1, 0, none⟩ = some (.int .i64 qo) ∧ w'.cell? ⟨xb + 1, 1, none⟩ = some (.int .i64 qn) ∧ w'.cell? ⟨xb + 1, 2, none⟩ = some (.slice qa ql qc)) (by kernel_rfl) ?_ (fun hs => ?_)
                  · exact ⟨hyb.c0, hyb.c1, hyb.c2⟩
                  clear hyb
                  generalize w8.drew = w10 at *
                  refine tkH 0 ?_ ?_ ?_
                  rotate_left
                  · intro w h; try dsimp only at h
                    obtain ⟨q0, q1, q2⟩ := h; go_simp; all_goals with_reducible rfl
                  try simp only [pt]
                  refine tkH 1 ?_ ?_ ?_
                  rotate_left
                  · intro w h; try dsimp only at h
                    obtain ⟨q0, q1, q2⟩ := h; go_simp; all_goals with_reducible rfl
                  try simp only [pt]
                  refine tkH 2 ?_ ?_ ?_
                  rotate_left
                  · intro w h; try dsimp only at h
                    obtain ⟨q0, q1, q2⟩ := h; go_simp; all_goals with_reducible rfl
                  try simp only [pt]
                  refine tkH 3 ?_ ?_ ?_
                  rotate_left
                  · intro w h; try dsimp only at h
                    obtain ⟨q0, q1, q2⟩ := h; go_simp; all_goals with_reducible rfl
                  try simp only [pt]
                  refine tkH 5 ?_ ?_ ?_
                  rotate_left
                  · intro w h; try dsimp only at h
                    obtain ⟨q0, q1, q2⟩ := h; go_simp; all_goals with_reducible rfl
                  try simp only [pt]
                  refine tkH 6 ?_ ?_ ?_
                  rotate_left
                  · intro w h; try dsimp only at h
                    obtain ⟨q0, q1, q2⟩ := h; go_simp; all_goals with_reducible rfl
                  try simp only [pt]
                  refine wpAnyH_ready (rs := [4, 9]) (by kernel_rfl) (by simp) ?_
                  refine rdH (fun K hK => ?_) ?_
                  · go_simp
                    have HW11 : Hid (Below w8.heap.size w8 (w10.alloc (.cells #[] 32))) := Lib.hid (Below.next HW10.out (Joins.below_alloc1 w10 (.cells #[] 32)))
                    have HROW11 : Hid (RowU w8.heap.size (w10.alloc (.cells #[] 32)) (.slice (some ⟨w10.heap.size, 0, none⟩) 0 0) []) := Lib.hid (RowU.lower (rowU_new w10) HW10.out.size)
                    have hyb := HYR.out.next (Below.next KA8.out.bel HW11.out)
                    have hs : (w10.alloc (.cells #[] 32)).cell? ⟨xb + 1, 0, none⟩ = some (.int .i64 qo) ∧ (w10.alloc (.cells #[] 32)).cell? ⟨xb + 1, 1, none⟩ = some (.int .i64 qn) ∧ (w10.alloc (.cells #[] 32)).cell? ⟨xb + 1, 2, none⟩ = some (.slice qa ql qc) := ⟨hyb.c0, hyb.c1, hyb.c2⟩
                    clear hyb
                    refine hK.out _ _ ?_ (fun hH => ?_)
                    · exact hs
                    clear hK K
                    try simp only [pt]
                    clear hs
                    generalize w10.heap.size = gr at *
                    generalize w10.alloc (.cells #[] 32) = w11 at *
                    refine wpAnyH_ready (rs := [7, 9]) (by kernel_rfl) (by simp) ?_
                    refine rdH (fun K hK => ?_) ?_
                    · obtain ⟨a1, c1', w12, hrun, hrw6, hgr6, _⟩ := run_appU w11 33 w8.heap.size _ [] HROW11.out qa ql qc qus (HUQ.out HW11.out).1 (HUQ.out HW11.out).2.1 (HUQ.out HW11.out).2.2 (by simp only [List.length_nil]; omega) HW11.out.size
                      simp only [List.length_nil, Nat.zero_add, List.nil_append] at hrun hrw6
                      have HW12 := Lib.hid (belU HROW11.out HW11.out hgr6 HW11.out.size)
                      have HROX12 := Lib.hid hrw6
                      have hyb := HYR.out.next (Below.next KA8.out.bel HW12.out)
                      have hs : w12.cell? ⟨xb + 1, 0, none⟩ = some (.int .i64 qo) ∧ w12.cell? ⟨xb + 1, 1, none⟩ = some (.int .i64 qn) ∧ w12.cell? ⟨xb + 1, 2, none⟩ = some (.slice qa ql qc) := ⟨hyb.c0, hyb.c1, hyb.c2⟩
                      clear hyb
                      clear hrw6 hgr6
                      refine step_append_run (by rfl) (.tmp 62) (.tmp 64) 33 rfl _ _ _ rfl rfl hrun ?_
                      refine hK.out _ _ ?_ (fun hH => ?_)
                      · exact hs
                      clear hK K
                      try simp only [pt]
                      clear hs hrun
                      refine tkH 8 ?_ ?_ ?_
                      rotate_left
                      · intro w h; try dsimp only at h
                        obtain ⟨q0, q1, q2⟩ := h; go_simp; all_goals with_reducible rfl
                      try simp only [pt]
                      refine wpAnyH_ready (rs := [9]) (by kernel_rfl) (by simp) ?_
                      refine rdH (fun K hK => ?_) ?_
                      · go_simp
                        have HW13 : Hid (Below w8.heap.size w8 (w12.alloc (.cells #[.int .i64 0, .int .i64 0, .slice none 0 0] 35))) := Lib.hid (Below.next HW12.out (Joins.below_alloc1 w12 (.cells #[.int .i64 0, .int .i64 0, .slice none 0 0] 35)))
                        have HGI : Hid (w8.heap.size ≤ w12.heap.size) := Lib.hid HW12.out.size
                        have HZB13 : Hid (Rb (w12.alloc (.cells #[.int .i64 0, .int .i64 0, .slice none 0 0] 35)) w12.heap.size 0 0 none 0 0) := Lib.hid (Rb.new w12 0 0 none 0 0)
                        have HROX13 := Lib.hid (HROX12.out.alloc (.cells #[.int .i64 0, .int .i64 0, .slice none 0 0] 35))
                        have hyb := HYR.out.next (Below.next KA8.out.bel HW13.out)
                        have hs : (w12.alloc (.cells #[.int .i64 0, .int .i64 0, .slice none 0 0] 35)).cell? ⟨xb + 1, 0, none⟩ = some (.int .i64 qo) ∧ (w12.alloc (.cells #[.int .i64 0, .int .i64 0, .slice none 0 0] 35)).cell? ⟨xb + 1, 1, none⟩ = some (.int .i64 qn) ∧ (w12.alloc (.cells #[.int .i64 0, .int .i64 0, .slice none 0 0] 35)).cell? ⟨xb + 1, 2, none⟩ = some (.slice qa ql qc) := ⟨hyb.c0, hyb.c1, hyb.c2⟩
                        clear hyb
                        refine hK.out _ _ ?_ (fun hH => ?_)
                        · exact hs
                        clear hK K
                        try simp only [pt]
                        clear hs
                        generalize w12.heap.size = gi at *
                        generalize w12.alloc (.cells #[.int .i64 0, .int .i64 0, .slice none 0 0] 35) = w13 at *
                        refine wpAnyH_ready (rs := [10]) (by kernel_rfl) (by simp) ?_
                        refine rdH (fun K hK => ?_) ?_
                        · have p0 := HZB13.out.f0 0
                          have p1 := HZB13.out.f0 1
                          have p2 := HZB13.out.f0 2
                          have c0 := HZB13.out.c0
                          have c1 := HZB13.out.c1
                          have c2 := HZB13.out.c2
                          have HMAKE := Lib.hid (kw_make KA8.out HXK8.out HXP8.out HW13.out HZB13.out HGI.out HROX13.out HQL.out qo qn)
                          have hyb : Rb (((w13.setCell ⟨gi, 0, none⟩ (.int .i64 qo)).setCell ⟨gi, 1, none⟩ (.int .i64 qn)).setCell ⟨gi, 2, none⟩ (.slice a1 ql c1')) (xb + 1) qo qn qa ql qc := by
                            obtain ⟨ga, h, _⟩ := HMAKE.out
                            exact HYR.out.next h.ka.bel
                          have hs : (((w13.setCell ⟨gi, 0, none⟩ (.int .i64 qo)).setCell ⟨gi, 1, none⟩ (.int .i64 qn)).setCell ⟨gi, 2, none⟩ (.slice a1 ql c1')).cell? ⟨xb + 1, 0, none⟩ = some (.int .i64 qo) ∧ (((w13.setCell ⟨gi, 0, none⟩ (.int .i64 qo)).setCell ⟨gi, 1, none⟩ (.int .i64 qn)).setCell ⟨gi, 2, none⟩ (.slice a1 ql c1')).cell? ⟨xb + 1, 1, none⟩ = some (.int .i64 qn) ∧ (((w13.setCell ⟨gi, 0, none⟩ (.int .i64 qo)).setCell ⟨gi, 1, none⟩ (.int .i64 qn)).setCell ⟨gi, 2, none⟩ (.slice a1 ql c1')).cell? ⟨xb + 1, 2, none⟩ = some (.slice qa ql qc) := ⟨hyb.c0, hyb.c1, hyb.c2⟩
                          clear hyb
                          go_simp
                          refine hK.out _ _ ?_ (fun hH => ?_)
                          · exact hs
                          clear hK K
                          try simp only [pt]
                          refine wpAnyH_done (by kernel_rfl) ?_ _
                          clear hs p0 p1 p2 c0 c1 c2
                          go_wp2_with fail
                          go_meet
                          case rel =>
                            obtain ⟨ga, h⟩ := HMAKE.out
                            exact ⟨_, ga, a1, c1', rfl, h⟩
                        exact AllReadyH.nil
                      exact AllReadyH.nil
                    refine rdH (fun K hK => ?_) ?_
                    · go_simp
                      have HW12 : Hid (Below w8.heap.size w8 (w11.alloc (.cells #[.int .i64 0, .int .i64 0, .slice none 0 0] 35))) := Lib.hid (Below.next HW11.out (Joins.below_alloc1 w11 (.cells #[.int .i64 0, .int .i64 0, .slice none 0 0] 35)))
                      have HGI : Hid (w8.heap.size ≤ w11.heap.size) := Lib.hid HW11.out.size
                      have HZB12 : Hid (Rb (w11.alloc (.cells #[.int .i64 0, .int .i64 0, .slice none 0 0] 35)) w11.heap.size 0 0 none 0 0) := Lib.hid (Rb.new w11 0 0 none 0 0)
                      have HROW12 := Lib.hid (HROW11.out.alloc (.cells #[.int .i64 0, .int .i64 0, .slice none 0 0] 35))
                      have hyb := HYR.out.next (Below.next KA8.out.bel HW12.out)
                      have hs : (w11.alloc (.cells #[.int .i64 0, .int .i64 0, .slice none 0 0] 35)).cell? ⟨xb + 1, 0, none⟩ = some (.int .i64 qo) ∧ (w11.alloc (.cells #[.int .i64 0, .int .i64 0, .slice none 0 0] 35)).cell? ⟨xb + 1, 1, none⟩ = some (.int .i64 qn) ∧ (w11.alloc (.cells #[.int .i64 0, .int .i64 0, .slice none 0 0] 35)).cell? ⟨xb + 1, 2, none⟩ = some (.slice qa ql qc) := ⟨hyb.c0, hyb.c1, hyb.c2⟩
                      clear hyb
                      refine hK.out _ _ ?_ (fun hH => ?_)
                      · exact hs
                      clear hK K
                      try simp only [pt]
                      clear hs
                      generalize w11.heap.size = gi at *
                      generalize w11.alloc (.cells #[.int .i64 0, .int .i64 0, .slice none 0 0] 35) = w12 at *
                      refine wpAnyH_ready (rs := [7]) (by kernel_rfl) (by simp) ?_
                      refine rdH (fun K hK => ?_) ?_
                      · obtain ⟨a1, c1', w13, hrun, hrw6, hgr6, _⟩ := run_appU w12 33 w8.heap.size _ [] HROW12.out qa ql qc qus (HUQ.out HW12.out).1 (HUQ.out HW12.out).2.1 (HUQ.out HW12.out).2.2 (by simp only [List.length_nil]; omega) HW12.out.size
                        simp only [List.length_nil, Nat.zero_add, List.nil_append] at hrun hrw6
                        have HZB13 := Lib.hid (rb_grown HZB12.out HROW12.out hgr6)
                        have HW13 := Lib.hid (belU HROW12.out HW12.out hgr6 HW12.out.size)
                        have HROX13 := Lib.hid hrw6
                        have hyb := HYR.out.next (Below.next KA8.out.bel HW13.out)
                        have hs : w13.cell? ⟨xb + 1, 0, none⟩ = some (.int .i64 qo) ∧ w13.cell? ⟨xb + 1, 1, none⟩ = some (.int .i64 qn) ∧ w13.cell? ⟨xb + 1, 2, none⟩ = some (.slice qa ql qc) := ⟨hyb.c0, hyb.c1, hyb.c2⟩
                        clear hyb
                        clear hrw6 hgr6
                        refine step_append_run (by rfl) (.tmp 62) (.tmp 64) 33 rfl _ _ _ rfl rfl hrun ?_
                        refine hK.out _ _ ?_ (fun hH => ?_)
                        · exact hs
                        clear hK K
                        try simp only [pt]
                        clear hs hrun
                        refine tkH 8 ?_ ?_ ?_
                        rotate_left
                        · intro w h; try dsimp only at h
                          obtain ⟨q0, q1, q2⟩ := h; go_simp; all_goals with_reducible rfl
                        try simp only [pt]
                        refine wpAnyH_ready (rs := [10]) (by kernel_rfl) (by simp) ?_
                        refine rdH (fun K hK => ?_) ?_
                        · have p0 := HZB13.out.f0 0
                          have p1 := HZB13.out.f0 1
                          have p2 := HZB13.out.f0 2
                          have c0 := HZB13.out.c0
                          have c1 := HZB13.out.c1
                          have c2 := HZB13.out.c2
                          have HMAKE := Lib.hid (kw_make KA8.out HXK8.out HXP8.out HW13.out HZB13.out HGI.out HROX13.out HQL.out qo qn)
                          have hyb : Rb (((w13.setCell ⟨gi, 0, none⟩ (.int .i64 qo)).setCell ⟨gi, 1, none⟩ (.int .i64 qn)).setCell ⟨gi, 2, none⟩ (.slice a1 ql c1')) (xb + 1) qo qn qa ql qc := by
                            obtain ⟨ga, h, _⟩ := HMAKE.out
                            exact HYR.out.next h.ka.bel
                          have hs : (((w13.setCell ⟨gi, 0, none⟩ (.int .i64 qo)).setCell ⟨gi, 1, none⟩ (.int .i64 qn)).setCell ⟨gi, 2, none⟩ (.slice a1 ql c1')).cell? ⟨xb + 1, 0, none⟩ = some (.int .i64 qo) ∧ (((w13.setCell ⟨gi, 0, none⟩ (.int .i64 qo)).setCell ⟨gi, 1, none⟩ (.int .i64 qn)).setCell ⟨gi, 2, none⟩ (.slice a1 ql c1')).cell? ⟨xb + 1, 1, none⟩ = some (.int .i64 qn) ∧ (((w13.setCell ⟨gi, 0, none⟩ (.int .i64 qo)).setCell ⟨gi, 1, none⟩ (.int .i64 qn)).setCell ⟨gi, 2, none⟩ (.slice a1 ql c1')).cell? ⟨xb + 1, 2, none⟩ = some (.slice qa ql qc) := ⟨hyb.c0, hyb.c1, hyb.c2⟩
                          clear hyb
                          go_simp
                          refine hK.out _ _ ?_ (fun hH => ?_)
                          · exact hs
                          clear hK K
                          try simp only [pt]
                          refine wpAnyH_done (by kernel_rfl) ?_ _
                          clear hs p0 p1 p2 c0 c1 c2
                          go_wp2_with fail
                          go_meet
                          case rel =>
                            obtain ⟨ga, h⟩ := HMAKE.out
                            exact ⟨_, ga, a1, c1', rfl, h⟩
                        exact AllReadyH.nil
                      exact AllReadyH.nil
                    exact AllReadyH.nil
                  refine rdH (fun K hK => ?_) ?_
                  · go_simp
                    have HW11 : Hid (Below w8.heap.size w8 (w10.alloc (.cells #[.int .i64 0, .int .i64 0, .slice none 0 0] 35))) := Lib.hid (Below.next HW10.out (Joins.below_alloc1 w10 (.cells #[.int .i64 0, .int .i64 0, .slice none 0 0] 35)))
                    have HGI : Hid (w8.heap.size ≤ w10.heap.size) := Lib.hid HW10.out.size
                    have HZB11 : Hid (Rb (w10.alloc (.cells #[.int .i64 0, .int .i64 0, .slice none 0 0] 35)) w10.heap.size 0 0 none 0 0) := Lib.hid (Rb.new w10 0 0 none 0 0)
                    have hyb := HYR.out.next (Below.next KA8.out.bel HW11.out)
                    have hs : (w10.alloc (.cells #[.int .i64 0, .int .i64 0, .slice none 0 0] 35)).cell? ⟨xb + 1, 0, none⟩ = some (.int .i64 qo) ∧ (w10.alloc (.cells #[.int .i64 0, .int .i64 0, .slice none 0 0] 35)).cell? ⟨xb + 1, 1, none⟩ = some (.int .i64 qn) ∧ (w10.alloc (.cells #[.int .i64 0, .int .i64 0, .slice none 0 0] 35)).cell? ⟨xb + 1, 2, none⟩ = some (.slice qa ql qc) := ⟨hyb.c0, hyb.c1, hyb.c2⟩
                    clear hyb
                    refine hK.out _ _ ?_ (fun hH => ?_)
                    · exact hs
                    clear hK K
                    try simp only [pt]
                    clear hs
                    generalize w10.heap.size = gi at *
                    generalize w10.alloc (.cells #[.int .i64 0, .int .i64 0, .slice none 0 0] 35) = w11 at *
                    refine wpAnyH_ready (rs := [4]) (by kernel_rfl) (by simp) ?_
                    refine rdH (fun K hK => ?_) ?_
                    · go_simp
                      have HW12 : Hid (Below w8.heap.size w8 (w11.alloc (.cells #[] 32))) := Lib.hid (Below.next HW11.out (Joins.below_alloc1 w11 (.cells #[] 32)))
                      have HROW12 : Hid (RowU w8.heap.size (w11.alloc (.cells #[] 32)) (.slice (some ⟨w11.heap.size, 0, none⟩) 0 0) []) := Lib.hid (RowU.lower (rowU_new w11) HW11.out.size)
                      have HZB12 := Lib.hid (HZB11.out.alloc (.cells #[] 32))
                      have hyb := HYR.out.next (Below.next KA8.out.bel HW12.out)
                      have hs : (w11.alloc (.cells #[] 32)).cell? ⟨xb + 1, 0, none⟩ = some (.int .i64 qo) ∧ (w11.alloc (.cells #[] 32)).cell? ⟨xb + 1, 1, none⟩ = some (.int .i64 qn) ∧ (w11.alloc (.cells #[] 32)).cell? ⟨xb + 1, 2, none⟩ = some (.slice qa ql qc) := ⟨hyb.c0, hyb.c1, hyb.c2⟩
                      clear hyb
                      refine hK.out _ _ ?_ (fun hH => ?_)
                      · exact hs
                      clear hK K
                      try simp only [pt]
                      clear hs
                      generalize w11.heap.size = gr at *
                      generalize w11.alloc (.cells #[] 32) = w12 at *
                      refine wpAnyH_ready (rs := [7]) (by kernel_rfl) (by simp) ?_
                      refine rdH (fun K hK => ?_) ?_
                      · obtain ⟨a1, c1', w13, hrun, hrw6, hgr6, _⟩ := run_appU w12 33 w8.heap.size _ [] HROW12.out qa ql qc qus (HUQ.out HW12.out).1 (HUQ.out HW12.out).2.1 (HUQ.out HW12.out).2.2 (by simp only [List.length_nil]; omega) HW12.out.size
                        simp only [List.length_nil, Nat.zero_add, List.nil_append] at hrun hrw6
                        have HZB13 := Lib.hid (rb_grown HZB12.out HROW12.out hgr6)
                        have HW13 := Lib.hid (belU HROW12.out HW12.out hgr6 HW12.out.size)
                        have HROX13 := Lib.hid hrw6
                        have hyb := HYR.out.next (Below.next KA8.out.bel HW13.out)
                        have hs : w13.cell? ⟨xb + 1, 0, none⟩ = some (.int .i64 qo) ∧ w13.cell? ⟨xb + 1, 1, none⟩ = some (.int .i64 qn) ∧ w13.cell? ⟨xb + 1, 2, none⟩ = some (.slice qa ql qc) := ⟨hyb.c0, hyb.c1, hyb.c2⟩
                        clear hyb
                        clear hrw6 hgr6
                        refine step_append_run (by rfl) (.tmp 62) (.tmp 64) 33 rfl _ _ _ rfl rfl hrun ?_
                        refine hK.out _ _ ?_ (fun hH => ?_)
                        · exact hs
                        clear hK K
                        try simp only [pt]
                        clear hs hrun
                        refine tkH 8 ?_ ?_ ?_
                        rotate_left
                        · intro w h; try dsimp only at h
                          obtain ⟨q0, q1, q2⟩ := h; go_simp; all_goals with_reducible rfl
                        try simp only [pt]
                        refine wpAnyH_ready (rs := [10]) (by kernel_rfl) (by simp) ?_
                        refine rdH (fun K hK => ?_) ?_
                        · have p0 := HZB13.out.f0 0
                          have p1 := HZB13.out.f0 1
                          have p2 := HZB13.out.f0 2
                          have c0 := HZB13.out.c0
                          have c1 := HZB13.out.c1
                          have c2 := HZB13.out.c2
                          have HMAKE := Lib.hid (kw_make KA8.out HXK8.out HXP8.out HW13.out HZB13.out HGI.out HROX13.out HQL.out qo qn)
                          have hyb : Rb (((w13.setCell ⟨gi, 0, none⟩ (.int .i64 qo)).setCell ⟨gi, 1, none⟩ (.int .i64 qn)).setCell ⟨gi, 2, none⟩ (.slice a1 ql c1')) (xb + 1) qo qn qa ql qc := by
                            obtain ⟨ga, h, _⟩ := HMAKE.out
                            exact HYR.out.next h.ka.bel
                          have hs : (((w13.setCell ⟨gi, 0, none⟩ (.int .i64 qo)).setCell ⟨gi, 1, none⟩ (.int .i64 qn)).setCell ⟨gi, 2, none⟩ (.slice a1 ql c1')).cell? ⟨xb + 1, 0, none⟩ = some (.int .i64 qo) ∧ (((w13.setCell ⟨gi, 0, none⟩ (.int .i64 qo)).setCell ⟨gi, 1, none⟩ (.int .i64 qn)).setCell ⟨gi, 2, none⟩ (.slice a1 ql c1')).cell? ⟨xb + 1, 1, none⟩ = some (.int .i64 qn) ∧ (((w13.setCell ⟨gi, 0, none⟩ (.int .i64 qo)).setCell ⟨gi, 1, none⟩ (.int .i64 qn)).setCell ⟨gi, 2, none⟩ (.slice a1 ql c1')).cell? ⟨xb + 1, 2, none⟩ = some (.slice qa ql qc) := ⟨hyb.c0, hyb.c1, hyb.c2⟩
                          clear hyb
                          go_simp
                          refine hK.out _ _ ?_ (fun hH => ?_)
                          · exact hs
                          clear hK K
                          try simp only [pt]
                          refine wpAnyH_done (by kernel_rfl) ?_ _
                          clear hs p0 p1 p2 c0 c1 c2
                          go_wp2_with fail
                          go_meet
                          case rel =>
                            obtain ⟨ga, h⟩ := HMAKE.out
                            exact ⟨_, ga, a1, c1', rfl, h⟩
                        exact AllReadyH.nil
                      exact AllReadyH.nil
                    exact AllReadyH.nil
                  exact AllReadyH.nil
                case rest =>
                  obtain ⟨gi, ga, a9, c9, rfl, hkw, hgl, hru9⟩ := hcut
                  clear KA8 HXK8 HXP8
                  have k0 := hkw.ka.kb.c0
                  have b0 := hkw.box.c0
                  have b1 := hkw.box.c1
                  have b2 := hkw.box.c2
                  have HKW10 := Lib.hid hkw
                  have HGA := Lib.hid hgl
                  have HRU9 := Lib.hid hru9
                  have hto := take_oth (s := s) (r := kR ⟨qo, qn, a9, ql, c9, qus⟩) (by rw [show s.o = x0 from HWF.out.o]; exact HNO.out)
                  have HTO := Lib.hid hto
                  have HO2 : Hid (Cs.Ok (k + 1) { s with kn := s.kn ++ [kR ⟨qo, qn, a9, ql, c9, qus⟩] }) := Lib.hid (by rw [← hto.2]; exact HO.out.take HSLQ.out)
                  clear hkw hgl hru9 hto
                  go_wp2_with fail
                  refine (ctake_any (s := s) (by omega) ⟨qo, qn, a9, ql, c9, qus⟩ HSLQ.out.sm wc HRU9.out HKW10.out.ka.pk).mono ?_
                  rintro e w11 ⟨rfl, P11, hp⟩
                  rw [HTO.out.1]
                  rw [HTO.out.2] at hp
                  obtain ⟨s2, hs2⟩ : ∃ s2 : Cs, s2 = { s with kn := s.kn ++ [kR ⟨qo, qn, a9, ql, c9, qus⟩] } := ⟨_, rfl⟩
                  rw [← hs2] at hp HO2
                  have HKN : Hid (s2.kn = s.kn ++ [(qo, qn, qus)]) := Lib.hid (by rw [hs2]; rfl)
                  have HS2 : Hid (s2.o = s.o ∧ s2.k = s.k ∧ s2.uss = s.uss) := Lib.hid (by rw [hs2]; exact ⟨rfl, rfl, rfl⟩)
                  have HKW11 := Lib.hid (HKW10.out.step HGA.out hp)
                  have HE2 : Hid (s2.kn.length = xk.length + 1) := Lib.hid (by rw [HKN.out, List.length_append, HLK.out]; rfl)
                  have HL2 : Hid (s2.kn.length ≤ 1000) := Lib.hid (by rw [HE2.out, HLK.out]; omega)
                  have HU2 : Hid (s2.uss.length ≤ 1000) := Lib.hid (by rw [HS2.out.2.2]; omega)
                  have HMA : Hid ((xk ++ [(⟨qo, qn, qa, ql, qc, qus⟩ : Rn)]).map kR = s2.kn) := Lib.hid (by rw [List.map_append, HMK.out, HKN.out]; rfl)
                  clear hs2 hp k0 b0 b1 b2 HTO HKW10 HRU9
                  have b2 := HKW11.out.box.c2
                  go_wp2_with fail
                  clear b2
                  go_loopw [75] (fun v wr => ∃ i : Nat, i ≤ ql ∧ v = .int .i64 i ∧ Kw W wr g cb db P11 D s2 s gk xk gp xp gi qo qn a9 ql c9 ga) (fun v _ => ql - (intOf v).toNat)
                  case atStart => exact ⟨0, Nat.zero_le _, rfl, HKW11.out⟩
                  case round =>
                    obtain ⟨i, hi, rfl, hkw⟩ := hrel
                    clear HKW11
                    by_cases hil : i < ql
                    · have h0 : 0 < ql := by omega
                      obtain ⟨e9, hrc⟩ := hkw.row h0
                      obtain ⟨v0, hv0⟩ := hrc.key hil
                      have hf0 := hrc.f0 (i * 4)
                      have b2 := hkw.box.c2
                      rw [e9] at b2
                      have HKS := Lib.hid (hkw.set h0 (i * 4) (.string ⟨#[111, 116, 104, 101, 114]⟩))
                      clear hkw hrc e9
                      go_wp2
                      go_roundw
                      case rel => exact ⟨i + 1, by omega, by go_num, HKS.out⟩
                      case measure => simp [intOf]; omega
                    · obtain rfl : ql = i := by omega
                      have k0 := hkw.ka.kb.c0
                      have HKW12 := Lib.hid hkw
                      clear hkw
                      go_wp2_with fail
                      refine (cknown_any (s := s2) HL2.out (fun r hr => (HO2.out.sk r hr).sm) wr HKW12.out.ka.pk).mono ?_
                      rintro e w13 ⟨gq, xq, rfl, hrz, -, how, hmq, hb⟩
                      have hlq : xq.length = s2.kn.length := by rw [← hmq, List.length_map]
                      rw [← hlq]
                      have HKV13 := Lib.hid (Kv.start HKW12.out hb hrz how)
                      have HRL : Hid (∀ r ∈ xq, r.len ≤ 1000) := Lib.hid fun r hr => by
                        obtain ⟨c, _, _, _, e1, _⟩ := how r hr
                        have := (HO2.out.sk (kR r) (by rw [← hmq]; exact List.mem_map.2 ⟨_, hr, rfl⟩)).1
                        have e2 : (kR r).2.2 = r.us := rfl
                        rw [e2] at this
                        omega
                      have hxq : xq.length ≤ 1000 := by rw [hlq]; exact HL2.out
                      clear hb hrz how hmq hlq k0 HKW12
                      generalize wr.heap.size = Z at *
                      go_wp2_with fail
                      go_loopw [88] (fun v wr => ∃ i : Nat, i ≤ xq.length ∧ v = .int .i64 i ∧ Kv W wr g cb db P11 D s2 s gk xk gp xp Z gq xq) (fun v _ => xq.length - (intOf v).toNat)
                      case atStart => exact ⟨0, Nat.zero_le _, rfl, HKV13.out⟩
                      case round =>
                        obtain ⟨j, hj, rfl, hkv⟩ := hrel
                        clear HKV13
                        by_cases hjl : j < xq.length
                        · obtain ⟨c0, c1, c2⟩ := hkv.rz.row j hjl
                          obtain ⟨b, eb, hzb, hrc⟩ := hkv.each _ (rn_mem hjl)
                          have hrl := HRL.out _ (rn_mem hjl)
                          generalize xq.getD j rn0 = r at *
                          obtain ⟨ro, rn, ra, rl, rc, rus⟩ := r
                          simp only at c0 c1 c2 eb hrc hrl
                          subst eb
                          have HZB := Lib.hid hzb
                          have hA := Joins.below_alloc1 wr (.cells #[.int .i64 ro, .int .i64 rn, .slice (some ⟨b, 0, none⟩) rl rc] 35)
                          have hqb := Rb.new wr ro rn (some ⟨b, 0, none⟩) rl rc
                          have HKV := Lib.hid (hkv.next hA)
                          have HRC := Lib.hid (hrc.keep (hA.block b hrc.lt))
                          have HQB := Lib.hid hqb
                          have b0 := hqb.c0
                          have b1 := hqb.c1
                          have b2 := hqb.c2
                          clear hA hqb hkv hrc hzb
                          go_wp2_with fail
                          clear c0 c1 c2 b0 b1 b2
                          generalize wr.heap.size = gb at *
                          generalize wr.alloc (.cells #[.int .i64 ro, .int .i64 rn, .slice (some ⟨b, 0, none⟩) rl rc] 35) = wq at *
                          go_loopw [95] (fun v wr => ∃ i : Nat, i ≤ rl ∧ v = .int .i64 i ∧ Kv W wr g cb db P11 D s2 s gk xk gp xp Z gq xq ∧ Rb wr gb ro rn (some ⟨b, 0, none⟩) rl rc ∧ Rc wr b rl) (fun v _ => rl - (intOf v).toNat)
                          case atStart => exact ⟨0, Nat.zero_le _, rfl, HKV.out, HQB.out, HRC.out⟩
                          case round =>
                            obtain ⟨j2, hj2, rfl, hkv, hqb, hrc⟩ := hrel
                            clear HKV HQB HRC
                            by_cases hjl2 : j2 < rl
                            · obtain ⟨v0, hv0⟩ := hrc.key hjl2
                              have hf0 := hrc.f0 (j2 * 4)
                              have b2 := hqb.c2
                              have HKS := Lib.hid (hkv.set HZB.out hrc (j2 * 4) (.string ⟨#[101, 108, 115, 101]⟩))
                              have HQS := Lib.hid (hqb.setnew (hrc.rb hqb) (j2 * 4) (.string ⟨#[101, 108, 115, 101]⟩))
                              have HRS := Lib.hid (hrc.set (j2 * 4) (.string ⟨#[101, 108, 115, 101]⟩))
                              clear hkv hqb hrc
                              go_wp2
                              go_roundw
                              case rel => exact ⟨j2 + 1, by omega, by go_num, HKS.out, HQS.out, HRS.out⟩
                              case measure => simp [intOf]; omega
                            · obtain rfl : rl = j2 := by omega
                              have HKS := Lib.hid hkv
                              clear hkv hqb hrc
                              go_wp2
                              go_roundw
                              case rel => exact ⟨j + 1, by omega, by go_num, HKS.out⟩
                              case measure => simp [intOf]; omega
                        · obtain rfl : xq.length = j := by omega
                          obtain ⟨hka, hxk2, hxp2⟩ := hkv.rest
                          have KA20 := Lib.hid (hka.next (Below.refl _ _).drew)
                          have HXK20 := Lib.hid (hxk2.next (Below.refl _ _).drew)
                          have HXP20 := Lib.hid (hxp2.next (Below.refl _ _).drew)
                          clear hkv hka hxk2 hxp2
                          go_upto_region 27 with fail
                          have hyb := HYR.out.next KA20.out.bel
                          refine wp_region_held_drew (S := fun w' => (w'.cell? ⟨g, 0, none⟩ = some (.pointer (some ⟨cb, 0, none⟩)) ∧ w'.cell? ⟨g, 1, none⟩ = some (.pointer (some ⟨db, 0, none⟩))) ∧ w'.cell? ⟨xb + 1, 0, none⟩ = some (.int .i64 qo) ∧ w'.cell? ⟨xb + 1, 1, none⟩ = some (.int .i64 qn) ∧ w'.cell? ⟨xb + 1, 2, none⟩ = some (.slice qa ql qc)) (by kernel_rfl) ?_ (fun hs20 => ?_)
                          · exact ⟨⟨KA20.out.kb.c0, KA20.out.kb.c1⟩, hyb.c0, hyb.c1, hyb.c2⟩
                          clear hyb
                          generalize wr.drew = w20 at *
                          refine tkH 0 ?_ ?_ ?_
                          rotate_left
                          · intro w h; try dsimp only at h
                            obtain ⟨⟨q0, q1⟩, d0, d1, d2⟩ := h; go_simp; all_goals with_reducible rfl
                          try simp only [pt]
                          refine tkH 1 ?_ ?_ ?_
                          rotate_left
                          · intro w h; try dsimp only at h
                            obtain ⟨⟨q0, q1⟩, d0, d1, d2⟩ := h; go_simp; all_goals with_reducible rfl
                          try simp only [pt]
                          refine tkH 3 ?_ ?_ ?_
                          rotate_left
                          · intro w h; try dsimp only at h
                            obtain ⟨⟨q0, q1⟩, d0, d1, d2⟩ := h; go_simp; all_goals with_reducible rfl
                          try simp only [pt]
                          refine tkH 4 ?_ ?_ ?_
                          rotate_left
                          · intro w h; try dsimp only at h
                            obtain ⟨⟨q0, q1⟩, d0, d1, d2⟩ := h; go_simp; all_goals with_reducible rfl
                          try simp only [pt]
                          refine wpAnyH_ready (rs := [2, 5]) (by kernel_rfl) (by simp) ?_
                          refine rdH (fun K hK => ?_) ?_
                          · go_simp
                            refine (cknown_any (s := s2) HL2.out (fun r hr => (HO2.out.sk r hr).sm) w20 KA20.out.pk).mono ?_
                            rintro e w21 ⟨g2, x2, rfl, hrz, hg2, how, hm2, hb⟩
                            rw [HE2.out]
                            have hl2 : x2.length = xk.length + 1 := by rw [← HE2.out, ← hm2, List.length_map]
                            have HM2 := Lib.hid hm2
                            have HX221 := Lib.hid (Hx.new KA20.out.pk hrz hg2 how)
                            have HL22 := Lib.hid hl2
                            have HN2 : Hid (g2 ≠ gk) := Lib.hid (by have := HXK20.out.rz.lt; omega)
                            have HXK21 := Lib.hid (HXK20.out.next hb)
                            have KA21 := Lib.hid (KA20.out.next hb)
                            have HXP21 := Lib.hid (HXP20.out.next hb)
                            have hyb := HYR.out.next KA21.out.bel
                            have hs21 : (w21.cell? ⟨g, 0, none⟩ = some (.pointer (some ⟨cb, 0, none⟩)) ∧ w21.cell? ⟨g, 1, none⟩ = some (.pointer (some ⟨db, 0, none⟩))) ∧ w21.cell? ⟨xb + 1, 0, none⟩ = some (.int .i64 qo) ∧ w21.cell? ⟨xb + 1, 1, none⟩ = some (.int .i64 qn) ∧ w21.cell? ⟨xb + 1, 2, none⟩ = some (.slice qa ql qc) := ⟨⟨KA21.out.kb.c0, KA21.out.kb.c1⟩, hyb.c0, hyb.c1, hyb.c2⟩
                            clear hyb
                            clear hb hrz hg2 how hm2 hl2
                            go_wp2_with fail
                            refine hK.out _ _ ?_ (fun hH => ?_)
                            · exact hs21
                            clear hK K
                            try simp only [pt]
                            refine wpAnyH_ready (rs := [5]) (by kernel_rfl) (by simp) ?_
                            refine rdH (fun K hK => ?_) ?_
                            · go_simp
                              have hb := Joins.below_alloc1 w21 (.cells #[.int .i64 qo, .int .i64 qn, .slice qa ql qc] 35)
                              have HONE22 : Hid (RsAt (w21.alloc (.cells #[.int .i64 qo, .int .i64 qn, .slice qa ql qc] 35)) (some ⟨w21.heap.size, 0, none⟩) 1 [⟨qo, qn, qa, ql, qc, qus⟩]) := Lib.hid (rsAt_one w21 ⟨qo, qn, qa, ql, qc, qus⟩)
                              have HXK22 := Lib.hid (HXK21.out.next hb)
                              have KA22 := Lib.hid (KA21.out.next hb)
                              have HXP22 := Lib.hid (HXP21.out.next hb)
                              have HX222 := Lib.hid (HX221.out.next hb)
                              have hyb := HYR.out.next KA22.out.bel
                              have hs22 : ((w21.alloc (.cells #[.int .i64 qo, .int .i64 qn, .slice qa ql qc] 35)).cell? ⟨g, 0, none⟩ = some (.pointer (some ⟨cb, 0, none⟩)) ∧ (w21.alloc (.cells #[.int .i64 qo, .int .i64 qn, .slice qa ql qc] 35)).cell? ⟨g, 1, none⟩ = some (.pointer (some ⟨db, 0, none⟩))) ∧ (w21.alloc (.cells #[.int .i64 qo, .int .i64 qn, .slice qa ql qc] 35)).cell? ⟨xb + 1, 0, none⟩ = some (.int .i64 qo) ∧ (w21.alloc (.cells #[.int .i64 qo, .int .i64 qn, .slice qa ql qc] 35)).cell? ⟨xb + 1, 1, none⟩ = some (.int .i64 qn) ∧ (w21.alloc (.cells #[.int .i64 qo, .int .i64 qn, .slice qa ql qc] 35)).cell? ⟨xb + 1, 2, none⟩ = some (.slice qa ql qc) := ⟨⟨KA22.out.kb.c0, KA22.out.kb.c1⟩, hyb.c0, hyb.c1, hyb.c2⟩
                              clear hyb
                              clear hb
                              refine hK.out _ _ ?_ (fun hH => ?_)
                              · exact hs22
                              clear hK K
                              try simp only [pt]
                              generalize w21.heap.size = g1 at *
                              generalize w21.alloc (.cells #[.int .i64 qo, .int .i64 qn, .slice qa ql qc] 35) = w22 at *
                              refine wpAnyH_ready (rs := [6]) (by kernel_rfl) (by simp) ?_
                              refine rdH (fun K hK => ?_) ?_
                              · refine step_appR (by rfl) (.tmp 108) (.tmp 110) (by rfl) W.heap.size _ xk (by rfl) (HXK22.out.rz.rowR HGK.out.2.1 (by omega)) (some ⟨g1, 0, none⟩) 1 1 (by rfl) [⟨qo, qn, qa, ql, qc, qus⟩] HONE22.out (Nat.le_refl _) (fun e => by cases e) (by omega) KA22.out.bel.size ?_
                                intro a3 c3 w23 hr3 hg3 _
                                have hka := KA22.out.own (F := fun x => x = gk) (Lv.grown hg3 fun k e => (Option.some.inj e).symm) fun x e => by subst e; exact ⟨HGK.out.2.1, HXK22.out.ng, HGK.out.1, HGK.out.2.2⟩
                                have HAP23 : Hid (IsRs w23 a3 (xk.length + 1) (xk ++ [⟨qo, qn, qa, ql, qc, qus⟩])) := Lib.hid (app_is hr3 rfl (HXK22.out.each_grown hg3) fun r hr => by rw [List.mem_singleton.1 hr]; exact HRQ.out.below hka.bel)
                                have KA23 := Lib.hid hka
                                have HXP23 := Lib.hid (HXP22.out.grown HXK22.out.rz HNE.out hg3)
                                have HX223 := Lib.hid (HX222.out.grown HXK22.out.rz HN2.out hg3)
                                have hyb := HYR.out.next KA23.out.bel
                                have hs23 : (w23.cell? ⟨g, 0, none⟩ = some (.pointer (some ⟨cb, 0, none⟩)) ∧ w23.cell? ⟨g, 1, none⟩ = some (.pointer (some ⟨db, 0, none⟩))) ∧ w23.cell? ⟨xb + 1, 0, none⟩ = some (.int .i64 qo) ∧ w23.cell? ⟨xb + 1, 1, none⟩ = some (.int .i64 qn) ∧ w23.cell? ⟨xb + 1, 2, none⟩ = some (.slice qa ql qc) := ⟨⟨KA23.out.kb.c0, KA23.out.kb.c1⟩, hyb.c0, hyb.c1, hyb.c2⟩
                                clear hyb
                                clear hr3 hg3 hka
                                refine hK.out _ _ ?_ (fun hH => ?_)
                                · exact hs23
                                clear hK K
                                try simp only [pt]
                                refine wpAnyH_ready (rs := [7]) (by kernel_rfl) (by simp) ?_
                                refine rdH (fun K hK => ?_) ?_
                                · go_simp
                                  refine (sameall_yes (some ⟨g2, 0, none⟩) a3 (xk.length + 1) (xk.length + 1) c3 x2 (xk ++ [⟨qo, qn, qa, ql, qc, qus⟩]) (by omega) (by rw [← HE2.out]; exact alk_map HM2.out HMA.out) (fun i hi => kn_short HO2.out HM2.out i (by rw [HE2.out]; exact hi)) w23 (by rw [← HL22.out]; exact HX223.out.is) HAP23.out).mono ?_
                                  rintro e w24 ⟨rfl, hb⟩
                                  have KA24 := Lib.hid (KA23.out.next hb)
                                  have HXP24 := Lib.hid (HXP23.out.next hb)
                                  have hyb := HYR.out.next KA24.out.bel
                                  have hs24 : (w24.cell? ⟨g, 0, none⟩ = some (.pointer (some ⟨cb, 0, none⟩)) ∧ w24.cell? ⟨g, 1, none⟩ = some (.pointer (some ⟨db, 0, none⟩))) ∧ w24.cell? ⟨xb + 1, 0, none⟩ = some (.int .i64 qo) ∧ w24.cell? ⟨xb + 1, 1, none⟩ = some (.int .i64 qn) ∧ w24.cell? ⟨xb + 1, 2, none⟩ = some (.slice qa ql qc) := ⟨⟨KA24.out.kb.c0, KA24.out.kb.c1⟩, hyb.c0, hyb.c1, hyb.c2⟩
                                  clear hyb
                                  clear hb
                                  go_wp2_with fail
                                  refine hK.out _ _ ?_ (fun hH => ?_)
                                  · exact hs24
                                  clear hK K
                                  try simp only [pt]
                                  refine tkH 8 ?_ ?_ ?_
                                  rotate_left
                                  · intro w h; try dsimp only at h
                                    obtain ⟨⟨q0, q1⟩, d0, d1, d2⟩ := h; go_simp; all_goals with_reducible rfl
                                  try simp only [pt]
                                  refine tkH 9 ?_ ?_ ?_
                                  rotate_left
                                  · intro w h; try dsimp only at h
                                    obtain ⟨⟨q0, q1⟩, d0, d1, d2⟩ := h; go_simp; all_goals with_reducible rfl
                                  try simp only [pt]
                                  refine tkH 10 ?_ ?_ ?_
                                  rotate_left
                                  · intro w h; try dsimp only at h
                                    obtain ⟨⟨q0, q1⟩, d0, d1, d2⟩ := h; go_simp; all_goals with_reducible rfl
                                  try simp only [pt]
                                  refine tkH 12 ?_ ?_ ?_
                                  rotate_left
                                  · intro w h; try dsimp only at h
                                    obtain ⟨⟨q0, q1⟩, d0, d1, d2⟩ := h; go_simp; all_goals with_reducible rfl
                                  try simp only [pt]
                                  refine wpAnyH_ready (rs := [11]) (by kernel_rfl) (by simp) ?_
                                  refine rdH (fun K hK => ?_) ?_
                                  · go_simp
                                    refine (cpend_any (s := s2) HO2.out.k HU2.out w24 KA24.out.pk).mono ?_
                                    rintro e w25 ⟨g4, x4, rfl, hrz, -, how, hof, hb⟩
                                    rw [HS2.out.1, HS2.out.2.1, HS2.out.2.2] at hof
                                    have his := rz_is hrz how
                                    have hl4 : x4.length = s.uss.length - s.k := by rw [hof.len, List.length_drop]
                                    have HI4 := Lib.hid his
                                    have HM4 := Lib.hid hof
                                    have HL4 := Lib.hid hl4
                                    have KA25 := Lib.hid (KA24.out.next hb)
                                    have HXP25 := Lib.hid (HXP24.out.next hb)
                                    rw [HS2.out.2.1, HS2.out.2.2]
                                    have hyb := HYR.out.next KA25.out.bel
                                    have hs25 : (w25.cell? ⟨g, 0, none⟩ = some (.pointer (some ⟨cb, 0, none⟩)) ∧ w25.cell? ⟨g, 1, none⟩ = some (.pointer (some ⟨db, 0, none⟩))) ∧ w25.cell? ⟨xb + 1, 0, none⟩ = some (.int .i64 qo) ∧ w25.cell? ⟨xb + 1, 1, none⟩ = some (.int .i64 qn) ∧ w25.cell? ⟨xb + 1, 2, none⟩ = some (.slice qa ql qc) := ⟨⟨KA25.out.kb.c0, KA25.out.kb.c1⟩, hyb.c0, hyb.c1, hyb.c2⟩
                                    clear hyb
                                    clear hb hrz how hof his hl4
                                    go_wp2_with fail
                                    refine hK.out _ _ ?_ (fun hH => ?_)
                                    · exact hs25
                                    clear hK K
                                    try simp only [pt]
                                    refine wpAnyH_ready (rs := [13]) (by kernel_rfl) (by simp) ?_
                                    refine rdH (fun K hK => ?_) ?_
                                    · go_simp
                                      refine (sameall_yes (some ⟨g4, 0, none⟩) (some ⟨gp, 0, none⟩) (s.uss.length - s.k) (s.uss.length - s.k) (s.uss.length - s.k) x4 xp (by omega) (HM4.out.alk HMP.out (by rw [List.length_drop]; omega)) (fun i hi => pd_short HO.out HM4.out i hi) w25 (by rw [← HL4.out]; exact HI4.out) (by rw [← HLP.out]; exact HXP25.out.is)).mono ?_
                                      rintro e w26 ⟨rfl, hb⟩
                                      have KA26 := Lib.hid (KA25.out.next hb)
                                      have hyb := HYR.out.next KA26.out.bel
                                      have hs26 : (w26.cell? ⟨g, 0, none⟩ = some (.pointer (some ⟨cb, 0, none⟩)) ∧ w26.cell? ⟨g, 1, none⟩ = some (.pointer (some ⟨db, 0, none⟩))) ∧ w26.cell? ⟨xb + 1, 0, none⟩ = some (.int .i64 qo) ∧ w26.cell? ⟨xb + 1, 1, none⟩ = some (.int .i64 qn) ∧ w26.cell? ⟨xb + 1, 2, none⟩ = some (.slice qa ql qc) := ⟨⟨KA26.out.kb.c0, KA26.out.kb.c1⟩, hyb.c0, hyb.c1, hyb.c2⟩
                                      clear hyb
                                      clear hb
                                      go_wp2_with fail
                                      refine hK.out _ _ ?_ (fun hH => ?_)
                                      · exact hs26
                                      clear hK K
                                      try simp only [pt]
                                      refine tkH 14 ?_ ?_ ?_
                                      rotate_left
                                      · intro w h; try dsimp only at h
                                        obtain ⟨⟨q0, q1⟩, d0, d1, d2⟩ := h; go_simp; all_goals with_reducible rfl
                                      try simp only [pt]
                                      refine tkH 15 ?_ ?_ ?_
                                      rotate_left
                                      · intro w h; try dsimp only at h
                                        obtain ⟨⟨q0, q1⟩, d0, d1, d2⟩ := h; go_simp; all_goals with_reducible rfl
                                      try simp only [pt]
                                      refine wpAnyH_done (by kernel_rfl) ?_ _
                                      go_wp2
                                      go_ret
                                      exact ⟨rfl, Below.next HB0.out KA26.out.bel⟩
                                    exact AllReadyH.nil
                                  exact AllReadyH.nil
                                exact AllReadyH.nil
                              exact AllReadyH.nil
                            exact AllReadyH.nil
                          refine rdH (fun K hK => ?_) ?_
                          · go_simp
                            have hb := Joins.below_alloc1 w20 (.cells #[.int .i64 qo, .int .i64 qn, .slice qa ql qc] 35)
                            have HONE21 : Hid (RsAt (w20.alloc (.cells #[.int .i64 qo, .int .i64 qn, .slice qa ql qc] 35)) (some ⟨w20.heap.size, 0, none⟩) 1 [⟨qo, qn, qa, ql, qc, qus⟩]) := Lib.hid (rsAt_one w20 ⟨qo, qn, qa, ql, qc, qus⟩)
                            have HXK21 := Lib.hid (HXK20.out.next hb)
                            have KA21 := Lib.hid (KA20.out.next hb)
                            have HXP21 := Lib.hid (HXP20.out.next hb)
                            have hyb := HYR.out.next KA21.out.bel
                            have hs21 : ((w20.alloc (.cells #[.int .i64 qo, .int .i64 qn, .slice qa ql qc] 35)).cell? ⟨g, 0, none⟩ = some (.pointer (some ⟨cb, 0, none⟩)) ∧ (w20.alloc (.cells #[.int .i64 qo, .int .i64 qn, .slice qa ql qc] 35)).cell? ⟨g, 1, none⟩ = some (.pointer (some ⟨db, 0, none⟩))) ∧ (w20.alloc (.cells #[.int .i64 qo, .int .i64 qn, .slice qa ql qc] 35)).cell? ⟨xb + 1, 0, none⟩ = some (.int .i64 qo) ∧ (w20.alloc (.cells #[.int .i64 qo, .int .i64 qn, .slice qa ql qc] 35)).cell? ⟨xb + 1, 1, none⟩ = some (.int .i64 qn) ∧ (w20.alloc (.cells #[.int .i64 qo, .int .i64 qn, .slice qa ql qc] 35)).cell? ⟨xb + 1, 2, none⟩ = some (.slice qa ql qc) := ⟨⟨KA21.out.kb.c0, KA21.out.kb.c1⟩, hyb.c0, hyb.c1, hyb.c2⟩
                            clear hyb
                            clear hb
                            refine hK.out _ _ ?_ (fun hH => ?_)
                            · exact hs21
                            clear hK K
                            try simp only [pt]
                            generalize w20.heap.size = g1 at *
                            generalize w20.alloc (.cells #[.int .i64 qo, .int .i64 qn, .slice qa ql qc] 35) = w21 at *
                            refine wpAnyH_ready (rs := [2]) (by kernel_rfl) (by simp) ?_
                            refine rdH (fun K hK => ?_) ?_
                            · go_simp
                              refine (cknown_any (s := s2) HL2.out (fun r hr => (HO2.out.sk r hr).sm) w21 KA21.out.pk).mono ?_
                              rintro e w22 ⟨g2, x2, rfl, hrz, hg2, how, hm2, hb⟩
                              rw [HE2.out]
                              have hl2 : x2.length = xk.length + 1 := by rw [← HE2.out, ← hm2, List.length_map]
                              have HM2 := Lib.hid hm2
                              have HX222 := Lib.hid (Hx.new KA21.out.pk hrz hg2 how)
                              have HL22 := Lib.hid hl2
                              have HN2 : Hid (g2 ≠ gk) := Lib.hid (by have := HXK21.out.rz.lt; omega)
                              have HXK22 := Lib.hid (HXK21.out.next hb)
                              have HONE22 := Lib.hid (rsAt_below HONE21.out hb)
                              have KA22 := Lib.hid (KA21.out.next hb)
                              have HXP22 := Lib.hid (HXP21.out.next hb)
                              have hyb := HYR.out.next KA22.out.bel
                              have hs22 : (w22.cell? ⟨g, 0, none⟩ = some (.pointer (some ⟨cb, 0, none⟩)) ∧ w22.cell? ⟨g, 1, none⟩ = some (.pointer (some ⟨db, 0, none⟩))) ∧ w22.cell? ⟨xb + 1, 0, none⟩ = some (.int .i64 qo) ∧ w22.cell? ⟨xb + 1, 1, none⟩ = some (.int .i64 qn) ∧ w22.cell? ⟨xb + 1, 2, none⟩ = some (.slice qa ql qc) := ⟨⟨KA22.out.kb.c0, KA22.out.kb.c1⟩, hyb.c0, hyb.c1, hyb.c2⟩
                              clear hyb
                              clear hb hrz hg2 how hm2 hl2
                              go_wp2_with fail
                              refine hK.out _ _ ?_ (fun hH => ?_)
                              · exact hs22
                              clear hK K
                              try simp only [pt]
                              refine wpAnyH_ready (rs := [6]) (by kernel_rfl) (by simp) ?_
                              refine rdH (fun K hK => ?_) ?_
                              · refine step_appR (by rfl) (.tmp 108) (.tmp 110) (by rfl) W.heap.size _ xk (by rfl) (HXK22.out.rz.rowR HGK.out.2.1 (by omega)) (some ⟨g1, 0, none⟩) 1 1 (by rfl) [⟨qo, qn, qa, ql, qc, qus⟩] HONE22.out (Nat.le_refl _) (fun e => by cases e) (by omega) KA22.out.bel.size ?_
                                intro a3 c3 w23 hr3 hg3 _
                                have hka := KA22.out.own (F := fun x => x = gk) (Lv.grown hg3 fun k e => (Option.some.inj e).symm) fun x e => by subst e; exact ⟨HGK.out.2.1, HXK22.out.ng, HGK.out.1, HGK.out.2.2⟩
                                have HAP23 : Hid (IsRs w23 a3 (xk.length + 1) (xk ++ [⟨qo, qn, qa, ql, qc, qus⟩])) := Lib.hid (app_is hr3 rfl (HXK22.out.each_grown hg3) fun r hr => by rw [List.mem_singleton.1 hr]; exact HRQ.out.below hka.bel)
                                have KA23 := Lib.hid hka
                                have HXP23 := Lib.hid (HXP22.out.grown HXK22.out.rz HNE.out hg3)
                                have HX223 := Lib.hid (HX222.out.grown HXK22.out.rz HN2.out hg3)
                                have hyb := HYR.out.next KA23.out.bel
                                have hs23 : (w23.cell? ⟨g, 0, none⟩ = some (.pointer (some ⟨cb, 0, none⟩)) ∧ w23.cell? ⟨g, 1, none⟩ = some (.pointer (some ⟨db, 0, none⟩))) ∧ w23.cell? ⟨xb + 1, 0, none⟩ = some (.int .i64 qo) ∧ w23.cell? ⟨xb + 1, 1, none⟩ = some (.int .i64 qn) ∧ w23.cell? ⟨xb + 1, 2, none⟩ = some (.slice qa ql qc) := ⟨⟨KA23.out.kb.c0, KA23.out.kb.c1⟩, hyb.c0, hyb.c1, hyb.c2⟩
                                clear hyb
                                clear hr3 hg3 hka
                                refine hK.out _ _ ?_ (fun hH => ?_)
                                · exact hs23
                                clear hK K
                                try simp only [pt]
                                refine wpAnyH_ready (rs := [7]) (by kernel_rfl) (by simp) ?_
                                refine rdH (fun K hK => ?_) ?_
                                · go_simp
                                  refine (sameall_yes (some ⟨g2, 0, none⟩) a3 (xk.length + 1) (xk.length + 1) c3 x2 (xk ++ [⟨qo, qn, qa, ql, qc, qus⟩]) (by omega) (by rw [← HE2.out]; exact alk_map HM2.out HMA.out) (fun i hi => kn_short HO2.out HM2.out i (by rw [HE2.out]; exact hi)) w23 (by rw [← HL22.out]; exact HX223.out.is) HAP23.out).mono ?_
                                  rintro e w24 ⟨rfl, hb⟩
                                  have KA24 := Lib.hid (KA23.out.next hb)
                                  have HXP24 := Lib.hid (HXP23.out.next hb)
                                  have hyb := HYR.out.next KA24.out.bel
                                  have hs24 : (w24.cell? ⟨g, 0, none⟩ = some (.pointer (some ⟨cb, 0, none⟩)) ∧ w24.cell? ⟨g, 1, none⟩ = some (.pointer (some ⟨db, 0, none⟩))) ∧ w24.cell? ⟨xb + 1, 0, none⟩ = some (.int .i64 qo) ∧ w24.cell? ⟨xb + 1, 1, none⟩ = some (.int .i64 qn) ∧ w24.cell? ⟨xb + 1, 2, none⟩ = some (.slice qa ql qc) := ⟨⟨KA24.out.kb.c0, KA24.out.kb.c1⟩, hyb.c0, hyb.c1, hyb.c2⟩
                                  clear hyb
                                  clear hb
                                  go_wp2_with fail
                                  refine hK.out _ _ ?_ (fun hH => ?_)
                                  · exact hs24
                                  clear hK K
                                  try simp only [pt]
                                  refine tkH 8 ?_ ?_ ?_
                                  rotate_left
                                  · intro w h; try dsimp only at h
                                    obtain ⟨⟨q0, q1⟩, d0, d1, d2⟩ := h; go_simp; all_goals with_reducible rfl
                                  try simp only [pt]
                                  refine tkH 9 ?_ ?_ ?_
                                  rotate_left
                                  · intro w h; try dsimp only at h
                                    obtain ⟨⟨q0, q1⟩, d0, d1, d2⟩ := h; go_simp; all_goals with_reducible rfl
                                  try simp only [pt]
                                  refine tkH 10 ?_ ?_ ?_
                                  rotate_left
                                  · intro w h; try dsimp only at h
                                    obtain ⟨⟨q0, q1⟩, d0, d1, d2⟩ := h; go_simp; all_goals with_reducible rfl
                                  try simp only [pt]
                                  refine tkH 12 ?_ ?_ ?_
                                  rotate_left
                                  · intro w h; try dsimp only at h
                                    obtain ⟨⟨q0, q1⟩, d0, d1, d2⟩ := h; go_simp; all_goals with_reducible rfl
                                  try simp only [pt]
                                  refine wpAnyH_ready (rs := [11]) (by kernel_rfl) (by simp) ?_
                                  refine rdH (fun K hK => ?_) ?_
                                  · go_simp
                                    refine (cpend_any (s := s2) HO2.out.k HU2.out w24 KA24.out.pk).mono ?_
                                    rintro e w25 ⟨g4, x4, rfl, hrz, -, how, hof, hb⟩
                                    rw [HS2.out.1, HS2.out.2.1, HS2.out.2.2] at hof
                                    have his := rz_is hrz how
                                    have hl4 : x4.length = s.uss.length - s.k := by rw [hof.len, List.length_drop]
                                    have HI4 := Lib.hid his
                                    have HM4 := Lib.hid hof
                                    have HL4 := Lib.hid hl4
                                    have KA25 := Lib.hid (KA24.out.next hb)
                                    have HXP25 := Lib.hid (HXP24.out.next hb)
                                    rw [HS2.out.2.1, HS2.out.2.2]
                                    have hyb := HYR.out.next KA25.out.bel
                                    have hs25 : (w25.cell? ⟨g, 0, none⟩ = some (.pointer (some ⟨cb, 0, none⟩)) ∧ w25.cell? ⟨g, 1, none⟩ = some (.pointer (some ⟨db, 0, none⟩))) ∧ w25.cell? ⟨xb + 1, 0, none⟩ = some (.int .i64 qo) ∧ w25.cell? ⟨xb + 1, 1, none⟩ = some (.int .i64 qn) ∧ w25.cell? ⟨xb + 1, 2, none⟩ = some (.slice qa ql qc) := ⟨⟨KA25.out.kb.c0, KA25.out.kb.c1⟩, hyb.c0, hyb.c1, hyb.c2⟩
                                    clear hyb
                                    clear hb hrz how hof his hl4
                                    go_wp2_with fail
                                    refine hK.out _ _ ?_ (fun hH => ?_)
                                    · exact hs25
                                    clear hK K
                                    try simp only [pt]
                                    refine wpAnyH_ready (rs := [13]) (by kernel_rfl) (by simp) ?_
                                    refine rdH (fun K hK => ?_) ?_
                                    · go_simp
                                      refine (sameall_yes (some ⟨g4, 0, none⟩) (some ⟨gp, 0, none⟩) (s.uss.length - s.k) (s.uss.length - s.k) (s.uss.length - s.k) x4 xp (by omega) (HM4.out.alk HMP.out (by rw [List.length_drop]; omega)) (fun i hi => pd_short HO.out HM4.out i hi) w25 (by rw [← HL4.out]; exact HI4.out) (by rw [← HLP.out]; exact HXP25.out.is)).mono ?_
                                      rintro e w26 ⟨rfl, hb⟩
                                      have KA26 := Lib.hid (KA25.out.next hb)
                                      have hyb := HYR.out.next KA26.out.bel
                                      have hs26 : (w26.cell? ⟨g, 0, none⟩ = some (.pointer (some ⟨cb, 0, none⟩)) ∧ w26.cell? ⟨g, 1, none⟩ = some (.pointer (some ⟨db, 0, none⟩))) ∧ w26.cell? ⟨xb + 1, 0, none⟩ = some (.int .i64 qo) ∧ w26.cell? ⟨xb + 1, 1, none⟩ = some (.int .i64 qn) ∧ w26.cell? ⟨xb + 1, 2, none⟩ = some (.slice qa ql qc) := ⟨⟨KA26.out.kb.c0, KA26.out.kb.c1⟩, hyb.c0, hyb.c1, hyb.c2⟩
                                      clear hyb
                                      clear hb
                                      go_wp2_with fail
                                      refine hK.out _ _ ?_ (fun hH => ?_)
                                      · exact hs26
                                      clear hK K
                                      try simp only [pt]
                                      refine tkH 14 ?_ ?_ ?_
                                      rotate_left
                                      · intro w h; try dsimp only at h
                                        obtain ⟨⟨q0, q1⟩, d0, d1, d2⟩ := h; go_simp; all_goals with_reducible rfl
                                      try simp only [pt]
                                      refine tkH 15 ?_ ?_ ?_
                                      rotate_left
                                      · intro w h; try dsimp only at h
                                        obtain ⟨⟨q0, q1⟩, d0, d1, d2⟩ := h; go_simp; all_goals with_reducible rfl
                                      try simp only [pt]
                                      refine wpAnyH_done (by kernel_rfl) ?_ _
                                      go_wp2
                                      go_ret
                                      exact ⟨rfl, Below.next HB0.out KA26.out.bel⟩
                                    exact AllReadyH.nil
                                  exact AllReadyH.nil
                                exact AllReadyH.nil
                              exact AllReadyH.nil
                            exact AllReadyH.nil
                          exact AllReadyH.nil
              exact AllReadyH.nil
            exact AllReadyH.nil
end Go.Proofs.YtbbgibekplfacaaDoor
