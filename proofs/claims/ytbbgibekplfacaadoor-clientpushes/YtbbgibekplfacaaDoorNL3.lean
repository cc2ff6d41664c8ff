/- The walk of ClientPushes. -/
import Derived.Test.YtbbgibekplfacaaDoorRH
import Derived.Test.YtbbgibekplfacaaDoorNK
namespace Go.Proofs.YtbbgibekplfacaaDoor
open Go Go.RowKit
set_option maxRecDepth 20000
set_option maxHeartbeats 16000000 in
theorem walkPushes (x0 x1 x2 x3 : Int) (a : Option Addr) (len cap : Nat) (l : List Ac) (key : ByteArray) (w : World) (hd : X.Wd w) (h : IsAs w a len l) :
    Calls Tryd.prog 5 #[.agg #[.int .i64 x0, .int .i64 x1, .int .i64 x2, .int .i64 x3], .slice a len cap, .string key] w fun e w' => e = .returned (.bool true) ∧ Below w.heap.size w w' := by
  have hA := Joins.below_alloc1 w (.cells #[.int .i64 x0, .int .i64 x1, .int .i64 x2, .int .i64 x3] 22)
  have hx : (w.alloc (.cells #[.int .i64 x0, .int .i64 x1, .int .i64 x2, .int .i64 x3] 22)).heap[w.heap.size]? = some (.cells #[.int .i64 x0, .int .i64 x1, .int .i64 x2, .int .i64 x3] 22 (0, 0)) := heap_alloc_new w _
  have b0 := cell_at hx 0 _ rfl
  have b1 := cell_at hx 1 _ rfl
  have b2 := cell_at hx 2 _ rfl
  have b3 := cell_at hx 3 _ rfl
  have HX := Lib.hid hx
  have HB0 := Lib.hid hA
  have HD := Lib.hid (hd.below hA)
  have H := Lib.hid (isAs_below h hA)
  clear hx hA hd h
  go_enter Tryd.func5, Tryd.ntmps5
  go_wp2_with fail
  clear b0 b1 b2 b3
  generalize w.heap.size = xb at HX ⊢
  generalize w.alloc (.cells #[.int .i64 x0, .int .i64 x1, .int .i64 x2, .int .i64 x3] 22) = W at *
  refine (made_any x0 x1 x2 x3 W).mono ?_
  rintro e w1 ⟨cb, db, rfl, P0, D0, hq⟩
  have hk := Kl.start hq
  have k0 := hk.kb.c0
  have HK1 := Lib.hid hk
  have HLO := Lib.hid hq.bel.size
  clear hk hq
  go_wp2_with fail
  clear k0
  generalize w1.heap.size = g at *
  generalize w1.alloc (.cells #[.pointer (some ⟨cb, 0, none⟩), .pointer (some ⟨db, 0, none⟩)] 27) = w2 at *
  refine (awake_any w2 (HD.out.below HK1.out.bel)).mono ?_
  rintro e w3 ⟨rfl, hb⟩
  have HK2 := Lib.hid (HK1.out.next hb)
  have k0 := HK2.out.kb.c0
  clear hb HK1
  go_wp2_with fail
  clear k0
  refine (great_any a len cap l w3 (isAs_below H.out HK2.out.bel)).mono ?_
  rintro e w4 ⟨⟨bt, rfl, hok⟩, hb⟩
  have HK3 := Lib.hid (HK2.out.next hb)
  clear hb HK2
  cases bt with
  | true =>
    clear hok
    go_wp2_with fail
    refine (awake_any w4 (HD.out.below HK3.out.bel)).mono ?_
    rintro e w5 ⟨rfl, hb⟩
    have HK4 := Lib.hid (HK3.out.next hb)
    clear hb HK3
    go_wp2
    go_ret
    exact ⟨rfl, Below.next HB0.out HK4.out.bel⟩
  | false =>
    obtain ⟨hl50, hok⟩ := hok rfl
    have HOK := Lib.hid hok
    clear hok
    by_cases hkey : 50 < key.size
    · have q : decide ((50 : Int) < (key.size : Int)) = true := decide_eq_true (by omega)
      go_wp2_with fail
      refine (awake_any w4 (HD.out.below HK3.out.bel)).mono ?_
      rintro e w5 ⟨rfl, hb⟩
      have HK4 := Lib.hid (HK3.out.next hb)
      clear hb HK3
      go_wp2
      go_ret
      exact ⟨rfl, Below.next HB0.out HK4.out.bel⟩
    have q : decide ((50 : Int) < (key.size : Int)) = false := decide_eq_false (by omega)
    clear hkey
    go_wp2_with fail
    go_loopw [38] (fun v wr => ∃ k : Nat, k ≤ len ∧ v = .int .i64 k ∧ ∃ P D s sd, Kd W wr g cb db P D k s sd) (fun v _ => len - (intOf v).toNat)
    case atStart => exact ⟨0, Nat.zero_le _, rfl, P0, D0, _, _, Kd.start HK3.out rfl HLO.out⟩
    case round =>
      obtain ⟨k, hk, rfl, P, D, s, sd, hst⟩ := hrel
      clear HK3
      by_cases hlt : k < len
      · have hbel := hst.ka.bel
        obtain ⟨b, off, rfl, c0, c1, c2, c3, c4, c5, c6, c7⟩ := acells_of H.out hbel hlt
        have hru := H.out.each k hlt
        have hok := HOK.out k hlt
        generalize l.getD k ac0 = x at *
        obtain ⟨kd, ⟨uk, ux, un, ut⟩, ⟨ro, rn, ra, rl, rc, rus⟩⟩ := x
        simp only at c0 c1 c2 c3 c4 c5 c6 c7 hru
        have hA := Joins.below_alloc1 wr (.cells #[.int .i64 kd, .string uk, .int .i64 ux, .int .i64 un, .string ut, .int .i64 ro, .int .i64 rn, .slice ra rl rc] 37)
        have hab : Ab (wr.alloc (.cells #[.int .i64 kd, .string uk, .int .i64 ux, .int .i64 un, .string ut, .int .i64 ro, .int .i64 rn, .slice ra rl rc] 37)) wr.heap.size kd uk ux un ut ro rn ra rl rc := heap_alloc_new wr _
        have HLOW : Hid (0 < rl → ∀ g off, ra = some ⟨g, off, none⟩ → g < W.heap.size) := Lib.hid fun h0 g off e => Rn.us_in hru h0 e
        have HRUW := Lib.hid hru
        have HOKA := Lib.hid hok
        have HSLA := Lib.hid (okA_sl hok)
        have HAB := Lib.hid hab
        have HK := Lib.hid (hst.next hA)
        have HFF := Lib.hid (kd_boxes hst wr.heap.size (Nat.le_refl _))
        have HKC : Hid (¬ D g ∧ s.Ok k ∧ sd.Ok k ∧ sd.uss = []) := Lib.hid ⟨hst.nd, hst.ok, hst.okd, hst.us⟩
        have HO := Lib.hid hst.ok
        have hlen := HO.out.len
        have hop := HO.out.s8
        have HSN : Hid (s.seen.length ≤ 1000 ∧ ∀ u ∈ s.seen, u.1.size ≤ 1000 ∧ Y.Sh u.2.2.2) := Lib.hid ⟨by have := HO.out.seen.1; omega, HO.out.seen.2⟩
        obtain ⟨⟨v1, v2, v3⟩, HEQ⟩ : ∃ r, Hid (Y.stF s.seen (Y.ky key) = r) := ⟨_, Lib.hid rfl⟩
        clear hbel hru hok hA hab hst
        go_upto_region 7 with fail
        clear c0 c1 c2 c3 c4 c5 c6 c7
        generalize wr.heap.size = ga at *
        generalize wr.alloc (.cells #[.int .i64 kd, .string uk, .int .i64 ux, .int .i64 un, .string ut, .int .i64 ro, .int .i64 rn, .slice ra rl rc] 37) = wA at *
        go_cut [10, 11, 12] from 42 to 155 (fun v10 v11 v12 wx => ∃ go gp xp gv, v10 = .slice (some ⟨go, 0, none⟩) s.op.length s.op.length ∧ v11 = .slice (some ⟨gp, 0, none⟩) (s.uss.length - s.k) (s.uss.length - s.k) ∧ v12 = .pointer (some ⟨gv, 0, none⟩) ∧ Of s.o s.k (s.uss.drop s.k) xp ∧ Kp W wx g cb db P D s sd ga kd uk ux un ut ro rn ra rl rc go s.op gp xp gv (v1, v2, v3))
        case first =>
          have KA8 := Lib.hid (HK.out.ka.next (Below.refl _ _).drew)
          have HAB8 := Lib.hid (HAB.out.next (Below.refl _ _).drew)
          refine wp_region_held_drew (S := fun w' => w'.cell? ⟨g, 0, none⟩ = some (.pointer (some ⟨cb, 0, none⟩)) ∧ w'.cell? ⟨g, 1, none⟩ = some (.pointer (some ⟨db, 0, none⟩))) (by kernel_rfl) ?_ (fun hs8 => ?_)
          · exact ⟨KA8.out.kb.c0, KA8.out.kb.c1⟩
          generalize wA.drew = w8 at *
          refine tkH 0 ?_ ?_ ?_
          rotate_left
          · intro w h; try dsimp only at h
            obtain ⟨q0, q1⟩ := h; go_simp; all_goals with_reducible rfl
          try simp only [pt]
          refine tkH 1 ?_ ?_ ?_
          rotate_left
          · intro w h; try dsimp only at h
            obtain ⟨q0, q1⟩ := h; go_simp; all_goals with_reducible rfl
          try simp only [pt]
          refine tkH 3 ?_ ?_ ?_
          rotate_left
          · intro w h; try dsimp only at h
            obtain ⟨q0, q1⟩ := h; go_simp; all_goals with_reducible rfl
          try simp only [pt]
          refine tkH 4 ?_ ?_ ?_
          rotate_left
          · intro w h; try dsimp only at h
            obtain ⟨q0, q1⟩ := h; go_simp; all_goals with_reducible rfl
          try simp only [pt]
          refine tkH 6 ?_ ?_ ?_
          rotate_left
          · intro w h; try dsimp only at h
            obtain ⟨q0, q1⟩ := h; go_simp; all_goals with_reducible rfl
          try simp only [pt]
          refine tkH 7 ?_ ?_ ?_
          rotate_left
          · intro w h; try dsimp only at h
            obtain ⟨q0, q1⟩ := h; go_simp; all_goals with_reducible rfl
          try simp only [pt]
          refine tkH 8 ?_ ?_ ?_
          rotate_left
          · intro w h; try dsimp only at h
            obtain ⟨q0, q1⟩ := h; go_simp; all_goals with_reducible rfl
          try simp only [pt]
          refine wpAnyH_ready (rs := [2, 10]) (by kernel_rfl) (by simp) ?_
          refine rdH (fun K hK => ?_) ?_
          · go_simp
            refine (copen_any (s := s) HO.out.so.sm w8 KA8.out.pk).mono ?_
            rintro e w9 ⟨rfl, hrw, hb⟩
            have HAB9 := Lib.hid (HAB8.out.next hb)
            have KA9 := Lib.hid (KA8.out.next hb)
            have HOO9 := Lib.hid (Ho.new KA8.out.pk hrw (by omega))
            have hs9 : w9.cell? ⟨g, 0, none⟩ = some (.pointer (some ⟨cb, 0, none⟩)) ∧ w9.cell? ⟨g, 1, none⟩ = some (.pointer (some ⟨db, 0, none⟩)) := ⟨KA9.out.kb.c0, KA9.out.kb.c1⟩
            clear hb hrw
            generalize w8.heap.size + 2 = go at *
            go_wp2_with fail
            refine hK.out _ _ ?_ (fun hH => ?_)
            · exact hs9
            clear hK K
            try simp only [pt]
            refine wpAnyH_ready (rs := [5, 10]) (by kernel_rfl) (by simp) ?_
            refine rdH (fun K hK => ?_) ?_
            · go_simp
              refine (cpend_any (s := s) HO.out.k (by omega) w9 KA9.out.pk).mono ?_
              rintro e w10 ⟨gp, xp, rfl, hrz, hgp, how, hof, hb⟩
              have HMP := Lib.hid hof
              have HAB10 := Lib.hid (HAB9.out.next hb)
              have KA10 := Lib.hid (KA9.out.next hb)
              have HOO10 := Lib.hid (HOO9.out.next hb)
              have HXP10 := Lib.hid (Hx.new KA9.out.pk hrz hgp how)
              have hs10 : w10.cell? ⟨g, 0, none⟩ = some (.pointer (some ⟨cb, 0, none⟩)) ∧ w10.cell? ⟨g, 1, none⟩ = some (.pointer (some ⟨db, 0, none⟩)) := ⟨KA10.out.kb.c0, KA10.out.kb.c1⟩
              clear hb hrz hgp how hof
              go_wp2_with fail
              refine hK.out _ _ ?_ (fun hH => ?_)
              · exact hs10
              clear hK K
              try simp only [pt]
              refine wpAnyH_ready (rs := [9, 10]) (by kernel_rfl) (by simp) ?_
              refine rdH (fun K hK => ?_) ?_
              · go_simp
                refine (cread_any (s := s) key HO.out.k (by omega) HSN.out w10 KA10.out.pk).mono ?_
                rintro e w11 ⟨rfl, hb⟩
                rw [HEQ.out]
                simp only [Y.vv_eq]
                have HAB11 := Lib.hid (HAB10.out.next hb)
                have KA11 := Lib.hid (KA10.out.next hb)
                have HOO11 := Lib.hid (HOO10.out.next hb)
                have HXP11 := Lib.hid (HXP10.out.next hb)
                have hs11 : w11.cell? ⟨g, 0, none⟩ = some (.pointer (some ⟨cb, 0, none⟩)) ∧ w11.cell? ⟨g, 1, none⟩ = some (.pointer (some ⟨db, 0, none⟩)) := ⟨KA11.out.kb.c0, KA11.out.kb.c1⟩
                clear hb
                go_wp2_with fail
                refine hK.out _ _ ?_ (fun hH => ?_)
                · exact hs11
                clear hK K
                try simp only [pt]
                refine wpAnyH_ready (rs := [10]) (by kernel_rfl) (by simp) ?_
                refine rdH (fun K hK => ?_) ?_
                · go_simp
                  have HOO12 := Lib.hid (HOO11.out.fence (.cells #[.int .i64 0, .int .i64 0, .string ⟨#[]⟩] 49))
                  have HXP12 := Lib.hid (HXP11.out.fence (.cells #[.int .i64 0, .int .i64 0, .string ⟨#[]⟩] 49))
                  have HZ12 := Lib.hid (Kz.make KA11.out)
                  have HAB12 := Lib.hid (HAB11.out.next (Joins.below_alloc1 w11 (.cells #[.int .i64 0, .int .i64 0, .string ⟨#[]⟩] 49)))
                  have hs12 : (w11.alloc (.cells #[.int .i64 0, .int .i64 0, .string ⟨#[]⟩] 49)).cell? ⟨g, 0, none⟩ = some (.pointer (some ⟨cb, 0, none⟩)) ∧ (w11.alloc (.cells #[.int .i64 0, .int .i64 0, .string ⟨#[]⟩] 49)).cell? ⟨g, 1, none⟩ = some (.pointer (some ⟨db, 0, none⟩)) := ⟨HZ12.out.ka.kb.c0, HZ12.out.ka.kb.c1⟩
                  refine hK.out _ _ ?_ (fun hH => ?_)
                  · exact hs12
                  clear hK K
                  try simp only [pt]
                  generalize w11.heap.size = gv at *
                  generalize w11.alloc (.cells #[.int .i64 0, .int .i64 0, .string ⟨#[]⟩] 49) = w12 at *
                  refine tkH 11 ?_ ?_ ?_
                  rotate_left
                  · intro w h; try dsimp only at h
                    obtain ⟨q0, q1⟩ := h; go_simp; all_goals with_reducible rfl
                  try simp only [pt]
                  refine tkH 12 ?_ ?_ ?_
                  rotate_left
                  · intro w h; try dsimp only at h
                    obtain ⟨q0, q1⟩ := h; go_simp; all_goals with_reducible rfl
                  try simp only [pt]
                  refine wpAnyH_ready (rs := [13]) (by kernel_rfl) (by simp) ?_
                  refine rdH (fun K hK => ?_) ?_
                  · obtain ⟨z0, z1, z2⟩ := Y.Vb.c HZ12.out.vb
                    have p0 := Y.unfrozen_at HZ12.out.vb 0
                    have p1 := Y.unfrozen_at HZ12.out.vb 1
                    have p2 := Y.unfrozen_at HZ12.out.vb 2
                    have HMAKE := Lib.hid (kp_make HZ12.out HAB12.out HFF.out.1 HOO12.out HXP12.out v1 v2 v3)
                    have hs13 : (((w12.setCell ⟨gv, 0, none⟩ (.int .i64 v1)).setCell ⟨gv, 1, none⟩ (.int .i64 v2)).setCell ⟨gv, 2, none⟩ (.string v3)).cell? ⟨g, 0, none⟩ = some (.pointer (some ⟨cb, 0, none⟩)) ∧ (((w12.setCell ⟨gv, 0, none⟩ (.int .i64 v1)).setCell ⟨gv, 1, none⟩ (.int .i64 v2)).setCell ⟨gv, 2, none⟩ (.string v3)).cell? ⟨g, 1, none⟩ = some (.pointer (some ⟨db, 0, none⟩)) := ⟨HMAKE.out.ka.kb.c0, HMAKE.out.ka.kb.c1⟩
                    go_simp
                    refine hK.out _ _ ?_ (fun hH => ?_)
                    · exact hs13
                    clear hK K
                    try simp only [pt]
                    refine wpAnyH_done (by kernel_rfl) ?_ _
                    clear hs13 z0 z1 z2 p0 p1 p2
                    go_wp2_with fail
                    go_meet
                    case rel => exact ⟨go, gp, xp, gv, rfl, rfl, rfl, HMP.out, HMAKE.out⟩
                  exact AllReadyH.nil
                exact AllReadyH.nil
              refine rdH (fun K hK => ?_) ?_
              · go_simp
                have HOO11 := Lib.hid (HOO10.out.fence (.cells #[.int .i64 0, .int .i64 0, .string ⟨#[]⟩] 49))
                have HXP11 := Lib.hid (HXP10.out.fence (.cells #[.int .i64 0, .int .i64 0, .string ⟨#[]⟩] 49))
                have HZ11 := Lib.hid (Kz.make KA10.out)
                have HAB11 := Lib.hid (HAB10.out.next (Joins.below_alloc1 w10 (.cells #[.int .i64 0, .int .i64 0, .string ⟨#[]⟩] 49)))
                have hs11 : (w10.alloc (.cells #[.int .i64 0, .int .i64 0, .string ⟨#[]⟩] 49)).cell? ⟨g, 0, none⟩ = some (.pointer (some ⟨cb, 0, none⟩)) ∧ (w10.alloc (.cells #[.int .i64 0, .int .i64 0, .string ⟨#[]⟩] 49)).cell? ⟨g, 1, none⟩ = some (.pointer (some ⟨db, 0, none⟩)) := ⟨HZ11.out.ka.kb.c0, HZ11.out.ka.kb.c1⟩
                refine hK.out _ _ ?_ (fun hH => ?_)
                · exact hs11
                clear hK K
                try simp only [pt]
                generalize w10.heap.size = gv at *
                generalize w10.alloc (.cells #[.int .i64 0, .int .i64 0, .string ⟨#[]⟩] 49) = w11 at *
                refine wpAnyH_ready (rs := [9]) (by kernel_rfl) (by simp) ?_
                refine rdH (fun K hK => ?_) ?_
                · go_simp
                  refine (cread_any (s := s) key HO.out.k (by omega) HSN.out w11 HZ11.out.ka.pk).mono ?_
                  rintro e w12 ⟨rfl, hb⟩
                  rw [HEQ.out]
                  simp only [Y.vv_eq]
                  have HAB12 := Lib.hid (HAB11.out.next hb)
                  have HZ12 := Lib.hid (HZ11.out.next hb)
                  have HOO12 := Lib.hid (HOO11.out.next hb)
                  have HXP12 := Lib.hid (HXP11.out.next hb)
                  have hs12 : w12.cell? ⟨g, 0, none⟩ = some (.pointer (some ⟨cb, 0, none⟩)) ∧ w12.cell? ⟨g, 1, none⟩ = some (.pointer (some ⟨db, 0, none⟩)) := ⟨HZ12.out.ka.kb.c0, HZ12.out.ka.kb.c1⟩
                  clear hb
                  go_wp2_with fail
                  refine hK.out _ _ ?_ (fun hH => ?_)
                  · exact hs12
                  clear hK K
                  try simp only [pt]
                  refine tkH 11 ?_ ?_ ?_
                  rotate_left
                  · intro w h; try dsimp only at h
                    obtain ⟨q0, q1⟩ := h; go_simp; all_goals with_reducible rfl
                  try simp only [pt]
                  refine tkH 12 ?_ ?_ ?_
                  rotate_left
                  · intro w h; try dsimp only at h
                    obtain ⟨q0, q1⟩ := h; go_simp; all_goals with_reducible rfl
                  try simp only [pt]
                  refine wpAnyH_ready (rs := [13]) (by kernel_rfl) (by simp) ?_
                  refine rdH (fun K hK => ?_) ?_
                  · obtain ⟨z0, z1, z2⟩ := Y.Vb.c HZ12.out.vb
                    have p0 := Y.unfrozen_at HZ12.out.vb 0
                    have p1 := Y.unfrozen_at HZ12.out.vb 1
                    have p2 := Y.unfrozen_at HZ12.out.vb 2
                    have HMAKE := Lib.hid (kp_make HZ12.out HAB12.out HFF.out.1 HOO12.out HXP12.out v1 v2 v3)
                    have hs13 : (((w12.setCell ⟨gv, 0, none⟩ (.int .i64 v1)).setCell ⟨gv, 1, none⟩ (.int .i64 v2)).setCell ⟨gv, 2, none⟩ (.string v3)).cell? ⟨g, 0, none⟩ = some (.pointer (some ⟨cb, 0, none⟩)) ∧ (((w12.setCell ⟨gv, 0, none⟩ (.int .i64 v1)).setCell ⟨gv, 1, none⟩ (.int .i64 v2)).setCell ⟨gv, 2, none⟩ (.string v3)).cell? ⟨g, 1, none⟩ = some (.pointer (some ⟨db, 0, none⟩)) := ⟨HMAKE.out.ka.kb.c0, HMAKE.out.ka.kb.c1⟩
                    go_simp
                    refine hK.out _ _ ?_ (fun hH => ?_)
                    · exact hs13
                    clear hK K
                    try simp only [pt]
                    refine wpAnyH_done (by kernel_rfl) ?_ _
                    clear hs13 z0 z1 z2 p0 p1 p2
                    go_wp2_with fail
                    go_meet
                    case rel => exact ⟨go, gp, xp, gv, rfl, rfl, rfl, HMP.out, HMAKE.out⟩
                  exact AllReadyH.nil
                exact AllReadyH.nil
              exact AllReadyH.nil
            refine rdH (fun K hK => ?_) ?_
            · go_simp
              have HOO10 := Lib.hid (HOO9.out.fence (.cells #[.int .i64 0, .int .i64 0, .string ⟨#[]⟩] 49))
              have HZ10 := Lib.hid (Kz.make KA9.out)
              have HAB10 := Lib.hid (HAB9.out.next (Joins.below_alloc1 w9 (.cells #[.int .i64 0, .int .i64 0, .string ⟨#[]⟩] 49)))
              have hs10 : (w9.alloc (.cells #[.int .i64 0, .int .i64 0, .string ⟨#[]⟩] 49)).cell? ⟨g, 0, none⟩ = some (.pointer (some ⟨cb, 0, none⟩)) ∧ (w9.alloc (.cells #[.int .i64 0, .int .i64 0, .string ⟨#[]⟩] 49)).cell? ⟨g, 1, none⟩ = some (.pointer (some ⟨db, 0, none⟩)) := ⟨HZ10.out.ka.kb.c0, HZ10.out.ka.kb.c1⟩
              refine hK.out _ _ ?_ (fun hH => ?_)
              · exact hs10
              clear hK K
              try simp only [pt]
              generalize w9.heap.size = gv at *
              generalize w9.alloc (.cells #[.int .i64 0, .int .i64 0, .string ⟨#[]⟩] 49) = w10 at *
              refine wpAnyH_ready (rs := [5]) (by kernel_rfl) (by simp) ?_
              refine rdH (fun K hK => ?_) ?_
              · go_simp
                refine (cpend_any (s := s) HO.out.k (by omega) w10 HZ10.out.ka.pk).mono ?_
                rintro e w11 ⟨gp, xp, rfl, hrz, hgp, how, hof, hb⟩
                have HMP := Lib.hid hof
                have HAB11 := Lib.hid (HAB10.out.next hb)
                have HZ11 := Lib.hid (HZ10.out.next hb)
                have HOO11 := Lib.hid (HOO10.out.next hb)
                have HXP11 := Lib.hid (Hx.newF HZ10.out.ka.pk hrz hgp how HZ10.out.vb.lt)
                have hs11 : w11.cell? ⟨g, 0, none⟩ = some (.pointer (some ⟨cb, 0, none⟩)) ∧ w11.cell? ⟨g, 1, none⟩ = some (.pointer (some ⟨db, 0, none⟩)) := ⟨HZ11.out.ka.kb.c0, HZ11.out.ka.kb.c1⟩
                clear hb hrz hgp how hof
                go_wp2_with fail
                refine hK.out _ _ ?_ (fun hH => ?_)
                · exact hs11
                clear hK K
                try simp only [pt]
                refine wpAnyH_ready (rs := [9]) (by kernel_rfl) (by simp) ?_
                refine rdH (fun K hK => ?_) ?_
                · go_simp
                  refine (cread_any (s := s) key HO.out.k (by omega) HSN.out w11 HZ11.out.ka.pk).mono ?_
                  rintro e w12 ⟨rfl, hb⟩
                  rw [HEQ.out]
                  simp only [Y.vv_eq]
                  have HAB12 := Lib.hid (HAB11.out.next hb)
                  have HZ12 := Lib.hid (HZ11.out.next hb)
                  have HOO12 := Lib.hid (HOO11.out.next hb)
                  have HXP12 := Lib.hid (HXP11.out.next hb)
                  have hs12 : w12.cell? ⟨g, 0, none⟩ = some (.pointer (some ⟨cb, 0, none⟩)) ∧ w12.cell? ⟨g, 1, none⟩ = some (.pointer (some ⟨db, 0, none⟩)) := ⟨HZ12.out.ka.kb.c0, HZ12.out.ka.kb.c1⟩
                  clear hb
                  go_wp2_with fail
                  refine hK.out _ _ ?_ (fun hH => ?_)
                  · exact hs12
                  clear hK K
                  try simp only [pt]
                  refine tkH 11 ?_ ?_ ?_
                  rotate_left
                  · intro w h; try dsimp only at h
                    obtain ⟨q0, q1⟩ := h; go_simp; all_goals with_reducible rfl
                  try simp only [pt]
                  refine tkH 12 ?_ ?_ ?_
                  rotate_left
                  · intro w h; try dsimp only at h
                    obtain ⟨q0, q1⟩ := h; go_simp; all_goals with_reducible rfl
                  try simp only [pt]
                  refine wpAnyH_ready (rs := [13]) (by kernel_rfl) (by simp) ?_
                  refine rdH (fun K hK => ?_) ?_
                  · obtain ⟨z0, z1, z2⟩ := Y.Vb.c HZ12.out.vb
                    have p0 := Y.unfrozen_at HZ12.out.vb 0
                    have p1 := Y.unfrozen_at HZ12.out.vb 1
                    have p2 := Y.unfrozen_at HZ12.out.vb 2
                    have HMAKE := Lib.hid (kp_make HZ12.out HAB12.out HFF.out.1 HOO12.out HXP12.out v1 v2 v3)
                    have hs13 : (((w12.setCell ⟨gv, 0, none⟩ (.int .i64 v1)).setCell ⟨gv, 1, none⟩ (.int .i64 v2)).setCell ⟨gv, 2, none⟩ (.string v3)).cell? ⟨g, 0, none⟩ = some (.pointer (some ⟨cb, 0, none⟩)) ∧ (((w12.setCell ⟨gv, 0, none⟩ (.int .i64 v1)).setCell ⟨gv, 1, none⟩ (.int .i64 v2)).setCell ⟨gv, 2, none⟩ (.string v3)).cell? ⟨g, 1, none⟩ = some (.pointer (some ⟨db, 0, none⟩)) := ⟨HMAKE.out.ka.kb.c0, HMAKE.out.ka.kb.c1⟩
                    go_simp
                    refine hK.out _ _ ?_ (fun hH => ?_)
                    · exact hs13
                    clear hK K
                    try simp only [pt]
                    refine wpAnyH_done (by kernel_rfl) ?_ _
                    clear hs13 z0 z1 z2 p0 p1 p2
                    go_wp2_with fail
                    go_meet
                    case rel => exact ⟨go, gp, xp, gv, rfl, rfl, rfl, HMP.out, HMAKE.out⟩
                  exact AllReadyH.nil
                exact AllReadyH.nil
              exact AllReadyH.nil
            exact AllReadyH.nil
          refine rdH (fun K hK => ?_) ?_
          · go_simp
            have HZ9 := Lib.hid (Kz.make KA8.out)
            have HAB9 := Lib.hid (HAB8.out.next (Joins.below_alloc1 w8 (.cells #[.int .i64 0, .int .i64 0, .string ⟨#[]⟩] 49)))
            have hs9 : (w8.alloc (.cells #[.int .i64 0, .int .i64 0, .string ⟨#[]⟩] 49)).cell? ⟨g, 0, none⟩ = some (.pointer (some ⟨cb, 0, none⟩)) ∧ (w8.alloc (.cells #[.int .i64 0, .int .i64 0, .string ⟨#[]⟩] 49)).cell? ⟨g, 1, none⟩ = some (.pointer (some ⟨db, 0, none⟩)) := ⟨HZ9.out.ka.kb.c0, HZ9.out.ka.kb.c1⟩
            refine hK.out _ _ ?_ (fun hH => ?_)
            · exact hs9
            clear hK K
            try simp only [pt]
            generalize w8.heap.size = gv at *
            generalize w8.alloc (.cells #[.int .i64 0, .int .i64 0, .string ⟨#[]⟩] 49) = w9 at *
            refine wpAnyH_ready (rs := [2]) (by kernel_rfl) (by simp) ?_
            refine rdH (fun K hK => ?_) ?_
            · go_simp
              refine (copen_any (s := s) HO.out.so.sm w9 HZ9.out.ka.pk).mono ?_
              rintro e w10 ⟨rfl, hrw, hb⟩
              have HAB10 := Lib.hid (HAB9.out.next hb)
              have HZ10 := Lib.hid (HZ9.out.next hb)
              have HOO10 := Lib.hid (Ho.newF HZ9.out.ka.pk hrw (by omega) HZ9.out.vb.lt)
              have hs10 : w10.cell? ⟨g, 0, none⟩ = some (.pointer (some ⟨cb, 0, none⟩)) ∧ w10.cell? ⟨g, 1, none⟩ = some (.pointer (some ⟨db, 0, none⟩)) := ⟨HZ10.out.ka.kb.c0, HZ10.out.ka.kb.c1⟩
              clear hb hrw
              generalize w9.heap.size + 2 = go at *
              go_wp2_with fail
              refine hK.out _ _ ?_ (fun hH => ?_)
              · exact hs10
              clear hK K
              try simp only [pt]
              refine wpAnyH_ready (rs := [5]) (by kernel_rfl) (by simp) ?_
              refine rdH (fun K hK => ?_) ?_
              · go_simp
                refine (cpend_any (s := s) HO.out.k (by omega) w10 HZ10.out.ka.pk).mono ?_
                rintro e w11 ⟨gp, xp, rfl, hrz, hgp, how, hof, hb⟩
                have HMP := Lib.hid hof
                have HAB11 := Lib.hid (HAB10.out.next hb)
                have HZ11 := Lib.hid (HZ10.out.next hb)
                have HOO11 := Lib.hid (HOO10.out.next hb)
                have HXP11 := Lib.hid (Hx.newF HZ10.out.ka.pk hrz hgp how HZ10.out.vb.lt)
                have hs11 : w11.cell? ⟨g, 0, none⟩ = some (.pointer (some ⟨cb, 0, none⟩)) ∧ w11.cell? ⟨g, 1, none⟩ = some (.pointer (some ⟨db, 0, none⟩)) := ⟨HZ11.out.ka.kb.c0, HZ11.out.ka.kb.c1⟩
                clear hb hrz hgp how hof
                go_wp2_with fail
                refine hK.out _ _ ?_ (fun hH => ?_)
                · exact hs11
                clear hK K
                try simp only [pt]
                refine wpAnyH_ready (rs := [9]) (by kernel_rfl) (by simp) ?_
                refine rdH (fun K hK => ?_) ?_
                · go_simp
                  refine (cread_any (s := s) key HO.out.k (by omega) HSN.out w11 HZ11.out.ka.pk).mono ?_
                  rintro e w12 ⟨rfl, hb⟩
                  rw [HEQ.out]
                  simp only [Y.vv_eq]
                  have HAB12 := Lib.hid (HAB11.out.next hb)
                  have HZ12 := Lib.hid (HZ11.out.next hb)
                  have HOO12 := Lib.hid (HOO11.out.next hb)
                  have HXP12 := Lib.hid (HXP11.out.next hb)
                  have hs12 : w12.cell? ⟨g, 0, none⟩ = some (.pointer (some ⟨cb, 0, none⟩)) ∧ w12.cell? ⟨g, 1, none⟩ = some (.pointer (some ⟨db, 0, none⟩)) := ⟨HZ12.out.ka.kb.c0, HZ12.out.ka.kb.c1⟩
                  clear hb
                  go_wp2_with fail
                  refine hK.out _ _ ?_ (fun hH => ?_)
                  · exact hs12
                  clear hK K
                  try simp only [pt]
                  refine tkH 11 ?_ ?_ ?_
                  rotate_left
                  · intro w h; try dsimp only at h
                    obtain ⟨q0, q1⟩ := h; go_simp; all_goals with_reducible rfl
                  try simp only [pt]
                  refine tkH 12 ?_ ?_ ?_
                  rotate_left
                  · intro w h; try dsimp only at h
                    obtain ⟨q0, q1⟩ := h; go_simp; all_goals with_reducible rfl
                  try simp only [pt]
                  refine wpAnyH_ready (rs := [13]) (by kernel_rfl) (by simp) ?_
                  refine rdH (fun K hK => ?_) ?_
                  · obtain ⟨z0, z1, z2⟩ := Y.Vb.c HZ12.out.vb
                    have p0 := Y.unfrozen_at HZ12.out.vb 0
                    have p1 := Y.unfrozen_at HZ12.out.vb 1
                    have p2 := Y.unfrozen_at HZ12.out.vb 2
                    have HMAKE := Lib.hid (kp_make HZ12.out HAB12.out HFF.out.1 HOO12.out HXP12.out v1 v2 v3)
                    have hs13 : (((w12.setCell ⟨gv, 0, none⟩ (.int .i64 v1)).setCell ⟨gv, 1, none⟩ (.int .i64 v2)).setCell ⟨gv, 2, none⟩ (.string v3)).cell? ⟨g, 0, none⟩ = some (.pointer (some ⟨cb, 0, none⟩)) ∧ (((w12.setCell ⟨gv, 0, none⟩ (.int .i64 v1)).setCell ⟨gv, 1, none⟩ (.int .i64 v2)).setCell ⟨gv, 2, none⟩ (.string v3)).cell? ⟨g, 1, none⟩ = some (.pointer (some ⟨db, 0, none⟩)) := ⟨HMAKE.out.ka.kb.c0, HMAKE.out.ka.kb.c1⟩
                    go_simp
                    refine hK.out _ _ ?_ (fun hH => ?_)
                    · exact hs13
                    clear hK K
                    try simp only [pt]
                    refine wpAnyH_done (by kernel_rfl) ?_ _
                    clear hs13 z0 z1 z2 p0 p1 p2
                    go_wp2_with fail
                    go_meet
                    case rel => exact ⟨go, gp, xp, gv, rfl, rfl, rfl, HMP.out, HMAKE.out⟩
                  exact AllReadyH.nil
                exact AllReadyH.nil
              exact AllReadyH.nil
            exact AllReadyH.nil
          exact AllReadyH.nil
        case rest =>
          obtain ⟨go, gp, xp, gv, rfl, rfl, rfl, hmp, hkp⟩ := hcut
          have HKP := Lib.hid hkp
          have a0 := HKP.out.ab.c0
          obtain ⟨a1, a2, a3, a4⟩ := HKP.out.ab.up
          obtain ⟨a5, a6, a7⟩ := HKP.out.ab.rd
          have k0 := HKP.out.ka.kb.c0
          have k1 := HKP.out.ka.kb.c1
          have hkk := HO.out.k
          clear hkp hmp HAB HK HFF
          by_cases hk1 : kd = 1
          · have e1 : ((kd : Int) == 1) = true := beq_iff_eq.2 hk1
            clear hk1
            go_wp2_with fail
            refine (cupd_any (uk, ux, un, ut) HO.out.s8 HO.out.so.sm (sl_add HO.out HSLA.out.2).sm wc (HD.out.below HKP.out.ka.bel) HKP.out.ka.pk).mono ?_
            rintro e w11 ⟨rfl, P1, hp⟩
            have HOU := Lib.hid (HO.out.upd (u := (uk, ux, un, ut)) HSLA.out.2)
            obtain ⟨ue, hue⟩ : ∃ ue, s.updE (uk, ux, un, ut) = ue := ⟨_, rfl⟩
            rw [hue]
            have HKP1 := Lib.hid ((HKP.out.step hp).next (Below.refl _ _).drew)
            clear hp a0 a1 a2 a3 a4 a5 a6 a7 k0 k1 HKP
            by_cases h0 : ue = 0
            · subst h0
              clear hue
              go_upto_region 12 with fail
              refine wp_region_held_drew (S := fun w' => (w'.cell? ⟨g, 0, none⟩ = some (.pointer (some ⟨cb, 0, none⟩)) ∧ w'.cell? ⟨g, 1, none⟩ = some (.pointer (some ⟨db, 0, none⟩))) ∧ w'.cell? ⟨gv, 0, none⟩ = some (.int .i64 v1) ∧ w'.cell? ⟨gv, 1, none⟩ = some (.int .i64 v2) ∧ w'.cell? ⟨gv, 2, none⟩ = some (.string v3)) (by kernel_rfl) ?_ (fun hs12 => ?_)
              · exact ⟨⟨HKP1.out.ka.kb.c0, HKP1.out.ka.kb.c1⟩, Y.Vb.c HKP1.out.va.vb⟩
              generalize w11.drew = w12 at *
              refine tkH 0 ?_ ?_ ?_
              rotate_left
              · intro w h; try dsimp only at h
                obtain ⟨⟨q0, q1⟩, v0, v1', v2'⟩ := h; go_simp; all_goals with_reducible rfl
              try simp only [pt]
              refine tkH 1 ?_ ?_ ?_
              rotate_left
              · intro w h; try dsimp only at h
                obtain ⟨⟨q0, q1⟩, v0, v1', v2'⟩ := h; go_simp; all_goals with_reducible rfl
              try simp only [pt]
              refine tkH 2 ?_ ?_ ?_
              rotate_left
              · intro w h; try dsimp only at h
                obtain ⟨⟨q0, q1⟩, v0, v1', v2'⟩ := h; go_simp; all_goals with_reducible rfl
              try simp only [pt]
              refine skH 3 ?_
              try simp only [pt]
              refine skH 4 ?_
              try simp only [pt]
              refine skH 5 ?_
              try simp only [pt]
              refine skH 6 ?_
              try simp only [pt]
              refine skH 7 ?_
              try simp only [pt]
              refine skH 8 ?_
              try simp only [pt]
              refine skH 9 ?_
              try simp only [pt]
              refine skH 10 ?_
              try simp only [pt]
              refine skH 11 ?_
              try simp only [pt]
              refine skH 12 ?_
              try simp only [pt]
              refine skH 13 ?_
              try simp only [pt]
              refine skH 14 ?_
              try simp only [pt]
              refine skH 15 ?_
              try simp only [pt]
              refine skH 16 ?_
              try simp only [pt]
              refine skH 17 ?_
              try simp only [pt]
              refine skH 18 ?_
              try simp only [pt]
              refine tkH 19 ?_ ?_ ?_
              rotate_left
              · intro w h; try dsimp only at h
                obtain ⟨⟨q0, q1⟩, v0, v1', v2'⟩ := h; go_simp; all_goals with_reducible rfl
              try simp only [pt]
              refine wpAnyH_done (by kernel_rfl) ?_ _
              clear hs12
              go_wp2
              go_roundw
              case rel => exact ⟨k + 1, by omega, by go_num, P1, D, _, sd, HKP1.out.ka, HKC.out.1, HOU.out, HKC.out.2.2.1.more, HKC.out.2.2.2⟩
              case measure => simp [intOf]; omega
            · have e9 : (ue == 0) = false := beq_false_of_ne h0
              have e9' : (ue != 0) = true := by simp [h0]
              have hs1 := upd_no (s := s) (u := (uk, ux, un, ut)) (by rw [hue]; exact h0)
              rw [hs1] at HKP1 HOU
              clear hue h0 hs1
              go_upto_region 12 with fail
              refine wp_region_held_drew (S := fun w' => (w'.cell? ⟨g, 0, none⟩ = some (.pointer (some ⟨cb, 0, none⟩)) ∧ w'.cell? ⟨g, 1, none⟩ = some (.pointer (some ⟨db, 0, none⟩))) ∧ w'.cell? ⟨gv, 0, none⟩ = some (.int .i64 v1) ∧ w'.cell? ⟨gv, 1, none⟩ = some (.int .i64 v2) ∧ w'.cell? ⟨gv, 2, none⟩ = some (.string v3)) (by kernel_rfl) ?_ (fun hs12 => ?_)
              · exact ⟨⟨HKP1.out.ka.kb.c0, HKP1.out.ka.kb.c1⟩, Y.Vb.c HKP1.out.va.vb⟩
              generalize w11.drew = w12 at *
              refine tkH 0 ?_ ?_ ?_
              rotate_left
              · intro w h; try dsimp only at h
                obtain ⟨⟨q0, q1⟩, v0, v1', v2'⟩ := h; go_simp; all_goals with_reducible rfl
              try simp only [pt]
              refine tkH 1 ?_ ?_ ?_
              rotate_left
              · intro w h; try dsimp only at h
                obtain ⟨⟨q0, q1⟩, v0, v1', v2'⟩ := h; go_simp; all_goals with_reducible rfl
              try simp only [pt]
              refine tkH 2 ?_ ?_ ?_
              rotate_left
              · intro w h; try dsimp only at h
                obtain ⟨⟨q0, q1⟩, v0, v1', v2'⟩ := h; go_simp; all_goals with_reducible rfl
              try simp only [pt]
              refine tkH 3 ?_ ?_ ?_
              rotate_left
              · intro w h; try dsimp only at h
                obtain ⟨⟨q0, q1⟩, v0, v1', v2'⟩ := h; go_simp; all_goals with_reducible rfl
              try simp only [pt]
              refine tkH 4 ?_ ?_ ?_
              rotate_left
              · intro w h; try dsimp only at h
                obtain ⟨⟨q0, q1⟩, v0, v1', v2'⟩ := h; go_simp; all_goals with_reducible rfl
              try simp only [pt]
              refine tkH 7 ?_ ?_ ?_
              rotate_left
              · intro w h; try dsimp only at h
                obtain ⟨⟨q0, q1⟩, v0, v1', v2'⟩ := h; go_simp; all_goals with_reducible rfl
              try simp only [pt]
              refine tkH 8 ?_ ?_ ?_
              rotate_left
              · intro w h; try dsimp only at h
                obtain ⟨⟨q0, q1⟩, v0, v1', v2'⟩ := h; go_simp; all_goals with_reducible rfl
              try simp only [pt]
              refine wpAnyH_ready (rs := [5]) (by kernel_rfl) (by simp) ?_
              refine rdH (fun K hK => ?_) ?_
              · go_simp
                refine (copen_any (s := s) HO.out.so.sm w12 HKP1.out.ka.pk).mono ?_
                rintro e w13 ⟨rfl, hrw, hb⟩
                have HIO := Lib.hid hrw.is
                have HKP2 := Lib.hid (HKP1.out.next hb)
                have hs13 : (w13.cell? ⟨g, 0, none⟩ = some (.pointer (some ⟨cb, 0, none⟩)) ∧ w13.cell? ⟨g, 1, none⟩ = some (.pointer (some ⟨db, 0, none⟩))) ∧ w13.cell? ⟨gv, 0, none⟩ = some (.int .i64 v1) ∧ w13.cell? ⟨gv, 1, none⟩ = some (.int .i64 v2) ∧ w13.cell? ⟨gv, 2, none⟩ = some (.string v3) := ⟨⟨HKP2.out.ka.kb.c0, HKP2.out.ka.kb.c1⟩, Y.Vb.c HKP2.out.va.vb⟩
                clear hb hrw
                generalize w12.heap.size + 2 = go2 at *
                go_wp2_with fail
                refine hK.out _ _ ?_ (fun hH => ?_)
                · exact hs13
                clear hK K
                try simp only [pt]
                refine tkH 6 ?_ ?_ ?_
                rotate_left
                · intro w h; try dsimp only at h
                  obtain ⟨⟨q0, q1⟩, v0, v1', v2'⟩ := h; go_simp; all_goals with_reducible rfl
                try simp only [pt]
                refine wpAnyH_ready (rs := [9]) (by kernel_rfl) (by simp) ?_
                refine rdH (fun K hK => ?_) ?_
                · go_simp
                  refine (ds_yes 0 0 (some ⟨go2, 0, none⟩) (some ⟨go, 0, none⟩) s.op.length s.op.length s.op.length s.op (by omega) w13 HIO.out HKP2.out.op.rw.is).mono ?_
                  rintro e w14 ⟨rfl, hb⟩
                  have HKP3 := Lib.hid (HKP2.out.next hb)
                  have hs14 : (w14.cell? ⟨g, 0, none⟩ = some (.pointer (some ⟨cb, 0, none⟩)) ∧ w14.cell? ⟨g, 1, none⟩ = some (.pointer (some ⟨db, 0, none⟩))) ∧ w14.cell? ⟨gv, 0, none⟩ = some (.int .i64 v1) ∧ w14.cell? ⟨gv, 1, none⟩ = some (.int .i64 v2) ∧ w14.cell? ⟨gv, 2, none⟩ = some (.string v3) := ⟨⟨HKP3.out.ka.kb.c0, HKP3.out.ka.kb.c1⟩, Y.Vb.c HKP3.out.va.vb⟩
                  clear hb
                  go_wp2_with fail
                  refine hK.out _ _ ?_ (fun hH => ?_)
                  · exact hs14
                  clear hK K
                  try simp only [pt]
                  refine tkH 10 ?_ ?_ ?_
                  rotate_left
                  · intro w h; try dsimp only at h
                    obtain ⟨⟨q0, q1⟩, v0, v1', v2'⟩ := h; go_simp; all_goals with_reducible rfl
                  try simp only [pt]
                  refine tkH 11 ?_ ?_ ?_
                  rotate_left
                  · intro w h; try dsimp only at h
                    obtain ⟨⟨q0, q1⟩, v0, v1', v2'⟩ := h; go_simp; all_goals with_reducible rfl
                  try simp only [pt]
                  refine tkH 12 ?_ ?_ ?_
                  rotate_left
                  · intro w h; try dsimp only at h
                    obtain ⟨⟨q0, q1⟩, v0, v1', v2'⟩ := h; go_simp; all_goals with_reducible rfl
                  try simp only [pt]
                  refine tkH 13 ?_ ?_ ?_
                  rotate_left
                  · intro w h; try dsimp only at h
                    obtain ⟨⟨q0, q1⟩, v0, v1', v2'⟩ := h; go_simp; all_goals with_reducible rfl
                  try simp only [pt]
                  refine tkH 14 ?_ ?_ ?_
                  rotate_left
                  · intro w h; try dsimp only at h
                    obtain ⟨⟨q0, q1⟩, v0, v1', v2'⟩ := h; go_simp; all_goals with_reducible rfl
                  try simp only [pt]
                  refine tkH 16 ?_ ?_ ?_
                  rotate_left
                  · intro w h; try dsimp only at h
                    obtain ⟨⟨q0, q1⟩, v0, v1', v2'⟩ := h; go_simp; all_goals with_reducible rfl
                  try simp only [pt]
                  refine wpAnyH_ready (rs := [15]) (by kernel_rfl) (by simp) ?_
                  refine rdH (fun K hK => ?_) ?_
                  · go_simp
                    refine (cread_any (s := s) key HO.out.k (by omega) HSN.out w14 HKP3.out.ka.pk).mono ?_
                    rintro e w15 ⟨rfl, hb⟩
                    rw [HEQ.out]
                    simp only [Y.vv_eq]
                    have HKP4 := Lib.hid (HKP3.out.next hb)
                    have hs15 : (w15.cell? ⟨g, 0, none⟩ = some (.pointer (some ⟨cb, 0, none⟩)) ∧ w15.cell? ⟨g, 1, none⟩ = some (.pointer (some ⟨db, 0, none⟩))) ∧ w15.cell? ⟨gv, 0, none⟩ = some (.int .i64 v1) ∧ w15.cell? ⟨gv, 1, none⟩ = some (.int .i64 v2) ∧ w15.cell? ⟨gv, 2, none⟩ = some (.string v3) := ⟨⟨HKP4.out.ka.kb.c0, HKP4.out.ka.kb.c1⟩, Y.Vb.c HKP4.out.va.vb⟩
                    clear hb
                    go_wp2_with fail
                    refine hK.out _ _ ?_ (fun hH => ?_)
                    · exact hs15
                    clear hK K
                    try simp only [pt]
                    refine tkH 17 ?_ ?_ ?_
                    rotate_left
                    · intro w h; try dsimp only at h
                      obtain ⟨⟨q0, q1⟩, v0, v1', v2'⟩ := h; go_simp; all_goals with_reducible rfl
                    try simp only [pt]
                    refine tkH 18 ?_ ?_ ?_
                    rotate_left
                    · intro w h; try dsimp only at h
                      obtain ⟨⟨q0, q1⟩, v0, v1', v2'⟩ := h; go_simp; all_goals with_reducible rfl
                    try simp only [pt]
                    refine tkH 19 ?_ ?_ ?_
                    rotate_left
                    · intro w h; try dsimp only at h
                      obtain ⟨⟨q0, q1⟩, v0, v1', v2'⟩ := h; go_simp; all_goals with_reducible rfl
                    try simp only [pt]
                    refine wpAnyH_done (by kernel_rfl) ?_ _
                    clear hs12 hs13 hs14 hs15
                    go_wp2
                    go_roundw
                    case rel => exact ⟨k + 1, by omega, by go_num, P1, D, _, sd, HKP4.out.ka, HKC.out.1, HOU.out, HKC.out.2.2.1.more, HKC.out.2.2.2⟩
                    case measure => simp [intOf]; omega
                  exact AllReadyH.nil
                exact AllReadyH.nil
              exact AllReadyH.nil
          by_cases hk2 : kd = 2
          · have e1 : ((kd : Int) == 1) = false := beq_false_of_ne hk1
            have e2 : ((kd : Int) == 2) = true := beq_iff_eq.2 hk2
            clear hk1 hk2
            go_wp2_with fail
            refine (cpush_any HO.out.k (by omega) HO.out.so.sm wc HKP.out.ka.pk).mono ?_
            rintro e w11 ⟨⟨po, pn, pa, pl, pc, pus⟩, P1, rfl, hp, hru1, hof1, hpr1⟩
            obtain ⟨s2, hs2⟩ : ∃ s2 : Cs, s2 = s.push := ⟨_, rfl⟩
            rw [← hs2] at hp
            have hA1 := Joins.below_alloc1 w11 (.cells #[.int .i64 po, .int .i64 pn, .slice pa pl pc] 35)
            have HKP12 := Lib.hid ((HKP.out.step hp).next hA1)
            have HRB12 := Lib.hid (Rb.new w11 po pn pa pl pc)
            have HRU12 := Lib.hid (hru1.below hA1)
            have HPR := Lib.hid hpr1
            have HO2 : Hid (s2.Ok (k + 1)) := Lib.hid (by rw [hs2]; exact HO.out.push)
            have HYES : Hid (s.pushE = 0 → s2.k = s.k ∧ s2.uss = s.uss ++ [s.op] ∧ s2.op = [] ∧ s2.o = s.o) := Lib.hid fun e => by rw [hs2]; unfold Cs.push; rw [if_pos e]; exact ⟨rfl, rfl, rfl, rfl⟩
            have HNOP : Hid (¬ s.pushE = 0 → s2 = s) := Lib.hid fun e => by rw [hs2]; exact push_no e
            have hsn : s2.seen = s.seen := by rw [hs2]; exact push_seen HO.out.k
            have HEQ2 : Hid (Y.stF s2.seen (Y.ky key) = (v1, v2, v3)) := Lib.hid (by rw [hsn]; exact HEQ.out)
            have HSN2 : Hid (s2.seen.length ≤ 1000 ∧ ∀ u ∈ s2.seen, u.1.size ≤ 1000 ∧ Y.Sh u.2.2.2) := Lib.hid (by rw [hsn]; exact HSN.out)
            have hlen2 := HO2.out.len
            have k0' := HKP12.out.ka.kb.c0
            simp only [rv]
            clear hp hru1 hof1 hpr1 hA1 hs2 hsn a0 a1 a2 a3 a4 a5 a6 a7 k0 k1 HKP
            go_wp2_with fail
            generalize w11.heap.size = rb at *
            generalize w11.alloc (.cells #[.int .i64 po, .int .i64 pn, .slice pa pl pc] 35) = w12 at *
            refine (cpend_any (s := s2) HO2.out.k (by omega) w12 HKP12.out.ka.pk).mono ?_
            rintro e w13 ⟨g3, x3, rfl, hrz, hg3, how, hof, hb⟩
            have hb := Below.drew hb
            have HX314 := Lib.hid ((Hx.new HKP12.out.ka.pk hrz hg3 how).next (Below.refl _ _).drew)
            have HM3 := Lib.hid hof
            have hl3 : x3.length = s2.uss.length - s2.k := by rw [hof.len, List.length_drop]
            have HL3 := Lib.hid hl3
            have HKP14 := Lib.hid (HKP12.out.next hb)
            have HRB14 := Lib.hid (HRB12.out.next hb)
            have HRU14 := Lib.hid (HRU12.out.below hb)
            clear hb hrz hg3 how hof hl3 k0' HKP12 HRB12 HRU12
            go_upto_region 17 with fail
            refine wp_region_held_drew (S := fun w' => (w'.cell? ⟨g, 0, none⟩ = some (.pointer (some ⟨cb, 0, none⟩)) ∧ w'.cell? ⟨g, 1, none⟩ = some (.pointer (some ⟨db, 0, none⟩))) ∧ w'.cell? ⟨gv, 0, none⟩ = some (.int .i64 v1) ∧ w'.cell? ⟨gv, 1, none⟩ = some (.int .i64 v2) ∧ w'.cell? ⟨gv, 2, none⟩ = some (.string v3)) (by kernel_rfl) ?_ (fun hs14 => ?_)
            · exact ⟨⟨HKP14.out.ka.kb.c0, HKP14.out.ka.kb.c1⟩, Y.Vb.c HKP14.out.va.vb⟩
            generalize w13.drew = w14 at *
            refine tkH 0 ?_ ?_ ?_
            rotate_left
            · intro w h; try dsimp only at h
              obtain ⟨⟨q0, q1⟩, v0, v1', v2'⟩ := h; go_simp; all_goals with_reducible rfl
            try simp only [pt]
            refine tkH 1 ?_ ?_ ?_
            rotate_left
            · intro w h; try dsimp only at h
              obtain ⟨⟨q0, q1⟩, v0, v1', v2'⟩ := h; go_simp; all_goals with_reducible rfl
            try simp only [pt]
            refine tkH 2 ?_ ?_ ?_
            rotate_left
            · intro w h; try dsimp only at h
              obtain ⟨⟨q0, q1⟩, v0, v1', v2'⟩ := h; go_simp; all_goals with_reducible rfl
            try simp only [pt]
            refine tkH 4 ?_ ?_ ?_
            rotate_left
            · intro w h; try dsimp only at h
              obtain ⟨⟨q0, q1⟩, v0, v1', v2'⟩ := h; go_simp; all_goals with_reducible rfl
            try simp only [pt]
            refine wpAnyH_ready (rs := [3]) (by kernel_rfl) (by simp) ?_
            refine rdH (fun K hK => ?_) ?_
            · go_simp
              refine (cread_any (s := s2) key HO2.out.k (by omega) HSN2.out w14 HKP14.out.ka.pk).mono ?_
              rintro e w15 ⟨rfl, hb⟩
              rw [HEQ2.out]
              simp only [Y.vv_eq]
              have HKP15 := Lib.hid (HKP14.out.next hb)
              have HRB15 := Lib.hid (HRB14.out.next hb)
              have HX315 := Lib.hid (HX314.out.next hb)
              have HRU15 := Lib.hid (HRU14.out.below hb)
              have hs15 : (w15.cell? ⟨g, 0, none⟩ = some (.pointer (some ⟨cb, 0, none⟩)) ∧ w15.cell? ⟨g, 1, none⟩ = some (.pointer (some ⟨db, 0, none⟩))) ∧ w15.cell? ⟨gv, 0, none⟩ = some (.int .i64 v1) ∧ w15.cell? ⟨gv, 1, none⟩ = some (.int .i64 v2) ∧ w15.cell? ⟨gv, 2, none⟩ = some (.string v3) := ⟨⟨HKP15.out.ka.kb.c0, HKP15.out.ka.kb.c1⟩, Y.Vb.c HKP15.out.va.vb⟩
              clear hb
              go_wp2_with fail
              refine hK.out _ _ ?_ (fun hH => ?_)
              · exact hs15
              clear hK K
              try simp only [pt]
              refine tkH 5 ?_ ?_ ?_
              rotate_left
              · intro w h; try dsimp only at h
                obtain ⟨⟨q0, q1⟩, v0, v1', v2'⟩ := h; go_simp; all_goals with_reducible rfl
              try simp only [pt]
              refine wpAnyH_done (by kernel_rfl) ?_ _
              clear hs14 hs15
              by_cases hp0 : s.pushE = 0
              · obtain ⟨hy1, hy2, hy3, hy4⟩ := HYES.out hp0
                have hpr := HPR.out
                have hus : pus = s.op := by have := hpr.us'; rw [if_pos hp0] at this; exact this
                have hpo : po = s.o := by have := hpr.o'; rw [if_pos hp0] at this; exact this
                have hpn : pn = ((s.uss.length + 1 : Nat) : Int) := by have := hpr.n'; rw [if_pos hp0] at this; exact this
                have hpl : s.op.length = pl := by rw [← hus]; exact HRU15.out.1.size
                obtain ⟨m, hm⟩ : ∃ m, s.uss.length - s.k = m := ⟨_, rfl⟩
                have hm2 : s2.uss.length - s2.k = m + 1 := by rw [hy1, hy2, List.length_append, List.length_singleton]; omega
                have hm3 : m < x3.length := by rw [HL3.out, hm2]; omega
                have hat := HM3.out.at' m (by rw [List.length_drop, hm2]; omega)
                have hat3 : (s2.uss.drop s2.k).getD m [] = s.op := by
                  rw [hy1, hy2, List.getD_eq_getElem?_getD, List.getElem?_drop, show s.k + m = s.uss.length by omega]
                  simp
                rw [hat3, hy1, hy4] at hat
                have hxn : (x3.getD m rn0).n = pn := by rw [hat.2.1, hpn, show s.k + m + 1 = s.uss.length + 1 by omega]
                have hxo : (x3.getD m rn0).o = po := by rw [hat.1, hpo]
                have hxu := hat.2.2
                have hxr := HX315.out.ru (rn_mem hm3)
                have hxl : (x3.getD m rn0).len = s.op.length := by rw [← hxu]; exact hxr.1.size.symm
                have HROW : Hid (∀ w', Rz w' g3 x3 → (w'.cell? ⟨g3, m * 3, none⟩ = some (.int .i64 po) ∧ w'.cell? ⟨g3, m * 3 + 1, none⟩ = some (.int .i64 pn) ∧ w'.cell? ⟨g3, m * 3 + 2, none⟩ = some (.slice (x3.getD m rn0).a s.op.length (x3.getD m rn0).cap))) := Lib.hid fun w' h => by
                  have := h.row m hm3
                  rw [hxo, hxn, hxl] at this
                  exact this
                have HXU : Hid (∀ w', Hx w' P1 g3 x3 → IsUs w' (x3.getD m rn0).a s.op.length s.op) := Lib.hid fun w' h => by
                  have := (h.ru (rn_mem hm3)).1
                  rw [hxl, hxu] at this
                  exact this
                generalize (x3.getD m rn0).a = ya at *
                generalize (x3.getD m rn0).cap = yc at *
                subst hpl
                subst hus
                rw [hm2, hm, hp0]
                have e3 : IntKind.i64.wrap ((m : Int) + 1) = ((m + 1 : Nat) : Int) := by
                  rw [show (m : Int) + 1 = ((m + 1 : Nat) : Int) by omega]
                  exact i64_id (by omega) (by omega)
                have hml : (m : Int) < (m : Int) + 1 := by omega
                have HOP : Hid (s2.op.length = 0) := Lib.hid (by rw [hy3]; rfl)
                have HKP16 := Lib.hid (HKP15.out.next (Below.refl _ _).drew)
                have HRB16 := Lib.hid (HRB15.out.next (Below.refl _ _).drew)
                have HX316 := Lib.hid (HX315.out.next (Below.refl _ _).drew)
                have HRU16 := Lib.hid (HRU15.out.below (Below.refl _ _).drew)
                clear hpr hpo hpn hm3 hat hat3 hxn hxo hxu hxr hxl hy1 hy2 hy3 hy4 hm2
                go_upto_region 19 with fail
                refine wp_region_held_drew (S := fun w' => (w'.cell? ⟨g, 0, none⟩ = some (.pointer (some ⟨cb, 0, none⟩)) ∧ w'.cell? ⟨g, 1, none⟩ = some (.pointer (some ⟨db, 0, none⟩))) ∧ (w'.cell? ⟨rb, 0, none⟩ = some (.int .i64 po) ∧ w'.cell? ⟨rb, 1, none⟩ = some (.int .i64 pn) ∧ w'.cell? ⟨rb, 2, none⟩ = some (.slice pa s.op.length pc)) ∧ (w'.cell? ⟨g3, m * 3, none⟩ = some (.int .i64 po) ∧ w'.cell? ⟨g3, m * 3 + 1, none⟩ = some (.int .i64 pn) ∧ w'.cell? ⟨g3, m * 3 + 2, none⟩ = some (.slice ya s.op.length yc))) (by kernel_rfl) ?_ (fun hs16 => ?_)
                · exact ⟨⟨HKP16.out.ka.kb.c0, HKP16.out.ka.kb.c1⟩, ⟨HRB16.out.c0, HRB16.out.c1, HRB16.out.c2⟩, HROW.out _ HX316.out.rz⟩
                generalize w15.drew = w16 at *
                refine tkH 0 ?_ ?_ ?_
                rotate_left
                · intro w h; try dsimp only at h
                  obtain ⟨⟨q0, q1⟩, ⟨b0, b1, b2⟩, c0, c1, c2⟩ := h; go_simp; all_goals with_reducible rfl
                try simp only [pt]
                refine tkH 1 ?_ ?_ ?_
                rotate_left
                · intro w h; try dsimp only at h
                  obtain ⟨⟨q0, q1⟩, ⟨b0, b1, b2⟩, c0, c1, c2⟩ := h; go_simp; all_goals with_reducible rfl
                try simp only [pt]
                refine tkH 2 ?_ ?_ ?_
                rotate_left
                · intro w h; try dsimp only at h
                  obtain ⟨⟨q0, q1⟩, ⟨b0, b1, b2⟩, c0, c1, c2⟩ := h; go_simp; all_goals with_reducible rfl
                try simp only [pt]
                refine tkH 3 ?_ ?_ ?_
                rotate_left
                · intro w h; try dsimp only at h
                  obtain ⟨⟨q0, q1⟩, ⟨b0, b1, b2⟩, c0, c1, c2⟩ := h; go_simp; all_goals with_reducible rfl
                try simp only [pt]
                refine tkH 4 ?_ ?_ ?_
                rotate_left
                · intro w h; try dsimp only at h
                  obtain ⟨⟨q0, q1⟩, ⟨b0, b1, b2⟩, c0, c1, c2⟩ := h; go_simp; all_goals with_reducible rfl
                try simp only [pt]
                refine tkH 5 ?_ ?_ ?_
                rotate_left
                · intro w h; try dsimp only at h
                  obtain ⟨⟨q0, q1⟩, ⟨b0, b1, b2⟩, c0, c1, c2⟩ := h; go_simp; all_goals with_reducible rfl
                try simp only [pt]
                refine tkH 6 ?_ ?_ ?_
                rotate_left
                · intro w h; try dsimp only at h
                  obtain ⟨⟨q0, q1⟩, ⟨b0, b1, b2⟩, c0, c1, c2⟩ := h; go_simp; all_goals with_reducible rfl
                try simp only [pt]
                refine tkH 7 ?_ ?_ ?_
                rotate_left
                · intro w h; try dsimp only at h
                  obtain ⟨⟨q0, q1⟩, ⟨b0, b1, b2⟩, c0, c1, c2⟩ := h; go_simp; all_goals with_reducible rfl
                try simp only [pt]
                refine wpAnyH_ready (rs := [8]) (by kernel_rfl) (by simp) ?_
                refine rdH (fun K hK => ?_) ?_
                · go_simp
                  refine (ds_yes 0 0 pa (some ⟨go, 0, none⟩) s.op.length pc s.op.length s.op (by omega) w16 HRU16.out.1 HKP16.out.op.rw.is).mono ?_
                  rintro e w17 ⟨rfl, hb⟩
                  have HKP17 := Lib.hid (HKP16.out.next hb)
                  have HRB17 := Lib.hid (HRB16.out.next hb)
                  have HX317 := Lib.hid (HX316.out.next hb)
                  have HRU17 := Lib.hid (HRU16.out.below hb)
                  have hs17 : (w17.cell? ⟨g, 0, none⟩ = some (.pointer (some ⟨cb, 0, none⟩)) ∧ w17.cell? ⟨g, 1, none⟩ = some (.pointer (some ⟨db, 0, none⟩))) ∧ (w17.cell? ⟨rb, 0, none⟩ = some (.int .i64 po) ∧ w17.cell? ⟨rb, 1, none⟩ = some (.int .i64 pn) ∧ w17.cell? ⟨rb, 2, none⟩ = some (.slice pa s.op.length pc)) ∧ (w17.cell? ⟨g3, m * 3, none⟩ = some (.int .i64 po) ∧ w17.cell? ⟨g3, m * 3 + 1, none⟩ = some (.int .i64 pn) ∧ w17.cell? ⟨g3, m * 3 + 2, none⟩ = some (.slice ya s.op.length yc)) := ⟨⟨HKP17.out.ka.kb.c0, HKP17.out.ka.kb.c1⟩, ⟨HRB17.out.c0, HRB17.out.c1, HRB17.out.c2⟩, HROW.out _ HX317.out.rz⟩
                  clear hb
                  go_wp2_with fail
                  refine hK.out _ _ ?_ (fun hH => ?_)
                  · exact hs17
                  clear hK K
                  try simp only [pt]
                  refine tkH 9 ?_ ?_ ?_
                  rotate_left
                  · intro w h; try dsimp only at h
                    obtain ⟨⟨q0, q1⟩, ⟨b0, b1, b2⟩, c0, c1, c2⟩ := h; go_simp; all_goals with_reducible rfl
                  try simp only [pt]
                  refine tkH 10 ?_ ?_ ?_
                  rotate_left
                  · intro w h; try dsimp only at h
                    obtain ⟨⟨q0, q1⟩, ⟨b0, b1, b2⟩, c0, c1, c2⟩ := h; go_simp; all_goals with_reducible rfl
                  try simp only [pt]
                  refine tkH 11 ?_ ?_ ?_
                  rotate_left
                  · intro w h; try dsimp only at h
                    obtain ⟨⟨q0, q1⟩, ⟨b0, b1, b2⟩, c0, c1, c2⟩ := h; go_simp; all_goals with_reducible rfl
                  try simp only [pt]
                  refine tkH 12 ?_ ?_ ?_
                  rotate_left
                  · intro w h; try dsimp only at h
                    obtain ⟨⟨q0, q1⟩, ⟨b0, b1, b2⟩, c0, c1, c2⟩ := h; go_simp; all_goals with_reducible rfl
                  try simp only [pt]
                  refine wpAnyH_ready (rs := [13]) (by kernel_rfl) (by simp) ?_
                  refine rdH (fun K hK => ?_) ?_
                  · go_simp
                    refine (copen_any (s := s2) HO2.out.so.sm w17 HKP17.out.ka.pk).mono ?_
                    rintro e w18 ⟨rfl, -, hb⟩
                    rw [HOP.out]
                    have HKP18 := Lib.hid (HKP17.out.next hb)
                    have HRB18 := Lib.hid (HRB17.out.next hb)
                    have HX318 := Lib.hid (HX317.out.next hb)
                    have HRU18 := Lib.hid (HRU17.out.below hb)
                    have hs18 : (w18.cell? ⟨g, 0, none⟩ = some (.pointer (some ⟨cb, 0, none⟩)) ∧ w18.cell? ⟨g, 1, none⟩ = some (.pointer (some ⟨db, 0, none⟩))) ∧ (w18.cell? ⟨rb, 0, none⟩ = some (.int .i64 po) ∧ w18.cell? ⟨rb, 1, none⟩ = some (.int .i64 pn) ∧ w18.cell? ⟨rb, 2, none⟩ = some (.slice pa s.op.length pc)) ∧ (w18.cell? ⟨g3, m * 3, none⟩ = some (.int .i64 po) ∧ w18.cell? ⟨g3, m * 3 + 1, none⟩ = some (.int .i64 pn) ∧ w18.cell? ⟨g3, m * 3 + 2, none⟩ = some (.slice ya s.op.length yc)) := ⟨⟨HKP18.out.ka.kb.c0, HKP18.out.ka.kb.c1⟩, ⟨HRB18.out.c0, HRB18.out.c1, HRB18.out.c2⟩, HROW.out _ HX318.out.rz⟩
                    clear hb
                    go_wp2_with fail
                    refine hK.out _ _ ?_ (fun hH => ?_)
                    · exact hs18
                    clear hK K
                    try simp only [pt]
                    refine tkH 14 ?_ ?_ ?_
                    rotate_left
                    · intro w h; try dsimp only at h
                      obtain ⟨⟨q0, q1⟩, ⟨b0, b1, b2⟩, c0, c1, c2⟩ := h; go_simp; all_goals with_reducible rfl
                    try simp only [pt]
                    refine tkH 15 ?_ ?_ ?_
                    rotate_left
                    · intro w h; try dsimp only at h
                      obtain ⟨⟨q0, q1⟩, ⟨b0, b1, b2⟩, c0, c1, c2⟩ := h; go_simp; all_goals with_reducible rfl
                    try simp only [pt]
                    refine tkH 16 ?_ ?_ ?_
                    rotate_left
                    · intro w h; try dsimp only at h
                      obtain ⟨⟨q0, q1⟩, ⟨b0, b1, b2⟩, c0, c1, c2⟩ := h; go_simp; all_goals with_reducible rfl
                    try simp only [pt]
                    refine tkH 17 ?_ ?_ ?_
                    rotate_left
                    · intro w h; try dsimp only at h
                      obtain ⟨⟨q0, q1⟩, ⟨b0, b1, b2⟩, c0, c1, c2⟩ := h; go_simp; all_goals with_reducible rfl
                    try simp only [pt]
                    refine tkH 18 ?_ ?_ ?_
                    rotate_left
                    · intro w h; try dsimp only at h
                      obtain ⟨⟨q0, q1⟩, ⟨b0, b1, b2⟩, c0, c1, c2⟩ := h; go_simp; all_goals with_reducible rfl
                    try simp only [pt]
                    refine tkH 19 ?_ ?_ ?_
                    rotate_left
                    · intro w h; try dsimp only at h
                      obtain ⟨⟨q0, q1⟩, ⟨b0, b1, b2⟩, c0, c1, c2⟩ := h; go_simp; all_goals with_reducible rfl
                    try simp only [pt]
                    refine tkH 20 ?_ ?_ ?_
                    rotate_left
                    · intro w h; try dsimp only at h
                      obtain ⟨⟨q0, q1⟩, ⟨b0, b1, b2⟩, c0, c1, c2⟩ := h; go_simp; all_goals with_reducible rfl
                    try simp only [pt]
                    refine tkH 21 ?_ ?_ ?_
                    rotate_left
                    · intro w h; try dsimp only at h
                      obtain ⟨⟨q0, q1⟩, ⟨b0, b1, b2⟩, c0, c1, c2⟩ := h; go_simp; all_goals with_reducible rfl
                    try simp only [pt]
                    refine tkH 22 ?_ ?_ ?_
                    rotate_left
                    · intro w h; try dsimp only at h
                      obtain ⟨⟨q0, q1⟩, ⟨b0, b1, b2⟩, c0, c1, c2⟩ := h; go_simp; all_goals with_reducible rfl
                    try simp only [pt]
                    refine tkH 23 ?_ ?_ ?_
                    rotate_left
                    · intro w h; try dsimp only at h
                      obtain ⟨⟨q0, q1⟩, ⟨b0, b1, b2⟩, c0, c1, c2⟩ := h; go_simp; all_goals with_reducible rfl
                    try simp only [pt]
                    refine tkH 24 ?_ ?_ ?_
                    rotate_left
                    · intro w h; try dsimp only at h
                      obtain ⟨⟨q0, q1⟩, ⟨b0, b1, b2⟩, c0, c1, c2⟩ := h; go_simp; all_goals with_reducible rfl
                    try simp only [pt]
                    refine tkH 25 ?_ ?_ ?_
                    rotate_left
                    · intro w h; try dsimp only at h
                      obtain ⟨⟨q0, q1⟩, ⟨b0, b1, b2⟩, c0, c1, c2⟩ := h; go_simp; all_goals with_reducible rfl
                    try simp only [pt]
                    refine tkH 26 ?_ ?_ ?_
                    rotate_left
                    · intro w h; try dsimp only at h
                      obtain ⟨⟨q0, q1⟩, ⟨b0, b1, b2⟩, c0, c1, c2⟩ := h; go_simp; all_goals with_reducible rfl
                    try simp only [pt]
                    refine tkH 27 ?_ ?_ ?_
                    rotate_left
                    · intro w h; try dsimp only at h
                      obtain ⟨⟨q0, q1⟩, ⟨b0, b1, b2⟩, c0, c1, c2⟩ := h; go_simp; all_goals with_reducible rfl
                    try simp only [pt]
                    refine tkH 28 ?_ ?_ ?_
                    rotate_left
                    · intro w h; try dsimp only at h
                      obtain ⟨⟨q0, q1⟩, ⟨b0, b1, b2⟩, c0, c1, c2⟩ := h; go_simp; all_goals with_reducible rfl
                    try simp only [pt]
                    refine tkH 29 ?_ ?_ ?_
                    rotate_left
                    · intro w h; try dsimp only at h
                      obtain ⟨⟨q0, q1⟩, ⟨b0, b1, b2⟩, c0, c1, c2⟩ := h; go_simp; all_goals with_reducible rfl
                    try simp only [pt]
                    refine tkH 30 ?_ ?_ ?_
                    rotate_left
                    · intro w h; try dsimp only at h
                      obtain ⟨⟨q0, q1⟩, ⟨b0, b1, b2⟩, c0, c1, c2⟩ := h; go_simp; all_goals with_reducible rfl
                    try simp only [pt]
                    refine tkH 31 ?_ ?_ ?_
                    rotate_left
                    · intro w h; try dsimp only at h
                      obtain ⟨⟨q0, q1⟩, ⟨b0, b1, b2⟩, c0, c1, c2⟩ := h; go_simp; all_goals with_reducible rfl
                    try simp only [pt]
                    refine wpAnyH_ready (rs := [32]) (by kernel_rfl) (by simp) ?_
                    refine rdH (fun K hK => ?_) ?_
                    · go_simp
                      refine (ds_yes po pn ya pa s.op.length yc pc s.op (by omega) w18 (HXU.out _ HX318.out) HRU18.out.1).mono ?_
                      rintro e w19 ⟨rfl, hb⟩
                      have HKP19 := Lib.hid (HKP18.out.next hb)
                      have HRB19 := Lib.hid (HRB18.out.next hb)
                      have HX319 := Lib.hid (HX318.out.next hb)
                      have HRU19 := Lib.hid (HRU18.out.below hb)
                      have hs19 : (w19.cell? ⟨g, 0, none⟩ = some (.pointer (some ⟨cb, 0, none⟩)) ∧ w19.cell? ⟨g, 1, none⟩ = some (.pointer (some ⟨db, 0, none⟩))) ∧ (w19.cell? ⟨rb, 0, none⟩ = some (.int .i64 po) ∧ w19.cell? ⟨rb, 1, none⟩ = some (.int .i64 pn) ∧ w19.cell? ⟨rb, 2, none⟩ = some (.slice pa s.op.length pc)) ∧ (w19.cell? ⟨g3, m * 3, none⟩ = some (.int .i64 po) ∧ w19.cell? ⟨g3, m * 3 + 1, none⟩ = some (.int .i64 pn) ∧ w19.cell? ⟨g3, m * 3 + 2, none⟩ = some (.slice ya s.op.length yc)) := ⟨⟨HKP19.out.ka.kb.c0, HKP19.out.ka.kb.c1⟩, ⟨HRB19.out.c0, HRB19.out.c1, HRB19.out.c2⟩, HROW.out _ HX319.out.rz⟩
                      clear hb
                      go_wp2_with fail
                      refine hK.out _ _ ?_ (fun hH => ?_)
                      · exact hs19
                      clear hK K
                      try simp only [pt]
                      refine tkH 33 ?_ ?_ ?_
                      rotate_left
                      · intro w h; try dsimp only at h
                        obtain ⟨⟨q0, q1⟩, ⟨b0, b1, b2⟩, c0, c1, c2⟩ := h; go_simp; all_goals with_reducible rfl
                      try simp only [pt]
                      refine tkH 34 ?_ ?_ ?_
                      rotate_left
                      · intro w h; try dsimp only at h
                        obtain ⟨⟨q0, q1⟩, ⟨b0, b1, b2⟩, c0, c1, c2⟩ := h; go_simp; all_goals with_reducible rfl
                      try simp only [pt]
                      refine tkH 35 ?_ ?_ ?_
                      rotate_left
                      · intro w h; try dsimp only at h
                        obtain ⟨⟨q0, q1⟩, ⟨b0, b1, b2⟩, c0, c1, c2⟩ := h; go_simp; all_goals with_reducible rfl
                      try simp only [pt]
                      refine wpAnyH_done (by kernel_rfl) ?_ _
                      clear hs16 hs17 hs18 hs19 e3 hml
                      go_wp2
                      go_roundw
                      case rel => exact ⟨k + 1, by omega, by go_num, P1, D, _, sd, HKP19.out.ka, HKC.out.1, HO2.out, HKC.out.2.2.1.more, HKC.out.2.2.2⟩
                      case measure => simp [intOf]; omega
                    exact AllReadyH.nil
                  exact AllReadyH.nil
                exact AllReadyH.nil
              · have hs2 := HNOP.out hp0
                subst hs2
                have e9 : (s2.pushE == 0) = false := beq_false_of_ne hp0
                have e9' : (s2.pushE != 0) = true := by simp [hp0]
                have HKP16 := Lib.hid (HKP15.out.next (Below.refl _ _).drew)
                go_upto_region 19 with fail
                refine wp_region_held_drew (S := fun w' => w'.cell? ⟨g, 0, none⟩ = some (.pointer (some ⟨cb, 0, none⟩)) ∧ w'.cell? ⟨g, 1, none⟩ = some (.pointer (some ⟨db, 0, none⟩))) (by kernel_rfl) ?_ (fun hs16 => ?_)
                · exact ⟨HKP16.out.ka.kb.c0, HKP16.out.ka.kb.c1⟩
                generalize w15.drew = w16 at *
                refine tkH 0 ?_ ?_ ?_
                rotate_left
                · intro w h; try dsimp only at h
                  obtain ⟨q0, q1⟩ := h; go_simp; all_goals with_reducible rfl
                try simp only [pt]
                refine tkH 1 ?_ ?_ ?_
                rotate_left
                · intro w h; try dsimp only at h
                  obtain ⟨q0, q1⟩ := h; go_simp; all_goals with_reducible rfl
                try simp only [pt]
                refine tkH 2 ?_ ?_ ?_
                rotate_left
                · intro w h; try dsimp only at h
                  obtain ⟨q0, q1⟩ := h; go_simp; all_goals with_reducible rfl
                try simp only [pt]
                refine skH 3 ?_
                try simp only [pt]
                refine skH 4 ?_
                try simp only [pt]
                refine skH 5 ?_
                try simp only [pt]
                refine skH 6 ?_
                try simp only [pt]
                refine skH 7 ?_
                try simp only [pt]
                refine skH 8 ?_
                try simp only [pt]
                refine skH 9 ?_
                try simp only [pt]
                refine skH 10 ?_
                try simp only [pt]
                refine skH 11 ?_
                try simp only [pt]
                refine skH 12 ?_
                try simp only [pt]
                refine skH 13 ?_
                try simp only [pt]
                refine skH 14 ?_
                try simp only [pt]
                refine skH 15 ?_
                try simp only [pt]
                refine skH 16 ?_
                try simp only [pt]
                refine skH 17 ?_
                try simp only [pt]
                refine skH 18 ?_
                try simp only [pt]
                refine skH 19 ?_
                try simp only [pt]
                refine skH 20 ?_
                try simp only [pt]
                refine skH 21 ?_
                try simp only [pt]
                refine skH 22 ?_
                try simp only [pt]
                refine skH 23 ?_
                try simp only [pt]
                refine skH 24 ?_
                try simp only [pt]
                refine skH 25 ?_
                try simp only [pt]
                refine skH 26 ?_
                try simp only [pt]
                refine skH 27 ?_
                try simp only [pt]
                refine skH 28 ?_
                try simp only [pt]
                refine skH 29 ?_
                try simp only [pt]
                refine skH 30 ?_
                try simp only [pt]
                refine skH 31 ?_
                try simp only [pt]
                refine skH 32 ?_
                try simp only [pt]
                refine skH 33 ?_
                try simp only [pt]
                refine skH 34 ?_
                try simp only [pt]
                refine tkH 35 ?_ ?_ ?_
                rotate_left
                · intro w h; try dsimp only at h
                  obtain ⟨q0, q1⟩ := h; go_simp; all_goals with_reducible rfl
                try simp only [pt]
                refine wpAnyH_done (by kernel_rfl) ?_ _
                clear hs16
                have k0 := HKP16.out.ka.kb.c0
                go_wp2_with fail
                refine (copen_any (s := s2) HO.out.so.sm w16 HKP16.out.ka.pk).mono ?_
                rintro e w17 ⟨rfl, -, hb⟩
                have HKP17 := Lib.hid (HKP16.out.next hb)
                clear hb k0
                go_wp2
                go_roundw
                case rel => exact ⟨k + 1, by omega, by go_num, P1, D, _, sd, HKP17.out.ka, HKC.out.1, HO.out.more, HKC.out.2.2.1.more, HKC.out.2.2.2⟩
                case measure => simp [intOf]; omega
            exact AllReadyH.nil
          have e1 : ((kd : Int) == 1) = false := beq_false_of_ne hk1
          have e2 : ((kd : Int) == 2) = false := beq_false_of_ne hk2
          have HK0 := Lib.hid hk1
          have HK2' := Lib.hid hk2
          have HKD : Hid (Kd W wc g cb db P D k s sd) := Lib.hid ⟨HKP.out.ka, HKC.out.1, HKC.out.2.1, HKC.out.2.2.1, HKC.out.2.2.2⟩
          clear hk1 hk2
          go_wp2_with fail
          refine (dw_any kd uk ux un ut ro rn ra rl rc rus HK0.out HK2'.out (by omega) wc HOKA.out (HRUW.out.below HKP.out.ka.bel) HLOW.out HKD.out).mono ?_
          rintro e w11 ⟨⟨bt, rfl⟩, P2, D2, s2, sd2, hkd⟩
          have HK11 := Lib.hid hkd
          clear hkd a0 a1 a2 a3 a4 a5 a6 a7 k0 k1 HKP HKD
          go_wp2
          go_roundw
          case rel => exact ⟨k + 1, by omega, by go_num, P2, D2, s2, sd2, HK11.out⟩
          case measure => simp [intOf]; omega
      · obtain rfl : k = len := by omega
        have H9 := Lib.hid hst
        clear hst
        go_wp2
        go_ret
        exact ⟨rfl, Below.next HB0.out H9.out.ka.bel⟩
end Go.Proofs.YtbbgibekplfacaaDoor
