/- The walk of ClientResumes. -/
import Derived.Test.YtbbgibekplfacaaDoorRH
import Derived.Test.YtbbgibekplfacaaDoorNH
namespace Go.Proofs.YtbbgibekplfacaaDoor
open Go Go.RowKit
set_option maxRecDepth 20000
theorem rep_fact {x0 : Int} {s : Cs} {n i : Nat} {xs : List Rn} (h : s.Wf x0) (ho : s.Ok n) (hm : xs.map kR = s.kn) (hi : i < s.kn.length) : (rep s i).takeE (kR (xs.getD i rn0)) = 0 ∧ (rep s i).take (kR (xs.getD i rn0)) = rep s (i + 1) ∧ Sm (xs.getD i rn0).us ∧ (rep s i).kn.length ≤ s.kn.length := by
  have hkr : s.kn.getD i kr0 = kR (xs.getD i rn0) := by rw [← map_getD, hm]
  have hrep := rep_take h ho hi
  have hmem : s.kn.getD i kr0 ∈ s.kn := by
    have e2 : s.kn.getD i kr0 = s.kn[i] := by simp [List.getD_eq_getElem?_getD, hi]
    rw [e2]; exact List.getElem_mem _
  have hs := (ho.sk _ hmem).sm
  rw [hkr] at hrep hs
  exact ⟨hrep.1, hrep.2, hs, by show (s.kn.take i).length ≤ s.kn.length; rw [List.length_take]; omega⟩
set_option maxHeartbeats 16000000 in
theorem walkResumes (x0 x1 x2 x3 : Int) (a : Option Addr) (len cap : Nat) (l : List Ac) (w : World) (hd : X.Wd w) (h : IsAs w a len l) :
    Calls Tryd.prog 7 #[.agg #[.int .i64 x0, .int .i64 x1, .int .i64 x2, .int .i64 x3], .slice a len cap] w fun e w' => e = .returned (.bool true) ∧ Below w.heap.size w w' := by
  have hA := Joins.below_alloc1 w (.cells #[.int .i64 x0, .int .i64 x1, .int .i64 x2, .int .i64 x3] 22)
  have hx : (w.alloc (.cells #[.int .i64 x0, .int .i64 x1, .int .i64 x2, .int .i64 x3] 22)).heap[w.heap.size]? = some (.cells #[.int .i64 x0, .int .i64 x1, .int .i64 x2, .int .i64 x3] 22 (0, 0)) := heap_alloc_new w _
  have b0 := cell_at hx 0 _ rfl
  have b1 := cell_at hx 1 _ rfl
  have b2 := cell_at hx 2 _ rfl
  have b3 := cell_at hx 3 _ rfl
  have HX := Lib.hid hx
  have HB0 := Lib.hid hA
  have HD := Lib.hid (hd.below hA)
  have H := Lib.hid (isAs_below h hA)
  clear hx hA hd h
  go_enter Tryd.func7, Tryd.ntmps7
  go_wp2_with fail
  clear b0 b1 b2 b3
  generalize w.heap.size = xb at HX ⊢
  generalize w.alloc (.cells #[.int .i64 x0, .int .i64 x1, .int .i64 x2, .int .i64 x3] 22) = W at *
  refine (made_any x0 x1 x2 x3 W).mono ?_
  rintro e w1 ⟨cb, db, rfl, P0, D0, hq⟩
  have hk := Kl.start hq
  have k0 := hk.kb.c0
  have HK1 := Lib.hid hk
  clear hk hq
  go_wp2_with fail
  clear k0
  generalize w1.heap.size = g at *
  generalize w1.alloc (.cells #[.pointer (some ⟨cb, 0, none⟩), .pointer (some ⟨db, 0, none⟩)] 27) = w2 at *
  refine (awake_any w2 (HD.out.below HK1.out.bel)).mono ?_
  rintro e w3 ⟨rfl, hb⟩
  have HK2 := Lib.hid (HK1.out.next hb)
  have k0 := HK2.out.kb.c0
  clear hb HK1
  go_wp2_with fail
  clear k0
  refine (great_any a len cap l w3 (isAs_below H.out HK2.out.bel)).mono ?_
  rintro e w4 ⟨⟨bt, rfl, hok⟩, hb⟩
  have HK3 := Lib.hid (HK2.out.next hb)
  clear hb HK2
  cases bt with
  | true =>
    clear hok
    go_wp2_with fail
    refine (awake_any w4 (HD.out.below HK3.out.bel)).mono ?_
    rintro e w5 ⟨rfl, hb⟩
    have HK4 := Lib.hid (HK3.out.next hb)
    clear hb HK3
    go_wp2
    go_ret
    exact ⟨rfl, Below.next HB0.out HK4.out.bel⟩
  | false =>
    obtain ⟨hl50, hok⟩ := hok rfl
    have HOK := Lib.hid hok
    clear hok
    go_wp2_with fail
    go_loopw [28] (fun v wr => ∃ k : Nat, k ≤ len ∧ v = .int .i64 k ∧ ∃ P D s, Kl W wr g cb db P D k s ∧ s.Wf x0) (fun v _ => len - (intOf v).toNat)
    case atStart => exact ⟨0, Nat.zero_le _, rfl, P0, D0, _, HK3.out, wf_new x0 x1 x2 x3⟩
    case round =>
      obtain ⟨k, hk, rfl, P, D, s, hst, hwf⟩ := hrel
      clear HK3
      by_cases hlt : k < len
      · have HWF := Lib.hid hwf
        clear hwf
        have hbel := hst.bel
        obtain ⟨b, off, rfl, c0, c1, c2, c3, c4, c5, c6, c7⟩ := acells_of H.out hbel hlt
        have hru := H.out.each k hlt
        have hok := HOK.out k hlt
        generalize l.getD k ac0 = x at *
        obtain ⟨kd, ⟨uk, ux, un, ut⟩, ⟨ro, rn, ra, rl, rc, rus⟩⟩ := x
        simp only at c0 c1 c2 c3 c4 c5 c6 c7 hru
        have hA := Joins.below_alloc1 wr (.cells #[.int .i64 kd, .string uk, .int .i64 ux, .int .i64 un, .string ut, .int .i64 ro, .int .i64 rn, .slice ra rl rc] 37)
        have hab : Ab (wr.alloc (.cells #[.int .i64 kd, .string uk, .int .i64 ux, .int .i64 un, .string ut, .int .i64 ro, .int .i64 rn, .slice ra rl rc] 37)) wr.heap.size kd uk ux un ut ro rn ra rl rc := heap_alloc_new wr _
        have HLOW : Hid (0 < rl → ∀ g off, ra = some ⟨g, off, none⟩ → g < W.heap.size) := Lib.hid fun h0 g off e => Rn.us_in hru h0 e
        have HRU := Lib.hid ((hru.below hbel).below hA)
        have HOKA := Lib.hid hok
        have HAB := Lib.hid hab
        have HK := Lib.hid (hst.next hA)
        have hff : ¬ Kf W P D wr.heap.size := fun e => by have := hst.kq.foot _ e; omega
        have HFF := Lib.hid hff
        clear hbel hru hok hA hab hff hst
        have a0 := HAB.out.c0
        obtain ⟨a1, a2, a3, a4⟩ := HAB.out.up
        obtain ⟨a5, a6, a7⟩ := HAB.out.rd
        have k0 := HK.out.kb.c0
        have k1 := HK.out.kb.c1
        by_cases h4 : kd = 4
        · have e4 : ((kd : Int) == 4) = true := beq_iff_eq.2 h4
          have e4' : ((kd : Int) != 4) = false := by simp [h4]
          clear h4
          go_wp2_with fail
          go_roundw
          case rel => exact ⟨k + 1, by omega, by go_num, P, D, s, HK.out.mono, HWF.out⟩
          case measure => simp [intOf]; omega
        have e4 : ((kd : Int) == 4) = false := beq_false_of_ne h4
        have e4' : ((kd : Int) != 4) = true := by simp [h4]
        clear h4
        go_wp2_with fail
        refine (do_any kd uk ux un ut ro rn ra rl rc rus (by omega) (wr.alloc (.cells #[.int .i64 kd, .string uk, .int .i64 ux, .int .i64 un, .string ut, .int .i64 ro, .int .i64 rn, .slice ra rl rc] 37)) HD.out HOKA.out HRU.out HLOW.out HK.out.kq).mono ?_
        rintro e w7 ⟨rfl, P2, D2, hdo⟩
        have HK7 := Lib.hid (HK.out.step hdo)
        clear hdo
        clear a0 a1 a2 a3 a4 a5 a6 a7 k0 k1
        go_wp2
        go_roundw
        case rel => exact ⟨k + 1, by omega, by go_num, P2, D2, _, HK7.out, HWF.out.act _⟩
        case measure => simp [intOf]; omega
      · obtain rfl : k = len := by omega
        have HWF := Lib.hid hwf
        have HK6 := Lib.hid (hst.next (Below.refl _ _).drew)
        have HO := Lib.hid hst.kq.ok
        have hlen := HO.out.len
        clear hst hwf
        go_upto_region 10 with fail
        refine wp_region_held_drew (S := fun w' => w'.cell? ⟨g, 0, none⟩ = some (.pointer (some ⟨cb, 0, none⟩)) ∧ w'.cell? ⟨g, 1, none⟩ = some (.pointer (some ⟨db, 0, none⟩))) (by kernel_rfl) ?_ (fun hs6 => ?_)
        · exact ⟨HK6.out.kb.c0, HK6.out.kb.c1⟩
        refine tkH 0 ?_ ?_ ?_
        rotate_left
        · intro w h; try dsimp only at h
          obtain ⟨q0, q1⟩ := h; go_simp; all_goals with_reducible rfl
        try simp only [pt]
        refine tkH 1 ?_ ?_ ?_
        rotate_left
        · intro w h; try dsimp only at h
          obtain ⟨q0, q1⟩ := h; go_simp; all_goals with_reducible rfl
        try simp only [pt]
        refine tkH 3 ?_ ?_ ?_
        rotate_left
        · intro w h; try dsimp only at h
          obtain ⟨q0, q1⟩ := h; go_simp; all_goals with_reducible rfl
        try simp only [pt]
        refine tkH 4 ?_ ?_ ?_
        rotate_left
        · intro w h; try dsimp only at h
          obtain ⟨q0, q1⟩ := h; go_simp; all_goals with_reducible rfl
        try simp only [pt]
        refine wpAnyH_ready (rs := [2]) (by kernel_rfl) (by simp) ?_
        refine rdH (fun K hK => ?_) ?_
        · go_simp
          refine (cknown_any (s := s) (by omega) (fun r hr => (HO.out.sk r hr).sm) wr.drew HK6.out.kq.pk).mono ?_
          rintro e w7 ⟨gk, xk, rfl, hrz, hgk, how, hmk, hb⟩
          have hlk : xk.length = s.kn.length := by rw [← hmk, List.length_map]
          have HMK := Lib.hid hmk
          have HXK7 := Lib.hid (Hx.new HK6.out.kq.pk hrz hgk how)
          have HK7 := Lib.hid (HK6.out.next hb)
          have hs7 : w7.cell? ⟨g, 0, none⟩ = some (.pointer (some ⟨cb, 0, none⟩)) ∧ w7.cell? ⟨g, 1, none⟩ = some (.pointer (some ⟨db, 0, none⟩)) := ⟨HK7.out.kb.c0, HK7.out.kb.c1⟩
          clear hb hrz hgk how hmk
          go_wp2_with fail
          refine hK.out _ _ ?_ (fun hH => ?_)
          · exact hs7
          clear hK K
          try simp only [pt]
          refine wpAnyH_ready (rs := [5]) (by kernel_rfl) (by simp) ?_
          refine rdH (fun K hK => ?_) ?_
          · go_simp
            refine (cpend_any (s := s) HO.out.k (by omega) w7 HK7.out.kq.pk).mono ?_
            rintro e w8 ⟨gp, xp, rfl, hrz, hgp, how, hof, hb⟩
            have hlp : xp.length = s.uss.length - s.k := by rw [hof.len, List.length_drop]
            have HMP := Lib.hid hof
            have HXP8 := Lib.hid (Hx.new HK7.out.kq.pk hrz hgp how)
            have HXK8 := Lib.hid (HXK7.out.next hb)
            have HK8 := Lib.hid (HK7.out.next hb)
            have hs8 : w8.cell? ⟨g, 0, none⟩ = some (.pointer (some ⟨cb, 0, none⟩)) ∧ w8.cell? ⟨g, 1, none⟩ = some (.pointer (some ⟨db, 0, none⟩)) := ⟨HK8.out.kb.c0, HK8.out.kb.c1⟩
            clear hb hrz hgp how hof HXK7
            go_wp2_with fail
            refine hK.out _ _ ?_ (fun hH => ?_)
            · exact hs8
            clear hK K
            try simp only [pt]
            refine tkH 6 ?_ ?_ ?_
            rotate_left
            · intro w h; try dsimp only at h
              obtain ⟨q0, q1⟩ := h; go_simp; all_goals with_reducible rfl
            try simp only [pt]
            refine tkH 7 ?_ ?_ ?_
            rotate_left
            · intro w h; try dsimp only at h
              obtain ⟨q0, q1⟩ := h; go_simp; all_goals with_reducible rfl
            try simp only [pt]
            refine wpAnyH_done (by kernel_rfl) ?_ _
            clear hs6 hs7 hs8
            have KA8 := Lib.hid HK8.out.alone
            have k0 := KA8.out.kb.c0
            clear HK6 HK7 HK8
            go_wp2_with fail
            refine (cresume_any w8 KA8.out.pk).mono ?_
            rintro e w9 ⟨rfl, P9, hp⟩
            have KA9 := Lib.hid ((KA8.out.step hp).next (Below.refl _ _).drew)
            have HXK9 := Lib.hid ((HXK8.out.step hp).next (Below.refl _ _).drew)
            have HXP9 := Lib.hid ((HXP8.out.step hp).next (Below.refl _ _).drew)
            obtain ⟨jb, aj, cj, rj, hjv⟩ := KA9.out.dk.jv
            have HJ9 := Lib.hid hjv
            clear hp hjv KA8 HXK8 HXP8 k0
            go_upto_region 12 with fail
            refine wp_region_held_drew (S := fun w' => (w'.cell? ⟨g, 0, none⟩ = some (.pointer (some ⟨cb, 0, none⟩)) ∧ w'.cell? ⟨g, 1, none⟩ = some (.pointer (some ⟨db, 0, none⟩))) ∧ w'.cell? ⟨db, 0, none⟩ = some (.pointer (some ⟨jb, 0, none⟩)) ∧ w'.cell? ⟨jb, 2, none⟩ = some (.slice aj s.uss.length cj)) (by kernel_rfl) ?_ (fun hs9 => ?_)
            · exact ⟨⟨KA9.out.kb.c0, KA9.out.kb.c1⟩, HJ9.out.c0, HJ9.out.c2⟩
            refine tkH 0 ?_ ?_ ?_
            rotate_left
            · intro w h; try dsimp only at h
              obtain ⟨⟨q0, q1⟩, d0, d1⟩ := h; go_simp; all_goals with_reducible rfl
            try simp only [pt]
            refine tkH 1 ?_ ?_ ?_
            rotate_left
            · intro w h; try dsimp only at h
              obtain ⟨⟨q0, q1⟩, d0, d1⟩ := h; go_simp; all_goals with_reducible rfl
            try simp only [pt]
            refine wpAnyH_ready (rs := [2]) (by kernel_rfl) (by simp) ?_
            refine rdH (fun K hK => ?_) ?_
            · go_simp
              refine (cknown_any (s := s.resume) (Nat.zero_le _) (fun r hr => by cases hr) w9.drew KA9.out.pk).mono ?_
              rintro e w10 ⟨g10, x10, rfl, -, -, -, -, hb⟩
              rw [show s.resume.kn.length = 0 from rfl]
              have KA10 := Lib.hid (KA9.out.next hb)
              have HXK10 := Lib.hid (HXK9.out.next hb)
              have HXP10 := Lib.hid (HXP9.out.next hb)
              have HJ10 := Lib.hid (HJ9.out.next hb)
              have hs10 : (w10.cell? ⟨g, 0, none⟩ = some (.pointer (some ⟨cb, 0, none⟩)) ∧ w10.cell? ⟨g, 1, none⟩ = some (.pointer (some ⟨db, 0, none⟩))) ∧ w10.cell? ⟨db, 0, none⟩ = some (.pointer (some ⟨jb, 0, none⟩)) ∧ w10.cell? ⟨jb, 2, none⟩ = some (.slice aj s.uss.length cj) := ⟨⟨KA10.out.kb.c0, KA10.out.kb.c1⟩, HJ10.out.c0, HJ10.out.c2⟩
              clear hb
              go_wp2_with fail
              refine hK.out _ _ ?_ (fun hH => ?_)
              · exact hs10
              clear hK K
              try simp only [pt]
              refine tkH 3 ?_ ?_ ?_
              rotate_left
              · intro w h; try dsimp only at h
                obtain ⟨⟨q0, q1⟩, d0, d1⟩ := h; go_simp; all_goals with_reducible rfl
              try simp only [pt]
              refine tkH 4 ?_ ?_ ?_
              rotate_left
              · intro w h; try dsimp only at h
                obtain ⟨⟨q0, q1⟩, d0, d1⟩ := h; go_simp; all_goals with_reducible rfl
              try simp only [pt]
              refine tkH 5 ?_ ?_ ?_
              rotate_left
              · intro w h; try dsimp only at h
                obtain ⟨⟨q0, q1⟩, d0, d1⟩ := h; go_simp; all_goals with_reducible rfl
              try simp only [pt]
              refine tkH 6 ?_ ?_ ?_
              rotate_left
              · intro w h; try dsimp only at h
                obtain ⟨⟨q0, q1⟩, d0, d1⟩ := h; go_simp; all_goals with_reducible rfl
              try simp only [pt]
              refine tkH 7 ?_ ?_ ?_
              rotate_left
              · intro w h; try dsimp only at h
                obtain ⟨⟨q0, q1⟩, d0, d1⟩ := h; go_simp; all_goals with_reducible rfl
              try simp only [pt]
              refine wpAnyH_ready (rs := [8]) (by kernel_rfl) (by simp) ?_
              refine rdH (fun K hK => ?_) ?_
              · go_simp
                refine (copen_any (s := s.resume) Sl.nil.sm w10 KA10.out.pk).mono ?_
                rintro e w11 ⟨rfl, -, hb⟩
                rw [show s.resume.op.length = 0 from rfl]
                have KA11 := Lib.hid (KA10.out.next hb)
                have HXK11 := Lib.hid (HXK10.out.next hb)
                have HXP11 := Lib.hid (HXP10.out.next hb)
                have HJ11 := Lib.hid (HJ10.out.next hb)
                have hs11 : (w11.cell? ⟨g, 0, none⟩ = some (.pointer (some ⟨cb, 0, none⟩)) ∧ w11.cell? ⟨g, 1, none⟩ = some (.pointer (some ⟨db, 0, none⟩))) ∧ w11.cell? ⟨db, 0, none⟩ = some (.pointer (some ⟨jb, 0, none⟩)) ∧ w11.cell? ⟨jb, 2, none⟩ = some (.slice aj s.uss.length cj) := ⟨⟨KA11.out.kb.c0, KA11.out.kb.c1⟩, HJ11.out.c0, HJ11.out.c2⟩
                clear hb
                go_wp2_with fail
                refine hK.out _ _ ?_ (fun hH => ?_)
                · exact hs11
                clear hK K
                try simp only [pt]
                refine tkH 9 ?_ ?_ ?_
                rotate_left
                · intro w h; try dsimp only at h
                  obtain ⟨⟨q0, q1⟩, d0, d1⟩ := h; go_simp; all_goals with_reducible rfl
                try simp only [pt]
                refine tkH 10 ?_ ?_ ?_
                rotate_left
                · intro w h; try dsimp only at h
                  obtain ⟨⟨q0, q1⟩, d0, d1⟩ := h; go_simp; all_goals with_reducible rfl
                try simp only [pt]
                refine tkH 11 ?_ ?_ ?_
                rotate_left
                · intro w h; try dsimp only at h
                  obtain ⟨⟨q0, q1⟩, d0, d1⟩ := h; go_simp; all_goals with_reducible rfl
                try simp only [pt]
                refine tkH 12 ?_ ?_ ?_
                rotate_left
                · intro w h; try dsimp only at h
                  obtain ⟨⟨q0, q1⟩, d0, d1⟩ := h; go_simp; all_goals with_reducible rfl
                try simp only [pt]
                refine tkH 13 ?_ ?_ ?_
                rotate_left
                · intro w h; try dsimp only at h
                  obtain ⟨⟨q0, q1⟩, d0, d1⟩ := h; go_simp; all_goals with_reducible rfl
                try simp only [pt]
                refine tkH 14 ?_ ?_ ?_
                rotate_left
                · intro w h; try dsimp only at h
                  obtain ⟨⟨q0, q1⟩, d0, d1⟩ := h; go_simp; all_goals with_reducible rfl
                try simp only [pt]
                refine tkH 16 ?_ ?_ ?_
                rotate_left
                · intro w h; try dsimp only at h
                  obtain ⟨⟨q0, q1⟩, d0, d1⟩ := h; go_simp; all_goals with_reducible rfl
                try simp only [pt]
                refine tkH 17 ?_ ?_ ?_
                rotate_left
                · intro w h; try dsimp only at h
                  obtain ⟨⟨q0, q1⟩, d0, d1⟩ := h; go_simp; all_goals with_reducible rfl
                try simp only [pt]
                refine tkH 18 ?_ ?_ ?_
                rotate_left
                · intro w h; try dsimp only at h
                  obtain ⟨⟨q0, q1⟩, d0, d1⟩ := h; go_simp; all_goals with_reducible rfl
                try simp only [pt]
                refine tkH 19 ?_ ?_ ?_
                rotate_left
                · intro w h; try dsimp only at h
                  obtain ⟨⟨q0, q1⟩, d0, d1⟩ := h; go_simp; all_goals with_reducible rfl
                try simp only [pt]
                refine tkH 20 ?_ ?_ ?_
                rotate_left
                · intro w h; try dsimp only at h
                  obtain ⟨⟨q0, q1⟩, d0, d1⟩ := h; go_simp; all_goals with_reducible rfl
                try simp only [pt]
                refine tkH 21 ?_ ?_ ?_
                rotate_left
                · intro w h; try dsimp only at h
                  obtain ⟨⟨q0, q1⟩, d0, d1⟩ := h; go_simp; all_goals with_reducible rfl
                try simp only [pt]
                refine tkH 22 ?_ ?_ ?_
                rotate_left
                · intro w h; try dsimp only at h
                  obtain ⟨⟨q0, q1⟩, d0, d1⟩ := h; go_simp; all_goals with_reducible rfl
                try simp only [pt]
                refine tkH 23 ?_ ?_ ?_
                rotate_left
                · intro w h; try dsimp only at h
                  obtain ⟨⟨q0, q1⟩, d0, d1⟩ := h; go_simp; all_goals with_reducible rfl
                try simp only [pt]
                refine wpAnyH_ready (rs := [15]) (by kernel_rfl) (by simp) ?_
                refine rdH (fun K hK => ?_) ?_
                · go_simp
                  refine (cpend_any (s := s.resume) (Nat.zero_le _) (show s.uss.length ≤ 1000 by omega) w11 KA11.out.pk).mono ?_
                  rintro e w12 ⟨g12, x12, rfl, hrz, -, how, hof, hb⟩
                  rw [show s.resume.uss.length - s.resume.k = s.uss.length from rfl]
                  have his := rz_is hrz how
                  have hl12 : x12.length = s.uss.length := by rw [hof.len]; rfl
                  rw [hl12] at his
                  have HI12 := Lib.hid his
                  have HM12 := Lib.hid hof
                  have KA12 := Lib.hid (KA11.out.next hb)
                  have HXK12 := Lib.hid (HXK11.out.next hb)
                  have HXP12 := Lib.hid (HXP11.out.next hb)
                  have HJ12 := Lib.hid (HJ11.out.next hb)
                  have hs12 : (w12.cell? ⟨g, 0, none⟩ = some (.pointer (some ⟨cb, 0, none⟩)) ∧ w12.cell? ⟨g, 1, none⟩ = some (.pointer (some ⟨db, 0, none⟩))) ∧ w12.cell? ⟨db, 0, none⟩ = some (.pointer (some ⟨jb, 0, none⟩)) ∧ w12.cell? ⟨jb, 2, none⟩ = some (.slice aj s.uss.length cj) := ⟨⟨KA12.out.kb.c0, KA12.out.kb.c1⟩, HJ12.out.c0, HJ12.out.c2⟩
                  clear hb hrz how hof his hl12
                  go_wp2_with fail
                  refine hK.out _ _ ?_ (fun hH => ?_)
                  · exact hs12
                  clear hK K
                  try simp only [pt]
                  refine wpAnyH_ready (rs := [24]) (by kernel_rfl) (by simp) ?_
                  refine rdH (fun K hK => ?_) ?_
                  · go_simp
                    refine (sameall_yes (some ⟨g12, 0, none⟩) aj s.uss.length s.uss.length cj x12 rj (by omega) (Of.alk (show Of s.o 0 s.uss x12 from HM12.out) HJ12.out.of (Nat.le_refl _)) (fun i hi => pd_short (s := s.resume) HO.out.resume HM12.out i hi) w12 HI12.out HJ12.out.is).mono ?_
                    rintro e w13 ⟨rfl, hb⟩
                    have KA13 := Lib.hid (KA12.out.next hb)
                    have HXK13 := Lib.hid (HXK12.out.next hb)
                    have HXP13 := Lib.hid (HXP12.out.next hb)
                    have HJ13 := Lib.hid (HJ12.out.next hb)
                    have hs13 : (w13.cell? ⟨g, 0, none⟩ = some (.pointer (some ⟨cb, 0, none⟩)) ∧ w13.cell? ⟨g, 1, none⟩ = some (.pointer (some ⟨db, 0, none⟩))) ∧ w13.cell? ⟨db, 0, none⟩ = some (.pointer (some ⟨jb, 0, none⟩)) ∧ w13.cell? ⟨jb, 2, none⟩ = some (.slice aj s.uss.length cj) := ⟨⟨KA13.out.kb.c0, KA13.out.kb.c1⟩, HJ13.out.c0, HJ13.out.c2⟩
                    clear hb
                    go_wp2_with fail
                    refine hK.out _ _ ?_ (fun hH => ?_)
                    · exact hs13
                    clear hK K
                    try simp only [pt]
                    refine tkH 25 ?_ ?_ ?_
                    rotate_left
                    · intro w h; try dsimp only at h
                      obtain ⟨⟨q0, q1⟩, d0, d1⟩ := h; go_simp; all_goals with_reducible rfl
                    try simp only [pt]
                    refine tkH 26 ?_ ?_ ?_
                    rotate_left
                    · intro w h; try dsimp only at h
                      obtain ⟨⟨q0, q1⟩, d0, d1⟩ := h; go_simp; all_goals with_reducible rfl
                    try simp only [pt]
                    refine wpAnyH_done (by kernel_rfl) ?_ _
                    clear hs9 hs10 hs11 hs12 hs13 KA9 KA10 KA11 KA12 HXK9 HXK10 HXK11 HXK12 HXP9 HXP10 HXP11 HXP12 HJ9 HJ10 HJ11 HJ12 HJ13 HI12 HM12
                    have HLK := Lib.hid hlk
                    have HLP := Lib.hid hlp
                    clear hlk hlp
                    go_wp2_with fail
                    go_loopw [77] (fun v wr => ∃ i : Nat, i ≤ s.kn.length ∧ v = .int .i64 i ∧ ∃ P, Ka W wr g cb db P D (rep s i) s ∧ Hx wr P gk xk ∧ Hx wr P gp xp) (fun v _ => s.kn.length - (intOf v).toNat)
                    case atStart => exact ⟨0, Nat.zero_le _, rfl, P9, KA13.out, HXK13.out, HXP13.out⟩
                    case round =>
                      obtain ⟨i, hi, rfl, P', hka, hxk, hxp⟩ := hrel
                      clear KA13 HXK13 HXP13
                      by_cases hil : i < s.kn.length
                      · have hil2 : i < xk.length := by rw [HLK.out]; exact hil
                        obtain ⟨c0, c1, c2⟩ := hxk.rz.row i hil2
                        have hru := hxk.ru (rn_mem hil2)
                        have hrep := rep_fact HWF.out HO.out HMK.out hil
                        have HREP : Hid ((rep s i).takeE (kR (xk.getD i rn0)) = 0 ∧ (rep s i).take (kR (xk.getD i rn0)) = rep s (i + 1)) := Lib.hid ⟨hrep.1, hrep.2.1⟩
                        have HSM := Lib.hid hrep.2.2.1
                        have hcount : (rep s i).kn.length ≤ 1000 := Nat.le_trans hrep.2.2.2 (by omega)
                        clear hrep hil2
                        generalize xk.getD i rn0 = r at *
                        obtain ⟨ro, rn, ra, rl, rc, rus⟩ := r
                        simp only at c0 c1 c2 hru
                        have hA := Joins.below_alloc1 wr (.cells #[.int .i64 ro, .int .i64 rn, .slice ra rl rc] 35)
                        have hrb := Rb.new wr ro rn ra rl rc
                        have b0 := hrb.c0
                        have b1 := hrb.c1
                        have b2 := hrb.c2
                        have KA := Lib.hid (hka.next hA)
                        have HXK := Lib.hid (hxk.next hA)
                        have HXP := Lib.hid (hxp.next hA)
                        have HRU := Lib.hid (hru.below hA)
                        have k0 := KA.out.kb.c0
                        clear hA hrb hka hxk hxp hru
                        go_wp2_with fail
                        refine (ctake_any (s := rep s i) hcount ⟨ro, rn, ra, rl, rc, rus⟩ HSM.out _ HRU.out KA.out.pk).mono ?_
                        rintro e w14 ⟨rfl, P14, hp⟩
                        rw [HREP.out.1]
                        rw [HREP.out.2] at hp
                        have KA14 := Lib.hid (KA.out.step hp)
                        have HXK14 := Lib.hid (HXK.out.step hp)
                        have HXP14 := Lib.hid (HXP.out.step hp)
                        clear hp c0 c1 c2 b0 b1 b2 k0 KA HXK HXP
                        go_wp2
                        go_roundw
                        case rel => exact ⟨i + 1, by omega, by go_num, P14, KA14.out, HXK14.out, HXP14.out⟩
                        case measure => simp [intOf]; omega
                      · obtain rfl : i = s.kn.length := by omega
                        rw [rep_end HWF.out] at hka
                        have k0 := hka.kb.c0
                        have KA := Lib.hid hka
                        have HXK := Lib.hid hxk
                        have HXP := Lib.hid hxp
                        have HO2 : Hid (Cs.Ok (s := { s with op := [] }) k) := Lib.hid ⟨HO.out.len, by have := HO.out.tot; show (s.kn.flatMap fun r => r.2.2).length + s.uss.flatten.length + 0 ≤ 20 * k; omega, HO.out.k, HO.out.su, HO.out.sk, Sl.nil, Nat.zero_le _⟩
                        clear hka hxk hxp
                        go_wp2_with fail
                        refine (cknown_any (s := { s with op := [] }) (show s.kn.length ≤ 1000 by omega) (fun r hr => (HO.out.sk r hr).sm) wr KA.out.pk).mono ?_
                        rintro e w15 ⟨g15, x15, rfl, hrz, -, how, hmk, hb⟩
                        have his := rz_is hrz how
                        have hl15 : x15.length = s.kn.length := by have : x15.map kR = s.kn := hmk; rw [← this, List.length_map]
                        have HI15 := Lib.hid his
                        have HM15 : Hid (x15.map kR = s.kn) := Lib.hid hmk
                        have KA15 := Lib.hid (KA.out.next hb)
                        have HXK15 := Lib.hid (HXK.out.next hb)
                        have HXP15 := Lib.hid (HXP.out.next hb)
                        have HL15 := Lib.hid hl15
                        rw [show (Cs.kn { s with op := [] }) = s.kn from rfl]
                        clear hb hrz how hmk his k0 KA HXK HXP hl15
                        go_wp2_with fail
                        refine (sameall_yes (some ⟨g15, 0, none⟩) (some ⟨gk, 0, none⟩) s.kn.length s.kn.length s.kn.length x15 xk (by omega) (alk_map HM15.out HMK.out) (fun i hi => kn_short HO.out HM15.out i hi) w15 (by rw [← HL15.out]; exact HI15.out) (by rw [← HLK.out]; exact HXK15.out.is)).mono ?_
                        rintro e w16 ⟨rfl, hb⟩
                        have KA16 := Lib.hid (KA15.out.next hb)
                        have HXP16 := Lib.hid (HXP15.out.next hb)
                        have k0 := KA16.out.kb.c0
                        clear hb KA15 HXK15 HXP15 HI15 HM15
                        go_wp2_with fail
                        refine (cpend_any (s := { s with op := [] }) HO.out.k (show s.uss.length ≤ 1000 by omega) w16 KA16.out.pk).mono ?_
                        rintro e w17 ⟨g17, x17, rfl, hrz, -, how, hof, hb⟩
                        have his := rz_is hrz how
                        have hof : Of s.o s.k (s.uss.drop s.k) x17 := hof
                        have hl17 : x17.length = s.uss.length - s.k := by rw [hof.len, List.length_drop]
                        have HI17 := Lib.hid his
                        have HM17 := Lib.hid hof
                        have KA17 := Lib.hid (KA16.out.next hb)
                        have HXP17 := Lib.hid (HXP16.out.next hb)
                        have HL17 := Lib.hid hl17
                        rw [show (Cs.uss { s with op := [] }).length - (Cs.k { s with op := [] }) = s.uss.length - s.k from rfl]
                        clear hb hrz how hof his k0 KA16 HXP16 hl17
                        go_wp2_with fail
                        refine (sameall_yes (some ⟨g17, 0, none⟩) (some ⟨gp, 0, none⟩) (s.uss.length - s.k) (s.uss.length - s.k) (s.uss.length - s.k) x17 xp (by omega) (HM17.out.alk HMP.out (by rw [List.length_drop]; omega)) (fun i hi => pd_short HO.out HM17.out i hi) w17 (by rw [← HL17.out]; exact HI17.out) (by rw [← HLP.out]; exact HXP17.out.is)).mono ?_
                        rintro e w18 ⟨rfl, hb⟩
                        have KA18 := Lib.hid (KA17.out.next hb)
                        clear hb KA17
                        go_wp2
                        go_ret
                        exact ⟨rfl, Below.next HB0.out KA18.out.bel⟩
                  exact AllReadyH.nil
                exact AllReadyH.nil
              exact AllReadyH.nil
            exact AllReadyH.nil
          exact AllReadyH.nil
        exact AllReadyH.nil
end Go.Proofs.YtbbgibekplfacaaDoor
