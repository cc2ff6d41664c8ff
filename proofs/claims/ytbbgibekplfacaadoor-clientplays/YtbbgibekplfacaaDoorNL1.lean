/- The walk of ClientPlays. -/
import Derived.Test.YtbbgibekplfacaaDoorRH
import Derived.Test.YtbbgibekplfacaaDoorNG
namespace Go.Proofs.YtbbgibekplfacaaDoor
open Go Go.RowKit
set_option maxRecDepth 20000
set_option maxHeartbeats 16000000 in
theorem walkPlays (x0 x1 x2 x3 : Int) (a : Option Addr) (len cap : Nat) (l : List Ac) (w : World) (hd : X.Wd w) (h : IsAs w a len l) :
    Calls Tryd.prog 3 #[.agg #[.int .i64 x0, .int .i64 x1, .int .i64 x2, .int .i64 x3], .slice a len cap] w fun e w' => e = .returned (.bool true) ∧ Below w.heap.size w w' := by
  have hA := Joins.below_alloc1 w (.cells #[.int .i64 x0, .int .i64 x1, .int .i64 x2, .int .i64 x3] 22)
  have hx : (w.alloc (.cells #[.int .i64 x0, .int .i64 x1, .int .i64 x2, .int .i64 x3] 22)).heap[w.heap.size]? = some (.cells #[.int .i64 x0, .int .i64 x1, .int .i64 x2, .int .i64 x3] 22 (0, 0)) := heap_alloc_new w _
  have b0 := cell_at hx 0 _ rfl
  have b1 := cell_at hx 1 _ rfl
  have b2 := cell_at hx 2 _ rfl
  have b3 := cell_at hx 3 _ rfl
  have HX := Lib.hid hx
  have HB0 := Lib.hid hA
  have HD := Lib.hid (hd.below hA)
  have H := Lib.hid (isAs_below h hA)
  clear hx hA hd h
  go_enter Tryd.func3, Tryd.ntmps3
  go_wp2_with fail
  clear b0 b1 b2 b3
  generalize w.heap.size = xb at HX ⊢
  generalize w.alloc (.cells #[.int .i64 x0, .int .i64 x1, .int .i64 x2, .int .i64 x3] 22) = W at *
  refine (made_any x0 x1 x2 x3 W).mono ?_
  rintro e w1 ⟨cb, db, rfl, P0, D0, hq⟩
  have hk := Kl.start hq
  have k0 := hk.kb.c0
  have HK1 := Lib.hid hk
  clear hk hq
  go_wp2_with fail
  clear k0
  generalize w1.heap.size = g at *
  generalize w1.alloc (.cells #[.pointer (some ⟨cb, 0, none⟩), .pointer (some ⟨db, 0, none⟩)] 27) = w2 at *
  refine (awake_any w2 (HD.out.below HK1.out.bel)).mono ?_
  rintro e w3 ⟨rfl, hb⟩
  have HK2 := Lib.hid (HK1.out.next hb)
  have k0 := HK2.out.kb.c0
  clear hb HK1
  go_wp2_with fail
  clear k0
  refine (great_any a len cap l w3 (isAs_below H.out HK2.out.bel)).mono ?_
  rintro e w4 ⟨⟨bt, rfl, hok⟩, hb⟩
  have HK3 := Lib.hid (HK2.out.next hb)
  clear hb HK2
  cases bt with
  | true =>
    clear hok
    go_wp2_with fail
    refine (awake_any w4 (HD.out.below HK3.out.bel)).mono ?_
    rintro e w5 ⟨rfl, hb⟩
    have HK4 := Lib.hid (HK3.out.next hb)
    clear hb HK3
    go_wp2
    go_ret
    exact ⟨rfl, Below.next HB0.out HK4.out.bel⟩
  | false =>
    obtain ⟨hl50, hok⟩ := hok rfl
    have HOK := Lib.hid hok
    clear hok
    go_wp2_with fail
    go_loopw [24] (fun v wr => ∃ k : Nat, k ≤ len ∧ v = .int .i64 k ∧ ∃ P D s, Kl W wr g cb db P D k s) (fun v _ => len - (intOf v).toNat)
    case atStart => exact ⟨0, Nat.zero_le _, rfl, P0, D0, _, HK3.out⟩
    case round =>
      obtain ⟨k, hk, rfl, P, D, s, hst⟩ := hrel
      clear HK3
      by_cases hlt : k < len
      · have hbel := hst.bel
        obtain ⟨b, off, rfl, c0, c1, c2, c3, c4, c5, c6, c7⟩ := acells_of H.out hbel hlt
        have hru := H.out.each k hlt
        have hok := HOK.out k hlt
        generalize l.getD k ac0 = x at *
        obtain ⟨kd, ⟨uk, ux, un, ut⟩, ⟨ro, rn, ra, rl, rc, rus⟩⟩ := x
        simp only at c0 c1 c2 c3 c4 c5 c6 c7 hru
        have hA := Joins.below_alloc1 wr (.cells #[.int .i64 kd, .string uk, .int .i64 ux, .int .i64 un, .string ut, .int .i64 ro, .int .i64 rn, .slice ra rl rc] 37)
        have hab : Ab (wr.alloc (.cells #[.int .i64 kd, .string uk, .int .i64 ux, .int .i64 un, .string ut, .int .i64 ro, .int .i64 rn, .slice ra rl rc] 37)) wr.heap.size kd uk ux un ut ro rn ra rl rc := heap_alloc_new wr _
        have HLOW : Hid (0 < rl → ∀ g off, ra = some ⟨g, off, none⟩ → g < W.heap.size) := Lib.hid fun h0 g off e => Rn.us_in hru h0 e
        have HRU := Lib.hid ((hru.below hbel).below hA)
        have HOKA := Lib.hid hok
        have HAB := Lib.hid hab
        have HK := Lib.hid (hst.next hA)
        have hff : ¬ Kf W P D wr.heap.size := fun e => by have := hst.kq.foot _ e; omega
        have HFF := Lib.hid hff
        clear hbel hru hok hA hab hff hst
        go_wp2_with fail
        clear c0 c1 c2 c3 c4 c5 c6 c7
        generalize wr.heap.size = ga at *
        generalize wr.alloc (.cells #[.int .i64 kd, .string uk, .int .i64 ux, .int .i64 un, .string ut, .int .i64 ro, .int .i64 rn, .slice ra rl rc] 37) = wA at *
        have hs0 : (wA.drew.cell? ⟨g, 0, none⟩ = some (.pointer (some ⟨cb, 0, none⟩)) ∧ wA.drew.cell? ⟨g, 1, none⟩ = some (.pointer (some ⟨db, 0, none⟩))) ∧ (wA.drew.cell? ⟨ga, 0, none⟩ = some (.int .i64 kd) ∧ wA.drew.cell? ⟨ga, 1, none⟩ = some (.string uk) ∧ wA.drew.cell? ⟨ga, 2, none⟩ = some (.int .i64 ux) ∧ wA.drew.cell? ⟨ga, 3, none⟩ = some (.int .i64 un) ∧ wA.drew.cell? ⟨ga, 4, none⟩ = some (.string ut) ∧ wA.drew.cell? ⟨ga, 5, none⟩ = some (.int .i64 ro) ∧ wA.drew.cell? ⟨ga, 6, none⟩ = some (.int .i64 rn) ∧ wA.drew.cell? ⟨ga, 7, none⟩ = some (.slice ra rl rc)) := ⟨⟨HK.out.kb.c0, HK.out.kb.c1⟩, ⟨HAB.out.c0, HAB.out.up.1, HAB.out.up.2.1, HAB.out.up.2.2.1, HAB.out.up.2.2.2, HAB.out.rd.1, HAB.out.rd.2.1, HAB.out.rd.2.2⟩⟩
        refine wp_region_held_drew (S := fun w' => (w'.cell? ⟨g, 0, none⟩ = some (.pointer (some ⟨cb, 0, none⟩)) ∧ w'.cell? ⟨g, 1, none⟩ = some (.pointer (some ⟨db, 0, none⟩))) ∧ (w'.cell? ⟨ga, 0, none⟩ = some (.int .i64 kd) ∧ w'.cell? ⟨ga, 1, none⟩ = some (.string uk) ∧ w'.cell? ⟨ga, 2, none⟩ = some (.int .i64 ux) ∧ w'.cell? ⟨ga, 3, none⟩ = some (.int .i64 un) ∧ w'.cell? ⟨ga, 4, none⟩ = some (.string ut) ∧ w'.cell? ⟨ga, 5, none⟩ = some (.int .i64 ro) ∧ w'.cell? ⟨ga, 6, none⟩ = some (.int .i64 rn) ∧ w'.cell? ⟨ga, 7, none⟩ = some (.slice ra rl rc))) (by kernel_rfl) ?_ (fun hH => ?_)
        · exact hs0
        refine tkH 0 ?_ ?_ ?_
        rotate_left
        · intro w hSw
          try dsimp only at hSw
          obtain ⟨⟨q0, q1⟩, q2, q3, q4, q5, q6, q7, q8, q9⟩ := hSw
          go_simp
          all_goals with_reducible rfl
        try simp only [pt]
        refine tkH 1 ?_ ?_ ?_
        rotate_left
        · intro w hSw
          try dsimp only at hSw
          obtain ⟨⟨q0, q1⟩, q2, q3, q4, q5, q6, q7, q8, q9⟩ := hSw
          go_simp
          all_goals with_reducible rfl
        try simp only [pt]
        refine wpAnyH_ready (rs := [2]) (by kernel_rfl) (by simp) ?_
        refine rdH (fun K hK => ?_) ?_
        · go_simp
          refine (do_any kd uk ux un ut ro rn ra rl rc rus (by omega) wA.drew HD.out HOKA.out (HRU.out.below (Below.refl _ _).drew) HLOW.out (HK.out.next (Below.refl _ _).drew).kq).mono ?_
          rintro e w7 ⟨rfl, P2, D2, hdo⟩
          have hl7 : ga < wA.drew.heap.size := HAB.out.lt
          have HAB7 : Hid (Ab w7 ga kd uk ux un ut ro rn ra rl rc) := Lib.hid (HAB.out.same (hdo.held hl7 HFF.out).1)
          have HK7 := Lib.hid ((HK.out.next (Below.refl _ _).drew).step hdo)
          have hs7' : (w7.cell? ⟨g, 0, none⟩ = some (.pointer (some ⟨cb, 0, none⟩)) ∧ w7.cell? ⟨g, 1, none⟩ = some (.pointer (some ⟨db, 0, none⟩))) ∧ (w7.cell? ⟨ga, 0, none⟩ = some (.int .i64 kd) ∧ w7.cell? ⟨ga, 1, none⟩ = some (.string uk) ∧ w7.cell? ⟨ga, 2, none⟩ = some (.int .i64 ux) ∧ w7.cell? ⟨ga, 3, none⟩ = some (.int .i64 un) ∧ w7.cell? ⟨ga, 4, none⟩ = some (.string ut) ∧ w7.cell? ⟨ga, 5, none⟩ = some (.int .i64 ro) ∧ w7.cell? ⟨ga, 6, none⟩ = some (.int .i64 rn) ∧ w7.cell? ⟨ga, 7, none⟩ = some (.slice ra rl rc)) := ⟨⟨HK7.out.kb.c0, HK7.out.kb.c1⟩, ⟨HAB7.out.c0, HAB7.out.up.1, HAB7.out.up.2.1, HAB7.out.up.2.2.1, HAB7.out.up.2.2.2, HAB7.out.rd.1, HAB7.out.rd.2.1, HAB7.out.rd.2.2⟩⟩
          clear hl7 hdo
          generalize s.act (kd, (uk, ux, un, ut), ⟨ro, rn, ra, rl, rc, rus⟩) = s2 at *
          obtain ⟨ak, ck, rk, ap, cp, rp, ao, co, hv⟩ := HK7.out.view
          have HV7 := Lib.hid hv
          have HO := Lib.hid HK7.out.kq.ok
          have hlen := HO.out.len
          have hkk := HO.out.k
          have hop := HO.out.s8
          have hs7 : ((w7.cell? ⟨g, 0, none⟩ = some (.pointer (some ⟨cb, 0, none⟩)) ∧ w7.cell? ⟨g, 1, none⟩ = some (.pointer (some ⟨db, 0, none⟩))) ∧ (w7.cell? ⟨ga, 0, none⟩ = some (.int .i64 kd) ∧ w7.cell? ⟨ga, 1, none⟩ = some (.string uk) ∧ w7.cell? ⟨ga, 2, none⟩ = some (.int .i64 ux) ∧ w7.cell? ⟨ga, 3, none⟩ = some (.int .i64 un) ∧ w7.cell? ⟨ga, 4, none⟩ = some (.string ut) ∧ w7.cell? ⟨ga, 5, none⟩ = some (.int .i64 ro) ∧ w7.cell? ⟨ga, 6, none⟩ = some (.int .i64 rn) ∧ w7.cell? ⟨ga, 7, none⟩ = some (.slice ra rl rc))) ∧ (w7.cell? ⟨db, 4, none⟩ = some (.slice ak s2.kn.length ck) ∧ w7.cell? ⟨db, 5, none⟩ = some (.slice ap (s2.uss.length - s2.k) cp) ∧ w7.cell? ⟨db, 6, none⟩ = some (.slice ao s2.op.length co)) := ⟨hs7', ⟨HV7.out.c4, HV7.out.c5, HV7.out.c6⟩⟩
          clear hv
          go_wp2_with fail
          refine hK.out _ _ ?_ (fun hH => ?_)
          · exact hs7'
          clear hK K
          try simp only [pt]
          clear hs7'
          refine wpAnyH_more (S' := fun w' => ((w'.cell? ⟨g, 0, none⟩ = some (.pointer (some ⟨cb, 0, none⟩)) ∧ w'.cell? ⟨g, 1, none⟩ = some (.pointer (some ⟨db, 0, none⟩))) ∧ (w'.cell? ⟨ga, 0, none⟩ = some (.int .i64 kd) ∧ w'.cell? ⟨ga, 1, none⟩ = some (.string uk) ∧ w'.cell? ⟨ga, 2, none⟩ = some (.int .i64 ux) ∧ w'.cell? ⟨ga, 3, none⟩ = some (.int .i64 un) ∧ w'.cell? ⟨ga, 4, none⟩ = some (.string ut) ∧ w'.cell? ⟨ga, 5, none⟩ = some (.int .i64 ro) ∧ w'.cell? ⟨ga, 6, none⟩ = some (.int .i64 rn) ∧ w'.cell? ⟨ga, 7, none⟩ = some (.slice ra rl rc))) ∧ (w'.cell? ⟨db, 4, none⟩ = some (.slice ak s2.kn.length ck) ∧ w'.cell? ⟨db, 5, none⟩ = some (.slice ap (s2.uss.length - s2.k) cp) ∧ w'.cell? ⟨db, 6, none⟩ = some (.slice ao s2.op.length co))) (fun _ h => h.1) _ _ _ _ ?_
          refine tkH 3 ?_ ?_ ?_
          rotate_left
          · intro w hSw
            try dsimp only at hSw
            obtain ⟨⟨⟨q0, q1⟩, _⟩, d4, d5, d6⟩ := hSw
            go_simp
            all_goals with_reducible rfl
          try simp only [pt]
          refine tkH 4 ?_ ?_ ?_
          rotate_left
          · intro w hSw
            try dsimp only at hSw
            obtain ⟨⟨⟨q0, q1⟩, _⟩, d4, d5, d6⟩ := hSw
            go_simp
            all_goals with_reducible rfl
          try simp only [pt]
          refine tkH 5 ?_ ?_ ?_
          rotate_left
          · intro w hSw
            try dsimp only at hSw
            obtain ⟨⟨⟨q0, q1⟩, _⟩, d4, d5, d6⟩ := hSw
            go_simp
            all_goals with_reducible rfl
          try simp only [pt]
          refine tkH 6 ?_ ?_ ?_
          rotate_left
          · intro w hSw
            try dsimp only at hSw
            obtain ⟨⟨⟨q0, q1⟩, _⟩, d4, d5, d6⟩ := hSw
            go_simp
            all_goals with_reducible rfl
          try simp only [pt]
          refine tkH 8 ?_ ?_ ?_
          rotate_left
          · intro w hSw
            try dsimp only at hSw
            obtain ⟨⟨⟨q0, q1⟩, _⟩, d4, d5, d6⟩ := hSw
            go_simp
            all_goals with_reducible rfl
          try simp only [pt]
          refine tkH 9 ?_ ?_ ?_
          rotate_left
          · intro w hSw
            try dsimp only at hSw
            obtain ⟨⟨⟨q0, q1⟩, _⟩, d4, d5, d6⟩ := hSw
            go_simp
            all_goals with_reducible rfl
          try simp only [pt]
          refine tkH 10 ?_ ?_ ?_
          rotate_left
          · intro w hSw
            try dsimp only at hSw
            obtain ⟨⟨⟨q0, q1⟩, _⟩, d4, d5, d6⟩ := hSw
            go_simp
            all_goals with_reducible rfl
          try simp only [pt]
          refine tkH 11 ?_ ?_ ?_
          rotate_left
          · intro w hSw
            try dsimp only at hSw
            obtain ⟨⟨⟨q0, q1⟩, _⟩, d4, d5, d6⟩ := hSw
            go_simp
            all_goals with_reducible rfl
          try simp only [pt]
          refine tkH 12 ?_ ?_ ?_
          rotate_left
          · intro w hSw
            try dsimp only at hSw
            obtain ⟨⟨⟨q0, q1⟩, _⟩, d4, d5, d6⟩ := hSw
            go_simp
            all_goals with_reducible rfl
          try simp only [pt]
          refine wpAnyH_ready (rs := [7]) (by kernel_rfl) (by simp) ?_
          refine rdH (fun K hK => ?_) ?_
          · go_simp
            refine (cknown_any (s := s2) (by omega) (fun r hr => (HO.out.sk r hr).sm) w7 HK7.out.kq.pk).mono ?_
            rintro e w8 ⟨gk, xk, rfl, hrz, -, how, hmk, hb⟩
            have his := rz_is hrz how
            have hlk : xk.length = s2.kn.length := by rw [← hmk, List.length_map]
            rw [hlk] at his
            have HIK := Lib.hid his
            have HMK := Lib.hid hmk
            have HK8 := Lib.hid (HK7.out.next hb)
            have HV8 := Lib.hid (HV7.out.next hb)
            have HAB8 := Lib.hid (HAB7.out.next hb)
            have hs8 : ((w8.cell? ⟨g, 0, none⟩ = some (.pointer (some ⟨cb, 0, none⟩)) ∧ w8.cell? ⟨g, 1, none⟩ = some (.pointer (some ⟨db, 0, none⟩))) ∧ (w8.cell? ⟨ga, 0, none⟩ = some (.int .i64 kd) ∧ w8.cell? ⟨ga, 1, none⟩ = some (.string uk) ∧ w8.cell? ⟨ga, 2, none⟩ = some (.int .i64 ux) ∧ w8.cell? ⟨ga, 3, none⟩ = some (.int .i64 un) ∧ w8.cell? ⟨ga, 4, none⟩ = some (.string ut) ∧ w8.cell? ⟨ga, 5, none⟩ = some (.int .i64 ro) ∧ w8.cell? ⟨ga, 6, none⟩ = some (.int .i64 rn) ∧ w8.cell? ⟨ga, 7, none⟩ = some (.slice ra rl rc))) ∧ (w8.cell? ⟨db, 4, none⟩ = some (.slice ak s2.kn.length ck) ∧ w8.cell? ⟨db, 5, none⟩ = some (.slice ap (s2.uss.length - s2.k) cp) ∧ w8.cell? ⟨db, 6, none⟩ = some (.slice ao s2.op.length co)) := ⟨⟨⟨HK8.out.kb.c0, HK8.out.kb.c1⟩, ⟨HAB8.out.c0, HAB8.out.up.1, HAB8.out.up.2.1, HAB8.out.up.2.2.1, HAB8.out.up.2.2.2, HAB8.out.rd.1, HAB8.out.rd.2.1, HAB8.out.rd.2.2⟩⟩, ⟨HV8.out.c4, HV8.out.c5, HV8.out.c6⟩⟩
            clear hrz how hmk his hlk
            clear hb
            go_wp2_with fail
            refine hK.out _ _ ?_ (fun hH => ?_)
            · exact hs8
            clear hK K
            try simp only [pt]
            refine wpAnyH_ready (rs := [13]) (by kernel_rfl) (by simp) ?_
            refine rdH (fun K hK => ?_) ?_
            · go_simp
              refine (sameall_yes (some ⟨gk, 0, none⟩) ak s2.kn.length s2.kn.length ck xk rk (by omega) (alk_map HMK.out HV8.out.km) (kn_short HO.out HMK.out) w8 HIK.out HV8.out.kr).mono ?_
              rintro e w9 ⟨rfl, hb⟩
              have HK9 := Lib.hid (HK8.out.next hb)
              have HV9 := Lib.hid (HV8.out.next hb)
              have HAB9 := Lib.hid (HAB8.out.next hb)
              have hs9 : ((w9.cell? ⟨g, 0, none⟩ = some (.pointer (some ⟨cb, 0, none⟩)) ∧ w9.cell? ⟨g, 1, none⟩ = some (.pointer (some ⟨db, 0, none⟩))) ∧ (w9.cell? ⟨ga, 0, none⟩ = some (.int .i64 kd) ∧ w9.cell? ⟨ga, 1, none⟩ = some (.string uk) ∧ w9.cell? ⟨ga, 2, none⟩ = some (.int .i64 ux) ∧ w9.cell? ⟨ga, 3, none⟩ = some (.int .i64 un) ∧ w9.cell? ⟨ga, 4, none⟩ = some (.string ut) ∧ w9.cell? ⟨ga, 5, none⟩ = some (.int .i64 ro) ∧ w9.cell? ⟨ga, 6, none⟩ = some (.int .i64 rn) ∧ w9.cell? ⟨ga, 7, none⟩ = some (.slice ra rl rc))) ∧ (w9.cell? ⟨db, 4, none⟩ = some (.slice ak s2.kn.length ck) ∧ w9.cell? ⟨db, 5, none⟩ = some (.slice ap (s2.uss.length - s2.k) cp) ∧ w9.cell? ⟨db, 6, none⟩ = some (.slice ao s2.op.length co)) := ⟨⟨⟨HK9.out.kb.c0, HK9.out.kb.c1⟩, ⟨HAB9.out.c0, HAB9.out.up.1, HAB9.out.up.2.1, HAB9.out.up.2.2.1, HAB9.out.up.2.2.2, HAB9.out.rd.1, HAB9.out.rd.2.1, HAB9.out.rd.2.2⟩⟩, ⟨HV9.out.c4, HV9.out.c5, HV9.out.c6⟩⟩
              clear hb
              go_wp2_with fail
              refine hK.out _ _ ?_ (fun hH => ?_)
              · exact hs9
              clear hK K
              try simp only [pt]
              refine tkH 14 ?_ ?_ ?_
              rotate_left
              · intro w hSw
                try dsimp only at hSw
                obtain ⟨⟨⟨q0, q1⟩, _⟩, d4, d5, d6⟩ := hSw
                go_simp
                all_goals with_reducible rfl
              try simp only [pt]
              refine tkH 15 ?_ ?_ ?_
              rotate_left
              · intro w hSw
                try dsimp only at hSw
                obtain ⟨⟨⟨q0, q1⟩, _⟩, d4, d5, d6⟩ := hSw
                go_simp
                all_goals with_reducible rfl
              try simp only [pt]
              refine tkH 16 ?_ ?_ ?_
              rotate_left
              · intro w hSw
                try dsimp only at hSw
                obtain ⟨⟨⟨q0, q1⟩, _⟩, d4, d5, d6⟩ := hSw
                go_simp
                all_goals with_reducible rfl
              try simp only [pt]
              refine tkH 17 ?_ ?_ ?_
              rotate_left
              · intro w hSw
                try dsimp only at hSw
                obtain ⟨⟨⟨q0, q1⟩, _⟩, d4, d5, d6⟩ := hSw
                go_simp
                all_goals with_reducible rfl
              try simp only [pt]
              refine tkH 18 ?_ ?_ ?_
              rotate_left
              · intro w hSw
                try dsimp only at hSw
                obtain ⟨⟨⟨q0, q1⟩, _⟩, d4, d5, d6⟩ := hSw
                go_simp
                all_goals with_reducible rfl
              try simp only [pt]
              refine tkH 20 ?_ ?_ ?_
              rotate_left
              · intro w hSw
                try dsimp only at hSw
                obtain ⟨⟨⟨q0, q1⟩, _⟩, d4, d5, d6⟩ := hSw
                go_simp
                all_goals with_reducible rfl
              try simp only [pt]
              refine tkH 21 ?_ ?_ ?_
              rotate_left
              · intro w hSw
                try dsimp only at hSw
                obtain ⟨⟨⟨q0, q1⟩, _⟩, d4, d5, d6⟩ := hSw
                go_simp
                all_goals with_reducible rfl
              try simp only [pt]
              refine tkH 22 ?_ ?_ ?_
              rotate_left
              · intro w hSw
                try dsimp only at hSw
                obtain ⟨⟨⟨q0, q1⟩, _⟩, d4, d5, d6⟩ := hSw
                go_simp
                all_goals with_reducible rfl
              try simp only [pt]
              refine tkH 23 ?_ ?_ ?_
              rotate_left
              · intro w hSw
                try dsimp only at hSw
                obtain ⟨⟨⟨q0, q1⟩, _⟩, d4, d5, d6⟩ := hSw
                go_simp
                all_goals with_reducible rfl
              try simp only [pt]
              refine tkH 24 ?_ ?_ ?_
              rotate_left
              · intro w hSw
                try dsimp only at hSw
                obtain ⟨⟨⟨q0, q1⟩, _⟩, d4, d5, d6⟩ := hSw
                go_simp
                all_goals with_reducible rfl
              try simp only [pt]
              refine wpAnyH_ready (rs := [19]) (by kernel_rfl) (by simp) ?_
              refine rdH (fun K hK => ?_) ?_
              · go_simp
                refine (cpend_any (s := s2) HO.out.k (by omega) w9 HK9.out.kq.pk).mono ?_
                rintro e w10 ⟨gp, xp, rfl, hrz, -, how, hof, hb⟩
                have his := rz_is hrz how
                have hlp : xp.length = s2.uss.length - s2.k := by rw [hof.len, List.length_drop]
                rw [hlp] at his
                have HIP := Lib.hid his
                have HMP := Lib.hid hof
                have HK10 := Lib.hid (HK9.out.next hb)
                have HV10 := Lib.hid (HV9.out.next hb)
                have HAB10 := Lib.hid (HAB9.out.next hb)
                have hs10 : ((w10.cell? ⟨g, 0, none⟩ = some (.pointer (some ⟨cb, 0, none⟩)) ∧ w10.cell? ⟨g, 1, none⟩ = some (.pointer (some ⟨db, 0, none⟩))) ∧ (w10.cell? ⟨ga, 0, none⟩ = some (.int .i64 kd) ∧ w10.cell? ⟨ga, 1, none⟩ = some (.string uk) ∧ w10.cell? ⟨ga, 2, none⟩ = some (.int .i64 ux) ∧ w10.cell? ⟨ga, 3, none⟩ = some (.int .i64 un) ∧ w10.cell? ⟨ga, 4, none⟩ = some (.string ut) ∧ w10.cell? ⟨ga, 5, none⟩ = some (.int .i64 ro) ∧ w10.cell? ⟨ga, 6, none⟩ = some (.int .i64 rn) ∧ w10.cell? ⟨ga, 7, none⟩ = some (.slice ra rl rc))) ∧ (w10.cell? ⟨db, 4, none⟩ = some (.slice ak s2.kn.length ck) ∧ w10.cell? ⟨db, 5, none⟩ = some (.slice ap (s2.uss.length - s2.k) cp) ∧ w10.cell? ⟨db, 6, none⟩ = some (.slice ao s2.op.length co)) := ⟨⟨⟨HK10.out.kb.c0, HK10.out.kb.c1⟩, ⟨HAB10.out.c0, HAB10.out.up.1, HAB10.out.up.2.1, HAB10.out.up.2.2.1, HAB10.out.up.2.2.2, HAB10.out.rd.1, HAB10.out.rd.2.1, HAB10.out.rd.2.2⟩⟩, ⟨HV10.out.c4, HV10.out.c5, HV10.out.c6⟩⟩
                clear hrz how hof his hlp
                clear hb
                go_wp2_with fail
                refine hK.out _ _ ?_ (fun hH => ?_)
                · exact hs10
                clear hK K
                try simp only [pt]
                refine wpAnyH_ready (rs := [25]) (by kernel_rfl) (by simp) ?_
                refine rdH (fun K hK => ?_) ?_
                · go_simp
                  refine (sameall_yes (some ⟨gp, 0, none⟩) ap (s2.uss.length - s2.k) (s2.uss.length - s2.k) cp xp rp (by omega) (HMP.out.alk HV10.out.po (by rw [List.length_drop]; exact Nat.le_refl _)) (pd_short HO.out HMP.out) w10 HIP.out HV10.out.pr).mono ?_
                  rintro e w11 ⟨rfl, hb⟩
                  have HK11 := Lib.hid (HK10.out.next hb)
                  have HV11 := Lib.hid (HV10.out.next hb)
                  have HAB11 := Lib.hid (HAB10.out.next hb)
                  have hs11 : ((w11.cell? ⟨g, 0, none⟩ = some (.pointer (some ⟨cb, 0, none⟩)) ∧ w11.cell? ⟨g, 1, none⟩ = some (.pointer (some ⟨db, 0, none⟩))) ∧ (w11.cell? ⟨ga, 0, none⟩ = some (.int .i64 kd) ∧ w11.cell? ⟨ga, 1, none⟩ = some (.string uk) ∧ w11.cell? ⟨ga, 2, none⟩ = some (.int .i64 ux) ∧ w11.cell? ⟨ga, 3, none⟩ = some (.int .i64 un) ∧ w11.cell? ⟨ga, 4, none⟩ = some (.string ut) ∧ w11.cell? ⟨ga, 5, none⟩ = some (.int .i64 ro) ∧ w11.cell? ⟨ga, 6, none⟩ = some (.int .i64 rn) ∧ w11.cell? ⟨ga, 7, none⟩ = some (.slice ra rl rc))) ∧ (w11.cell? ⟨db, 4, none⟩ = some (.slice ak s2.kn.length ck) ∧ w11.cell? ⟨db, 5, none⟩ = some (.slice ap (s2.uss.length - s2.k) cp) ∧ w11.cell? ⟨db, 6, none⟩ = some (.slice ao s2.op.length co)) := ⟨⟨⟨HK11.out.kb.c0, HK11.out.kb.c1⟩, ⟨HAB11.out.c0, HAB11.out.up.1, HAB11.out.up.2.1, HAB11.out.up.2.2.1, HAB11.out.up.2.2.2, HAB11.out.rd.1, HAB11.out.rd.2.1, HAB11.out.rd.2.2⟩⟩, ⟨HV11.out.c4, HV11.out.c5, HV11.out.c6⟩⟩
                  clear hb
                  go_wp2_with fail
                  refine hK.out _ _ ?_ (fun hH => ?_)
                  · exact hs11
                  clear hK K
                  try simp only [pt]
                  refine tkH 26 ?_ ?_ ?_
                  rotate_left
                  · intro w hSw
                    try dsimp only at hSw
                    obtain ⟨⟨⟨q0, q1⟩, _⟩, d4, d5, d6⟩ := hSw
                    go_simp
                    all_goals with_reducible rfl
                  try simp only [pt]
                  refine tkH 27 ?_ ?_ ?_
                  rotate_left
                  · intro w hSw
                    try dsimp only at hSw
                    obtain ⟨⟨⟨q0, q1⟩, _⟩, d4, d5, d6⟩ := hSw
                    go_simp
                    all_goals with_reducible rfl
                  try simp only [pt]
                  refine tkH 28 ?_ ?_ ?_
                  rotate_left
                  · intro w hSw
                    try dsimp only at hSw
                    obtain ⟨⟨⟨q0, q1⟩, _⟩, d4, d5, d6⟩ := hSw
                    go_simp
                    all_goals with_reducible rfl
                  try simp only [pt]
                  refine tkH 29 ?_ ?_ ?_
                  rotate_left
                  · intro w hSw
                    try dsimp only at hSw
                    obtain ⟨⟨⟨q0, q1⟩, _⟩, d4, d5, d6⟩ := hSw
                    go_simp
                    all_goals with_reducible rfl
                  try simp only [pt]
                  refine tkH 30 ?_ ?_ ?_
                  rotate_left
                  · intro w hSw
                    try dsimp only at hSw
                    obtain ⟨⟨⟨q0, q1⟩, _⟩, d4, d5, d6⟩ := hSw
                    go_simp
                    all_goals with_reducible rfl
                  try simp only [pt]
                  refine tkH 33 ?_ ?_ ?_
                  rotate_left
                  · intro w hSw
                    try dsimp only at hSw
                    obtain ⟨⟨⟨q0, q1⟩, _⟩, d4, d5, d6⟩ := hSw
                    go_simp
                    all_goals with_reducible rfl
                  try simp only [pt]
                  refine tkH 34 ?_ ?_ ?_
                  rotate_left
                  · intro w hSw
                    try dsimp only at hSw
                    obtain ⟨⟨⟨q0, q1⟩, _⟩, d4, d5, d6⟩ := hSw
                    go_simp
                    all_goals with_reducible rfl
                  try simp only [pt]
                  refine tkH 35 ?_ ?_ ?_
                  rotate_left
                  · intro w hSw
                    try dsimp only at hSw
                    obtain ⟨⟨⟨q0, q1⟩, _⟩, d4, d5, d6⟩ := hSw
                    go_simp
                    all_goals with_reducible rfl
                  try simp only [pt]
                  refine tkH 36 ?_ ?_ ?_
                  rotate_left
                  · intro w hSw
                    try dsimp only at hSw
                    obtain ⟨⟨⟨q0, q1⟩, _⟩, d4, d5, d6⟩ := hSw
                    go_simp
                    all_goals with_reducible rfl
                  try simp only [pt]
                  refine tkH 37 ?_ ?_ ?_
                  rotate_left
                  · intro w hSw
                    try dsimp only at hSw
                    obtain ⟨⟨⟨q0, q1⟩, _⟩, d4, d5, d6⟩ := hSw
                    go_simp
                    all_goals with_reducible rfl
                  try simp only [pt]
                  refine tkH 38 ?_ ?_ ?_
                  rotate_left
                  · intro w hSw
                    try dsimp only at hSw
                    obtain ⟨⟨⟨q0, q1⟩, _⟩, d4, d5, d6⟩ := hSw
                    go_simp
                    all_goals with_reducible rfl
                  try simp only [pt]
                  refine wpAnyH_ready (rs := [31]) (by kernel_rfl) (by simp) ?_
                  refine rdH (fun K hK => ?_) ?_
                  · go_simp
                    refine (copen_any (s := s2) HO.out.so.sm w11 HK11.out.kq.pk).mono ?_
                    rintro e w12 ⟨rfl, hrw, hb⟩
                    have HIO := Lib.hid hrw.is
                    have HK12 := Lib.hid (HK11.out.next hb)
                    have HV12 := Lib.hid (HV11.out.next hb)
                    have HAB12 := Lib.hid (HAB11.out.next hb)
                    have hs12 : ((w12.cell? ⟨g, 0, none⟩ = some (.pointer (some ⟨cb, 0, none⟩)) ∧ w12.cell? ⟨g, 1, none⟩ = some (.pointer (some ⟨db, 0, none⟩))) ∧ (w12.cell? ⟨ga, 0, none⟩ = some (.int .i64 kd) ∧ w12.cell? ⟨ga, 1, none⟩ = some (.string uk) ∧ w12.cell? ⟨ga, 2, none⟩ = some (.int .i64 ux) ∧ w12.cell? ⟨ga, 3, none⟩ = some (.int .i64 un) ∧ w12.cell? ⟨ga, 4, none⟩ = some (.string ut) ∧ w12.cell? ⟨ga, 5, none⟩ = some (.int .i64 ro) ∧ w12.cell? ⟨ga, 6, none⟩ = some (.int .i64 rn) ∧ w12.cell? ⟨ga, 7, none⟩ = some (.slice ra rl rc))) ∧ (w12.cell? ⟨db, 4, none⟩ = some (.slice ak s2.kn.length ck) ∧ w12.cell? ⟨db, 5, none⟩ = some (.slice ap (s2.uss.length - s2.k) cp) ∧ w12.cell? ⟨db, 6, none⟩ = some (.slice ao s2.op.length co)) := ⟨⟨⟨HK12.out.kb.c0, HK12.out.kb.c1⟩, ⟨HAB12.out.c0, HAB12.out.up.1, HAB12.out.up.2.1, HAB12.out.up.2.2.1, HAB12.out.up.2.2.2, HAB12.out.rd.1, HAB12.out.rd.2.1, HAB12.out.rd.2.2⟩⟩, ⟨HV12.out.c4, HV12.out.c5, HV12.out.c6⟩⟩
                    clear hrw
                    clear hb
                    go_wp2_with fail
                    refine hK.out _ _ ?_ (fun hH => ?_)
                    · exact hs12
                    clear hK K
                    try simp only [pt]
                    refine tkH 32 ?_ ?_ ?_
                    rotate_left
                    · intro w hSw
                      try dsimp only at hSw
                      obtain ⟨⟨⟨q0, q1⟩, _⟩, d4, d5, d6⟩ := hSw
                      go_simp
                      all_goals with_reducible rfl
                    try simp only [pt]
                    refine wpAnyH_ready (rs := [39]) (by kernel_rfl) (by simp) ?_
                    refine rdH (fun K hK => ?_) ?_
                    · go_simp
                      refine (ds_yes 0 0 (some ⟨w11.heap.size + 2, 0, none⟩) ao s2.op.length s2.op.length co s2.op (by omega) w12 HIO.out HV12.out.ou).mono ?_
                      rintro e w13 ⟨rfl, hb⟩
                      have HK13 := Lib.hid (HK12.out.next hb)
                      have HV13 := Lib.hid (HV12.out.next hb)
                      have HAB13 := Lib.hid (HAB12.out.next hb)
                      have hs13 : ((w13.cell? ⟨g, 0, none⟩ = some (.pointer (some ⟨cb, 0, none⟩)) ∧ w13.cell? ⟨g, 1, none⟩ = some (.pointer (some ⟨db, 0, none⟩))) ∧ (w13.cell? ⟨ga, 0, none⟩ = some (.int .i64 kd) ∧ w13.cell? ⟨ga, 1, none⟩ = some (.string uk) ∧ w13.cell? ⟨ga, 2, none⟩ = some (.int .i64 ux) ∧ w13.cell? ⟨ga, 3, none⟩ = some (.int .i64 un) ∧ w13.cell? ⟨ga, 4, none⟩ = some (.string ut) ∧ w13.cell? ⟨ga, 5, none⟩ = some (.int .i64 ro) ∧ w13.cell? ⟨ga, 6, none⟩ = some (.int .i64 rn) ∧ w13.cell? ⟨ga, 7, none⟩ = some (.slice ra rl rc))) ∧ (w13.cell? ⟨db, 4, none⟩ = some (.slice ak s2.kn.length ck) ∧ w13.cell? ⟨db, 5, none⟩ = some (.slice ap (s2.uss.length - s2.k) cp) ∧ w13.cell? ⟨db, 6, none⟩ = some (.slice ao s2.op.length co)) := ⟨⟨⟨HK13.out.kb.c0, HK13.out.kb.c1⟩, ⟨HAB13.out.c0, HAB13.out.up.1, HAB13.out.up.2.1, HAB13.out.up.2.2.1, HAB13.out.up.2.2.2, HAB13.out.rd.1, HAB13.out.rd.2.1, HAB13.out.rd.2.2⟩⟩, ⟨HV13.out.c4, HV13.out.c5, HV13.out.c6⟩⟩
                      clear hb
                      go_wp2_with fail
                      refine hK.out _ _ ?_ (fun hH => ?_)
                      · exact hs13
                      clear hK K
                      try simp only [pt]
                      refine tkH 40 ?_ ?_ ?_
                      rotate_left
                      · intro w hSw
                        try dsimp only at hSw
                        obtain ⟨⟨⟨q0, q1⟩, _⟩, d4, d5, d6⟩ := hSw
                        go_simp
                        all_goals with_reducible rfl
                      try simp only [pt]
                      refine tkH 41 ?_ ?_ ?_
                      rotate_left
                      · intro w hSw
                        try dsimp only at hSw
                        obtain ⟨⟨⟨q0, q1⟩, _⟩, d4, d5, d6⟩ := hSw
                        go_simp
                        all_goals with_reducible rfl
                      try simp only [pt]
                      refine wpAnyH_done (by kernel_rfl) ?_ _
                      clear hs7 hs8 hs9 hs10 hs11 hs12 hs13
                      go_wp2_with fail
                      have hp0 : (((s2.uss.length - s2.k : Nat) : Int) == 0) = decide (s2.k = s2.uss.length) := by
                        by_cases e : s2.k = s2.uss.length
                        · rw [decide_eq_true e, beq_iff_eq]; omega
                        · rw [decide_eq_false e]; exact beq_false_of_ne (by omega)
                      have ho0 : (((s2.op.length : Nat) : Int) == 0) = decide (s2.op.length = 0) := by
                        by_cases e : s2.op.length = 0
                        · rw [decide_eq_true e, beq_iff_eq]; omega
                        · rw [decide_eq_false e]; exact beq_false_of_ne (by omega)
                      have HK14 := Lib.hid (HK13.out.next (Below.refl _ _).drew)
                      have HV14 := Lib.hid (HV13.out.next (Below.refl _ _).drew)
                      clear HK HAB HFF HK7 HV7 HAB7 HK8 HV8 HAB8 HK9 HV9 HAB9 HK10 HV10 HAB10 HK11 HV11 HAB11 HK12 HV12 HAB12 HAB13 HIK HMK HIP HMP HIO
                      obtain ⟨bp, hbp⟩ : ∃ b, decide (s2.k = s2.uss.length) = b := ⟨_, rfl⟩
                      obtain ⟨bo, hbo⟩ : ∃ b, decide (s2.op.length = 0) = b := ⟨_, rfl⟩
                      have hconf : (decide (s2.k = s2.uss.length) && decide (s2.op.length = 0)) = (bp && bo) := by rw [hbp, hbo]
                      rw [hbp] at hp0
                      rw [hbo] at ho0
                      clear hbp hbo
                      cases bp with
                      | true =>
                        cases bo with
                        | true =>
                          refine wp_region_held_drew (S := fun w' => (w'.cell? ⟨g, 0, none⟩ = some (.pointer (some ⟨cb, 0, none⟩)) ∧ w'.cell? ⟨g, 1, none⟩ = some (.pointer (some ⟨db, 0, none⟩))) ∧ (w'.cell? ⟨db, 4, none⟩ = some (.slice ak s2.kn.length ck) ∧ w'.cell? ⟨db, 5, none⟩ = some (.slice ap (s2.uss.length - s2.k) cp) ∧ w'.cell? ⟨db, 6, none⟩ = some (.slice ao s2.op.length co))) (by kernel_rfl) ?_ (fun hs14 => ?_)
                          · exact ⟨⟨HK14.out.kb.c0, HK14.out.kb.c1⟩, ⟨HV14.out.c4, HV14.out.c5, HV14.out.c6⟩⟩
                          refine tkH 0 ?_ ?_ ?_
                          rotate_left
                          · intro w hSw
                            try dsimp only at hSw
                            obtain ⟨⟨q0, q1⟩, d4, d5, d6⟩ := hSw
                            go_simp
                            all_goals with_reducible rfl
                          try simp only [pt]
                          refine tkH 1 ?_ ?_ ?_
                          rotate_left
                          · intro w hSw
                            try dsimp only at hSw
                            obtain ⟨⟨q0, q1⟩, d4, d5, d6⟩ := hSw
                            go_simp
                            all_goals with_reducible rfl
                          try simp only [pt]
                          refine tkH 3 ?_ ?_ ?_
                          rotate_left
                          · intro w hSw
                            try dsimp only at hSw
                            obtain ⟨⟨q0, q1⟩, d4, d5, d6⟩ := hSw
                            go_simp
                            all_goals with_reducible rfl
                          try simp only [pt]
                          refine tkH 4 ?_ ?_ ?_
                          rotate_left
                          · intro w hSw
                            try dsimp only at hSw
                            obtain ⟨⟨q0, q1⟩, d4, d5, d6⟩ := hSw
                            go_simp
                            all_goals with_reducible rfl
                          try simp only [pt]
                          refine tkH 5 ?_ ?_ ?_
                          rotate_left
                          · intro w hSw
                            try dsimp only at hSw
                            obtain ⟨⟨q0, q1⟩, d4, d5, d6⟩ := hSw
                            go_simp
                            all_goals with_reducible rfl
                          try simp only [pt]
                          refine tkH 6 ?_ ?_ ?_
                          rotate_left
                          · intro w hSw
                            try dsimp only at hSw
                            obtain ⟨⟨q0, q1⟩, d4, d5, d6⟩ := hSw
                            go_simp
                            all_goals with_reducible rfl
                          try simp only [pt]
                          refine tkH 7 ?_ ?_ ?_
                          rotate_left
                          · intro w hSw
                            try dsimp only at hSw
                            obtain ⟨⟨q0, q1⟩, d4, d5, d6⟩ := hSw
                            go_simp
                            all_goals with_reducible rfl
                          try simp only [pt]
                          refine tkH 8 ?_ ?_ ?_
                          rotate_left
                          · intro w hSw
                            try dsimp only at hSw
                            obtain ⟨⟨q0, q1⟩, d4, d5, d6⟩ := hSw
                            go_simp
                            all_goals with_reducible rfl
                          try simp only [pt]
                          refine tkH 9 ?_ ?_ ?_
                          rotate_left
                          · intro w hSw
                            try dsimp only at hSw
                            obtain ⟨⟨q0, q1⟩, d4, d5, d6⟩ := hSw
                            go_simp
                            all_goals with_reducible rfl
                          try simp only [pt]
                          refine wpAnyH_ready (rs := [2]) (by kernel_rfl) (by simp) ?_
                          refine rdH (fun K hK => ?_) ?_
                          · go_simp
                            refine (cconf_any (s := s2) HO.out.k (by omega) w13.drew HK14.out.kq.pk).mono ?_
                            rintro e w15 ⟨rfl, hb⟩
                            rw [hconf]
                            have HK15 := Lib.hid (HK14.out.next hb)
                            have HV15 := Lib.hid (HV14.out.next hb)
                            have hs15 : (w15.cell? ⟨g, 0, none⟩ = some (.pointer (some ⟨cb, 0, none⟩)) ∧ w15.cell? ⟨g, 1, none⟩ = some (.pointer (some ⟨db, 0, none⟩))) ∧ (w15.cell? ⟨db, 4, none⟩ = some (.slice ak s2.kn.length ck) ∧ w15.cell? ⟨db, 5, none⟩ = some (.slice ap (s2.uss.length - s2.k) cp) ∧ w15.cell? ⟨db, 6, none⟩ = some (.slice ao s2.op.length co)) := ⟨⟨HK15.out.kb.c0, HK15.out.kb.c1⟩, ⟨HV15.out.c4, HV15.out.c5, HV15.out.c6⟩⟩
                            clear hb
                            go_wp2_with fail
                            refine hK.out _ _ ?_ (fun hH => ?_)
                            · exact hs15
                            clear hK K
                            try simp only [pt]
                            refine tkH 10 ?_ ?_ ?_
                            rotate_left
                            · intro w hSw
                              try dsimp only at hSw
                              obtain ⟨⟨q0, q1⟩, d4, d5, d6⟩ := hSw
                              go_simp
                              all_goals with_reducible rfl
                            try simp only [pt]
                            refine tkH 11 ?_ ?_ ?_
                            rotate_left
                            · intro w hSw
                              try dsimp only at hSw
                              obtain ⟨⟨q0, q1⟩, d4, d5, d6⟩ := hSw
                              go_simp
                              all_goals with_reducible rfl
                            try simp only [pt]
                            refine tkH 12 ?_ ?_ ?_
                            rotate_left
                            · intro w hSw
                              try dsimp only at hSw
                              obtain ⟨⟨q0, q1⟩, d4, d5, d6⟩ := hSw
                              go_simp
                              all_goals with_reducible rfl
                            try simp only [pt]
                            refine tkH 13 ?_ ?_ ?_
                            rotate_left
                            · intro w hSw
                              try dsimp only at hSw
                              obtain ⟨⟨q0, q1⟩, d4, d5, d6⟩ := hSw
                              go_simp
                              all_goals with_reducible rfl
                            try simp only [pt]
                            refine tkH 14 ?_ ?_ ?_
                            rotate_left
                            · intro w hSw
                              try dsimp only at hSw
                              obtain ⟨⟨q0, q1⟩, d4, d5, d6⟩ := hSw
                              go_simp
                              all_goals with_reducible rfl
                            try simp only [pt]
                            refine tkH 15 ?_ ?_ ?_
                            rotate_left
                            · intro w hSw
                              try dsimp only at hSw
                              obtain ⟨⟨q0, q1⟩, d4, d5, d6⟩ := hSw
                              go_simp
                              all_goals with_reducible rfl
                            try simp only [pt]
                            refine tkH 16 ?_ ?_ ?_
                            rotate_left
                            · intro w hSw
                              try dsimp only at hSw
                              obtain ⟨⟨q0, q1⟩, d4, d5, d6⟩ := hSw
                              go_simp
                              all_goals with_reducible rfl
                            try simp only [pt]
                            refine tkH 17 ?_ ?_ ?_
                            rotate_left
                            · intro w hSw
                              try dsimp only at hSw
                              obtain ⟨⟨q0, q1⟩, d4, d5, d6⟩ := hSw
                              go_simp
                              all_goals with_reducible rfl
                            try simp only [pt]
                            refine tkH 18 ?_ ?_ ?_
                            rotate_left
                            · intro w hSw
                              try dsimp only at hSw
                              obtain ⟨⟨q0, q1⟩, d4, d5, d6⟩ := hSw
                              go_simp
                              all_goals with_reducible rfl
                            try simp only [pt]
                            refine tkH 19 ?_ ?_ ?_
                            rotate_left
                            · intro w hSw
                              try dsimp only at hSw
                              obtain ⟨⟨q0, q1⟩, d4, d5, d6⟩ := hSw
                              go_simp
                              all_goals with_reducible rfl
                            try simp only [pt]
                            refine wpAnyH_done (by kernel_rfl) ?_ _
                            clear hs14 hs15
                            go_wp2
                            go_roundw
                            case rel => exact ⟨k + 1, by omega, by go_num, P2, D2, s2, HK15.out⟩
                            case measure => simp [intOf]; omega
                          exact AllReadyH.nil
                        | false =>
                          refine wp_region_held_drew (S := fun w' => (w'.cell? ⟨g, 0, none⟩ = some (.pointer (some ⟨cb, 0, none⟩)) ∧ w'.cell? ⟨g, 1, none⟩ = some (.pointer (some ⟨db, 0, none⟩))) ∧ (w'.cell? ⟨db, 4, none⟩ = some (.slice ak s2.kn.length ck) ∧ w'.cell? ⟨db, 5, none⟩ = some (.slice ap (s2.uss.length - s2.k) cp) ∧ w'.cell? ⟨db, 6, none⟩ = some (.slice ao s2.op.length co))) (by kernel_rfl) ?_ (fun hs14 => ?_)
                          · exact ⟨⟨HK14.out.kb.c0, HK14.out.kb.c1⟩, ⟨HV14.out.c4, HV14.out.c5, HV14.out.c6⟩⟩
                          refine tkH 0 ?_ ?_ ?_
                          rotate_left
                          · intro w hSw
                            try dsimp only at hSw
                            obtain ⟨⟨q0, q1⟩, d4, d5, d6⟩ := hSw
                            go_simp
                            all_goals with_reducible rfl
                          try simp only [pt]
                          refine tkH 1 ?_ ?_ ?_
                          rotate_left
                          · intro w hSw
                            try dsimp only at hSw
                            obtain ⟨⟨q0, q1⟩, d4, d5, d6⟩ := hSw
                            go_simp
                            all_goals with_reducible rfl
                          try simp only [pt]
                          refine tkH 3 ?_ ?_ ?_
                          rotate_left
                          · intro w hSw
                            try dsimp only at hSw
                            obtain ⟨⟨q0, q1⟩, d4, d5, d6⟩ := hSw
                            go_simp
                            all_goals with_reducible rfl
                          try simp only [pt]
                          refine tkH 4 ?_ ?_ ?_
                          rotate_left
                          · intro w hSw
                            try dsimp only at hSw
                            obtain ⟨⟨q0, q1⟩, d4, d5, d6⟩ := hSw
                            go_simp
                            all_goals with_reducible rfl
                          try simp only [pt]
                          refine tkH 5 ?_ ?_ ?_
                          rotate_left
                          · intro w hSw
                            try dsimp only at hSw
                            obtain ⟨⟨q0, q1⟩, d4, d5, d6⟩ := hSw
                            go_simp
                            all_goals with_reducible rfl
                          try simp only [pt]
                          refine tkH 6 ?_ ?_ ?_
                          rotate_left
                          · intro w hSw
                            try dsimp only at hSw
                            obtain ⟨⟨q0, q1⟩, d4, d5, d6⟩ := hSw
                            go_simp
                            all_goals with_reducible rfl
                          try simp only [pt]
                          refine tkH 7 ?_ ?_ ?_
                          rotate_left
                          · intro w hSw
                            try dsimp only at hSw
                            obtain ⟨⟨q0, q1⟩, d4, d5, d6⟩ := hSw
                            go_simp
                            all_goals with_reducible rfl
                          try simp only [pt]
                          refine tkH 8 ?_ ?_ ?_
                          rotate_left
                          · intro w hSw
                            try dsimp only at hSw
                            obtain ⟨⟨q0, q1⟩, d4, d5, d6⟩ := hSw
                            go_simp
                            all_goals with_reducible rfl
                          try simp only [pt]
                          refine tkH 9 ?_ ?_ ?_
                          rotate_left
                          · intro w hSw
                            try dsimp only at hSw
                            obtain ⟨⟨q0, q1⟩, d4, d5, d6⟩ := hSw
                            go_simp
                            all_goals with_reducible rfl
                          try simp only [pt]
                          refine wpAnyH_ready (rs := [2]) (by kernel_rfl) (by simp) ?_
                          refine rdH (fun K hK => ?_) ?_
                          · go_simp
                            refine (cconf_any (s := s2) HO.out.k (by omega) w13.drew HK14.out.kq.pk).mono ?_
                            rintro e w15 ⟨rfl, hb⟩
                            rw [hconf]
                            have HK15 := Lib.hid (HK14.out.next hb)
                            have HV15 := Lib.hid (HV14.out.next hb)
                            have hs15 : (w15.cell? ⟨g, 0, none⟩ = some (.pointer (some ⟨cb, 0, none⟩)) ∧ w15.cell? ⟨g, 1, none⟩ = some (.pointer (some ⟨db, 0, none⟩))) ∧ (w15.cell? ⟨db, 4, none⟩ = some (.slice ak s2.kn.length ck) ∧ w15.cell? ⟨db, 5, none⟩ = some (.slice ap (s2.uss.length - s2.k) cp) ∧ w15.cell? ⟨db, 6, none⟩ = some (.slice ao s2.op.length co)) := ⟨⟨HK15.out.kb.c0, HK15.out.kb.c1⟩, ⟨HV15.out.c4, HV15.out.c5, HV15.out.c6⟩⟩
                            clear hb
                            go_wp2_with fail
                            refine hK.out _ _ ?_ (fun hH => ?_)
                            · exact hs15
                            clear hK K
                            try simp only [pt]
                            refine tkH 10 ?_ ?_ ?_
                            rotate_left
                            · intro w hSw
                              try dsimp only at hSw
                              obtain ⟨⟨q0, q1⟩, d4, d5, d6⟩ := hSw
                              go_simp
                              all_goals with_reducible rfl
                            try simp only [pt]
                            refine tkH 11 ?_ ?_ ?_
                            rotate_left
                            · intro w hSw
                              try dsimp only at hSw
                              obtain ⟨⟨q0, q1⟩, d4, d5, d6⟩ := hSw
                              go_simp
                              all_goals with_reducible rfl
                            try simp only [pt]
                            refine tkH 12 ?_ ?_ ?_
                            rotate_left
                            · intro w hSw
                              try dsimp only at hSw
                              obtain ⟨⟨q0, q1⟩, d4, d5, d6⟩ := hSw
                              go_simp
                              all_goals with_reducible rfl
                            try simp only [pt]
                            refine tkH 13 ?_ ?_ ?_
                            rotate_left
                            · intro w hSw
                              try dsimp only at hSw
                              obtain ⟨⟨q0, q1⟩, d4, d5, d6⟩ := hSw
                              go_simp
                              all_goals with_reducible rfl
                            try simp only [pt]
                            refine tkH 14 ?_ ?_ ?_
                            rotate_left
                            · intro w hSw
                              try dsimp only at hSw
                              obtain ⟨⟨q0, q1⟩, d4, d5, d6⟩ := hSw
                              go_simp
                              all_goals with_reducible rfl
                            try simp only [pt]
                            refine tkH 15 ?_ ?_ ?_
                            rotate_left
                            · intro w hSw
                              try dsimp only at hSw
                              obtain ⟨⟨q0, q1⟩, d4, d5, d6⟩ := hSw
                              go_simp
                              all_goals with_reducible rfl
                            try simp only [pt]
                            refine tkH 16 ?_ ?_ ?_
                            rotate_left
                            · intro w hSw
                              try dsimp only at hSw
                              obtain ⟨⟨q0, q1⟩, d4, d5, d6⟩ := hSw
                              go_simp
                              all_goals with_reducible rfl
                            try simp only [pt]
                            refine tkH 17 ?_ ?_ ?_
                            rotate_left
                            · intro w hSw
                              try dsimp only at hSw
                              obtain ⟨⟨q0, q1⟩, d4, d5, d6⟩ := hSw
                              go_simp
                              all_goals with_reducible rfl
                            try simp only [pt]
                            refine tkH 18 ?_ ?_ ?_
                            rotate_left
                            · intro w hSw
                              try dsimp only at hSw
                              obtain ⟨⟨q0, q1⟩, d4, d5, d6⟩ := hSw
                              go_simp
                              all_goals with_reducible rfl
                            try simp only [pt]
                            refine tkH 19 ?_ ?_ ?_
                            rotate_left
                            · intro w hSw
                              try dsimp only at hSw
                              obtain ⟨⟨q0, q1⟩, d4, d5, d6⟩ := hSw
                              go_simp
                              all_goals with_reducible rfl
                            try simp only [pt]
                            refine wpAnyH_done (by kernel_rfl) ?_ _
                            clear hs14 hs15
                            go_wp2
                            go_roundw
                            case rel => exact ⟨k + 1, by omega, by go_num, P2, D2, s2, HK15.out⟩
                            case measure => simp [intOf]; omega
                          exact AllReadyH.nil
                      | false =>
                        refine wp_region_held_drew (S := fun w' => (w'.cell? ⟨g, 0, none⟩ = some (.pointer (some ⟨cb, 0, none⟩)) ∧ w'.cell? ⟨g, 1, none⟩ = some (.pointer (some ⟨db, 0, none⟩))) ∧ (w'.cell? ⟨db, 4, none⟩ = some (.slice ak s2.kn.length ck) ∧ w'.cell? ⟨db, 5, none⟩ = some (.slice ap (s2.uss.length - s2.k) cp) ∧ w'.cell? ⟨db, 6, none⟩ = some (.slice ao s2.op.length co))) (by kernel_rfl) ?_ (fun hs14 => ?_)
                        · exact ⟨⟨HK14.out.kb.c0, HK14.out.kb.c1⟩, ⟨HV14.out.c4, HV14.out.c5, HV14.out.c6⟩⟩
                        refine tkH 0 ?_ ?_ ?_
                        rotate_left
                        · intro w hSw
                          try dsimp only at hSw
                          obtain ⟨⟨q0, q1⟩, d4, d5, d6⟩ := hSw
                          go_simp
                          all_goals with_reducible rfl
                        try simp only [pt]
                        refine tkH 1 ?_ ?_ ?_
                        rotate_left
                        · intro w hSw
                          try dsimp only at hSw
                          obtain ⟨⟨q0, q1⟩, d4, d5, d6⟩ := hSw
                          go_simp
                          all_goals with_reducible rfl
                        try simp only [pt]
                        refine tkH 3 ?_ ?_ ?_
                        rotate_left
                        · intro w hSw
                          try dsimp only at hSw
                          obtain ⟨⟨q0, q1⟩, d4, d5, d6⟩ := hSw
                          go_simp
                          all_goals with_reducible rfl
                        try simp only [pt]
                        refine tkH 4 ?_ ?_ ?_
                        rotate_left
                        · intro w hSw
                          try dsimp only at hSw
                          obtain ⟨⟨q0, q1⟩, d4, d5, d6⟩ := hSw
                          go_simp
                          all_goals with_reducible rfl
                        try simp only [pt]
                        refine tkH 5 ?_ ?_ ?_
                        rotate_left
                        · intro w hSw
                          try dsimp only at hSw
                          obtain ⟨⟨q0, q1⟩, d4, d5, d6⟩ := hSw
                          go_simp
                          all_goals with_reducible rfl
                        try simp only [pt]
                        refine tkH 6 ?_ ?_ ?_
                        rotate_left
                        · intro w hSw
                          try dsimp only at hSw
                          obtain ⟨⟨q0, q1⟩, d4, d5, d6⟩ := hSw
                          go_simp
                          all_goals with_reducible rfl
                        try simp only [pt]
                        refine tkH 7 ?_ ?_ ?_
                        rotate_left
                        · intro w hSw
                          try dsimp only at hSw
                          obtain ⟨⟨q0, q1⟩, d4, d5, d6⟩ := hSw
                          go_simp
                          all_goals with_reducible rfl
                        try simp only [pt]
                        refine tkH 8 ?_ ?_ ?_
                        rotate_left
                        · intro w hSw
                          try dsimp only at hSw
                          obtain ⟨⟨q0, q1⟩, d4, d5, d6⟩ := hSw
                          go_simp
                          all_goals with_reducible rfl
                        try simp only [pt]
                        refine tkH 9 ?_ ?_ ?_
                        rotate_left
                        · intro w hSw
                          try dsimp only at hSw
                          obtain ⟨⟨q0, q1⟩, d4, d5, d6⟩ := hSw
                          go_simp
                          all_goals with_reducible rfl
                        try simp only [pt]
                        refine wpAnyH_ready (rs := [2]) (by kernel_rfl) (by simp) ?_
                        refine rdH (fun K hK => ?_) ?_
                        · go_simp
                          refine (cconf_any (s := s2) HO.out.k (by omega) w13.drew HK14.out.kq.pk).mono ?_
                          rintro e w15 ⟨rfl, hb⟩
                          rw [hconf]
                          have HK15 := Lib.hid (HK14.out.next hb)
                          have HV15 := Lib.hid (HV14.out.next hb)
                          have hs15 : (w15.cell? ⟨g, 0, none⟩ = some (.pointer (some ⟨cb, 0, none⟩)) ∧ w15.cell? ⟨g, 1, none⟩ = some (.pointer (some ⟨db, 0, none⟩))) ∧ (w15.cell? ⟨db, 4, none⟩ = some (.slice ak s2.kn.length ck) ∧ w15.cell? ⟨db, 5, none⟩ = some (.slice ap (s2.uss.length - s2.k) cp) ∧ w15.cell? ⟨db, 6, none⟩ = some (.slice ao s2.op.length co)) := ⟨⟨HK15.out.kb.c0, HK15.out.kb.c1⟩, ⟨HV15.out.c4, HV15.out.c5, HV15.out.c6⟩⟩
                          clear hb
                          go_wp2_with fail
                          refine hK.out _ _ ?_ (fun hH => ?_)
                          · exact hs15
                          clear hK K
                          try simp only [pt]
                          refine tkH 10 ?_ ?_ ?_
                          rotate_left
                          · intro w hSw
                            try dsimp only at hSw
                            obtain ⟨⟨q0, q1⟩, d4, d5, d6⟩ := hSw
                            go_simp
                            all_goals with_reducible rfl
                          try simp only [pt]
                          refine skH 11 ?_
                          try simp only [pt]
                          refine skH 12 ?_
                          try simp only [pt]
                          refine skH 13 ?_
                          try simp only [pt]
                          refine skH 14 ?_
                          try simp only [pt]
                          refine skH 15 ?_
                          try simp only [pt]
                          refine skH 16 ?_
                          try simp only [pt]
                          refine skH 17 ?_
                          try simp only [pt]
                          refine tkH 18 ?_ ?_ ?_
                          rotate_left
                          · intro w hSw
                            try dsimp only at hSw
                            obtain ⟨⟨q0, q1⟩, d4, d5, d6⟩ := hSw
                            go_simp
                            all_goals with_reducible rfl
                          try simp only [pt]
                          refine tkH 19 ?_ ?_ ?_
                          rotate_left
                          · intro w hSw
                            try dsimp only at hSw
                            obtain ⟨⟨q0, q1⟩, d4, d5, d6⟩ := hSw
                            go_simp
                            all_goals with_reducible rfl
                          try simp only [pt]
                          refine wpAnyH_done (by kernel_rfl) ?_ _
                          clear hs14 hs15
                          go_wp2
                          go_roundw
                          case rel => exact ⟨k + 1, by omega, by go_num, P2, D2, s2, HK15.out⟩
                          case measure => simp [intOf]; omega
                        exact AllReadyH.nil
                    exact AllReadyH.nil
                  exact AllReadyH.nil
                exact AllReadyH.nil
              exact AllReadyH.nil
            exact AllReadyH.nil
          exact AllReadyH.nil
        exact AllReadyH.nil
      · obtain rfl : k = len := by omega
        have H9 := Lib.hid hst
        clear hst
        go_wp2
        go_ret
        exact ⟨rfl, Below.next HB0.out H9.out.bel⟩
end Go.Proofs.YtbbgibekplfacaaDoor
