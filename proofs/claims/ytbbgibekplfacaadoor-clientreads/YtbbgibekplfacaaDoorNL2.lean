/- The walk of ClientReads. -/
import Derived.Test.YtbbgibekplfacaaDoorRH
import Derived.Test.YtbbgibekplfacaaDoorNG
namespace Go.Proofs.YtbbgibekplfacaaDoor
open Go Go.RowKit
set_option maxRecDepth 20000
set_option maxHeartbeats 16000000 in
theorem walkReads (x0 x1 x2 x3 : Int) (a : Option Addr) (len cap : Nat) (l : List Ac) (key : ByteArray) (w : World) (hd : X.Wd w) (h : IsAs w a len l) :
    Calls Tryd.prog 4 #[.agg #[.int .i64 x0, .int .i64 x1, .int .i64 x2, .int .i64 x3], .slice a len cap, .string key] w fun e w' => e = .returned (.bool true) ∧ Below w.heap.size w w' := by
  have hA := Joins.below_alloc1 w (.cells #[.int .i64 x0, .int .i64 x1, .int .i64 x2, .int .i64 x3] 22)
  have hx : (w.alloc (.cells #[.int .i64 x0, .int .i64 x1, .int .i64 x2, .int .i64 x3] 22)).heap[w.heap.size]? = some (.cells #[.int .i64 x0, .int .i64 x1, .int .i64 x2, .int .i64 x3] 22 (0, 0)) := heap_alloc_new w _
  have b0 := cell_at hx 0 _ rfl
  have b1 := cell_at hx 1 _ rfl
  have b2 := cell_at hx 2 _ rfl
  have b3 := cell_at hx 3 _ rfl
  have HX := Lib.hid hx
  have HB0 := Lib.hid hA
  have HD := Lib.hid (hd.below hA)
  have H := Lib.hid (isAs_below h hA)
  clear hx hA hd h
  go_enter Tryd.func4, Tryd.ntmps4
  go_wp2_with fail
  clear b0 b1 b2 b3
  generalize w.heap.size = xb at HX ⊢
  generalize w.alloc (.cells #[.int .i64 x0, .int .i64 x1, .int .i64 x2, .int .i64 x3] 22) = W at *
  refine (made_any x0 x1 x2 x3 W).mono ?_
  rintro e w1 ⟨cb, db, rfl, P0, D0, hq⟩
  have hk := Kl.start hq
  have k0 := hk.kb.c0
  have HK1 := Lib.hid hk
  clear hk hq
  go_wp2_with fail
  clear k0
  generalize w1.heap.size = g at *
  generalize w1.alloc (.cells #[.pointer (some ⟨cb, 0, none⟩), .pointer (some ⟨db, 0, none⟩)] 27) = w2 at *
  refine (awake_any w2 (HD.out.below HK1.out.bel)).mono ?_
  rintro e w3 ⟨rfl, hb⟩
  have HK2 := Lib.hid (HK1.out.next hb)
  have k0 := HK2.out.kb.c0
  clear hb HK1
  go_wp2_with fail
  clear k0
  refine (great_any a len cap l w3 (isAs_below H.out HK2.out.bel)).mono ?_
  rintro e w4 ⟨⟨bt, rfl, hok⟩, hb⟩
  have HK3 := Lib.hid (HK2.out.next hb)
  clear hb HK2
  cases bt with
  | true =>
    clear hok
    go_wp2_with fail
    refine (awake_any w4 (HD.out.below HK3.out.bel)).mono ?_
    rintro e w5 ⟨rfl, hb⟩
    have HK4 := Lib.hid (HK3.out.next hb)
    clear hb HK3
    go_wp2
    go_ret
    exact ⟨rfl, Below.next HB0.out HK4.out.bel⟩
  | false =>
    obtain ⟨hl50, hok⟩ := hok rfl
    have HOK := Lib.hid hok
    clear hok
    by_cases hkey : 50 < key.size
    · have q : decide ((50 : Int) < (key.size : Int)) = true := decide_eq_true (by omega)
      go_wp2_with fail
      refine (awake_any w4 (HD.out.below HK3.out.bel)).mono ?_
      rintro e w5 ⟨rfl, hb⟩
      have HK4 := Lib.hid (HK3.out.next hb)
      clear hb HK3
      go_wp2
      go_ret
      exact ⟨rfl, Below.next HB0.out HK4.out.bel⟩
    have q : decide ((50 : Int) < (key.size : Int)) = false := decide_eq_false (by omega)
    clear hkey
    go_wp2_with fail
    go_loopw [31] (fun v wr => ∃ k : Nat, k ≤ len ∧ v = .int .i64 k ∧ ∃ P D s, Kl W wr g cb db P D k s) (fun v _ => len - (intOf v).toNat)
    case atStart => exact ⟨0, Nat.zero_le _, rfl, P0, D0, _, HK3.out⟩
    case round =>
      obtain ⟨k, hk, rfl, P, D, s, hst⟩ := hrel
      clear HK3
      by_cases hlt : k < len
      · have hbel := hst.bel
        obtain ⟨b, off, rfl, c0, c1, c2, c3, c4, c5, c6, c7⟩ := acells_of H.out hbel hlt
        have hru := H.out.each k hlt
        have hok := HOK.out k hlt
        generalize l.getD k ac0 = x at *
        obtain ⟨kd, ⟨uk, ux, un, ut⟩, ⟨ro, rn, ra, rl, rc, rus⟩⟩ := x
        simp only at c0 c1 c2 c3 c4 c5 c6 c7 hru
        have hA := Joins.below_alloc1 wr (.cells #[.int .i64 kd, .string uk, .int .i64 ux, .int .i64 un, .string ut, .int .i64 ro, .int .i64 rn, .slice ra rl rc] 37)
        have hab : Ab (wr.alloc (.cells #[.int .i64 kd, .string uk, .int .i64 ux, .int .i64 un, .string ut, .int .i64 ro, .int .i64 rn, .slice ra rl rc] 37)) wr.heap.size kd uk ux un ut ro rn ra rl rc := heap_alloc_new wr _
        have HLOW : Hid (0 < rl → ∀ g off, ra = some ⟨g, off, none⟩ → g < W.heap.size) := Lib.hid fun h0 g off e => Rn.us_in hru h0 e
        have HRU := Lib.hid ((hru.below hbel).below hA)
        have HOKA := Lib.hid hok
        have HAB := Lib.hid hab
        have HK := Lib.hid (hst.next hA)
        have hff : ¬ Kf W P D wr.heap.size := fun e => by have := hst.kq.foot _ e; omega
        have HFF := Lib.hid hff
        clear hbel hru hok hA hab hff hst
        have a0 := HAB.out.c0
        obtain ⟨a1, a2, a3, a4⟩ := HAB.out.up
        obtain ⟨a5, a6, a7⟩ := HAB.out.rd
        have k0 := HK.out.kb.c0
        have k1 := HK.out.kb.c1
        go_wp2_with fail
        refine (do_any kd uk ux un ut ro rn ra rl rc rus (by omega) (wr.alloc (.cells #[.int .i64 kd, .string uk, .int .i64 ux, .int .i64 un, .string ut, .int .i64 ro, .int .i64 rn, .slice ra rl rc] 37)) HD.out HOKA.out HRU.out HLOW.out HK.out.kq).mono ?_
        rintro e w7 ⟨rfl, P2, D2, hdo⟩
        have HK7 := Lib.hid (HK.out.step hdo)
        clear hdo
        clear a0 a1 a2 a3 a4 a5 a6 a7 k0 k1
        generalize s.act (kd, (uk, ux, un, ut), ⟨ro, rn, ra, rl, rc, rus⟩) = s2 at *
        have HO := Lib.hid HK7.out.kq.ok
        have hlen := HO.out.len
        have hop := HO.out.s8
        have HSN : Hid (s2.seen.length ≤ 1000 ∧ ∀ u ∈ s2.seen, u.1.size ≤ 1000 ∧ Y.Sh u.2.2.2) := Lib.hid ⟨by have := HO.out.seen.1; omega, HO.out.seen.2⟩
        obtain ⟨ss, hss, _⟩ := Y.keyL_ex s2.seen
        have HSS := Lib.hid hss
        obtain ⟨⟨v1, v2, v3⟩, HEQ⟩ : ∃ r, Hid (Y.stF s2.seen (Y.ky key) = r) := ⟨_, Lib.hid rfl⟩
        clear hss
        go_upto_region 8 with fail
        have HK8 := Lib.hid (HK7.out.next (Below.refl _ _).drew)
        refine wp_region_held_drew (S := fun w' => w'.cell? ⟨g, 0, none⟩ = some (.pointer (some ⟨cb, 0, none⟩)) ∧ w'.cell? ⟨g, 1, none⟩ = some (.pointer (some ⟨db, 0, none⟩))) (by kernel_rfl) ?_ (fun hs8 => ?_)
        · exact ⟨HK8.out.kb.c0, HK8.out.kb.c1⟩
        refine tkH 0 ?_ ?_ ?_
        rotate_left
        · intro w hSw
          try dsimp only at hSw
          obtain ⟨q0, q1⟩ := hSw
          go_simp
          all_goals with_reducible rfl
        try simp only [pt]
        refine tkH 1 ?_ ?_ ?_
        rotate_left
        · intro w hSw
          try dsimp only at hSw
          obtain ⟨q0, q1⟩ := hSw
          go_simp
          all_goals with_reducible rfl
        try simp only [pt]
        refine tkH 2 ?_ ?_ ?_
        rotate_left
        · intro w hSw
          try dsimp only at hSw
          obtain ⟨q0, q1⟩ := hSw
          go_simp
          all_goals with_reducible rfl
        try simp only [pt]
        refine tkH 4 ?_ ?_ ?_
        rotate_left
        · intro w hSw
          try dsimp only at hSw
          obtain ⟨q0, q1⟩ := hSw
          go_simp
          all_goals with_reducible rfl
        try simp only [pt]
        refine tkH 5 ?_ ?_ ?_
        rotate_left
        · intro w hSw
          try dsimp only at hSw
          obtain ⟨q0, q1⟩ := hSw
          go_simp
          all_goals with_reducible rfl
        try simp only [pt]
        refine tkH 6 ?_ ?_ ?_
        rotate_left
        · intro w hSw
          try dsimp only at hSw
          obtain ⟨q0, q1⟩ := hSw
          go_simp
          all_goals with_reducible rfl
        try simp only [pt]
        refine wpAnyH_ready (rs := [3]) (by kernel_rfl) (by simp) ?_
        refine rdH (fun K hK => ?_) ?_
        · go_simp
          refine (cread_any (s := s2) key HO.out.k (by omega) HSN.out w7.drew HK8.out.kq.pk).mono ?_
          rintro e w9 ⟨rfl, hb⟩
          rw [HEQ.out]
          simp only [Y.vv_eq]
          have HK9 := Lib.hid (HK8.out.next hb)
          have hs9 : w9.cell? ⟨g, 0, none⟩ = some (.pointer (some ⟨cb, 0, none⟩)) ∧ w9.cell? ⟨g, 1, none⟩ = some (.pointer (some ⟨db, 0, none⟩)) := ⟨HK9.out.kb.c0, HK9.out.kb.c1⟩
          clear hb
          go_wp2_with fail
          refine hK.out _ _ ?_ (fun hH => ?_)
          · exact hs9
          clear hK K
          try simp only [pt]
          refine wpAnyH_ready (rs := [7]) (by kernel_rfl) (by simp) ?_
          refine rdH (fun K hK => ?_) ?_
          · go_simp
            refine (eread_any (s := s2) key HO.out.k (by omega) HSN.out w9 HK9.out.kq.dk).mono ?_
            rintro e w10 ⟨rfl, hb⟩
            rw [HEQ.out]
            simp only [Y.vv_eq]
            have HK10 := Lib.hid (HK9.out.next hb)
            have hs10 : w10.cell? ⟨g, 0, none⟩ = some (.pointer (some ⟨cb, 0, none⟩)) ∧ w10.cell? ⟨g, 1, none⟩ = some (.pointer (some ⟨db, 0, none⟩)) := ⟨HK10.out.kb.c0, HK10.out.kb.c1⟩
            clear hb
            go_wp2_with fail
            refine hK.out _ _ ?_ (fun hH => ?_)
            · exact hs10
            clear hK K
            try simp only [pt]
            refine tkH 8 ?_ ?_ ?_
            rotate_left
            · intro w hSw
              try dsimp only at hSw
              obtain ⟨q0, q1⟩ := hSw
              go_simp
              all_goals with_reducible rfl
            try simp only [pt]
            refine tkH 9 ?_ ?_ ?_
            rotate_left
            · intro w hSw
              try dsimp only at hSw
              obtain ⟨q0, q1⟩ := hSw
              go_simp
              all_goals with_reducible rfl
            try simp only [pt]
            refine tkH 10 ?_ ?_ ?_
            rotate_left
            · intro w hSw
              try dsimp only at hSw
              obtain ⟨q0, q1⟩ := hSw
              go_simp
              all_goals with_reducible rfl
            try simp only [pt]
            refine tkH 11 ?_ ?_ ?_
            rotate_left
            · intro w hSw
              try dsimp only at hSw
              obtain ⟨q0, q1⟩ := hSw
              go_simp
              all_goals with_reducible rfl
            try simp only [pt]
            refine tkH 13 ?_ ?_ ?_
            rotate_left
            · intro w hSw
              try dsimp only at hSw
              obtain ⟨q0, q1⟩ := hSw
              go_simp
              all_goals with_reducible rfl
            try simp only [pt]
            refine tkH 14 ?_ ?_ ?_
            rotate_left
            · intro w hSw
              try dsimp only at hSw
              obtain ⟨q0, q1⟩ := hSw
              go_simp
              all_goals with_reducible rfl
            try simp only [pt]
            refine wpAnyH_ready (rs := [12]) (by kernel_rfl) (by simp) ?_
            refine rdH (fun K hK => ?_) ?_
            · go_simp
              refine (clen_any (s := s2) ss HSS.out HO.out.k (by omega) HSN.out w10 HK10.out.kq.pk).mono ?_
              rintro e w11 ⟨rfl, hb⟩
              have HK11 := Lib.hid (HK10.out.next hb)
              have hs11 : w11.cell? ⟨g, 0, none⟩ = some (.pointer (some ⟨cb, 0, none⟩)) ∧ w11.cell? ⟨g, 1, none⟩ = some (.pointer (some ⟨db, 0, none⟩)) := ⟨HK11.out.kb.c0, HK11.out.kb.c1⟩
              clear hb
              go_wp2_with fail
              refine hK.out _ _ ?_ (fun hH => ?_)
              · exact hs11
              clear hK K
              try simp only [pt]
              refine wpAnyH_ready (rs := [15]) (by kernel_rfl) (by simp) ?_
              refine rdH (fun K hK => ?_) ?_
              · go_simp
                refine (elen_any (s := s2) ss HSS.out HO.out.k (by omega) HSN.out w11 HK11.out.kq.dk).mono ?_
                rintro e w12 ⟨rfl, hb⟩
                have HK12 := Lib.hid (HK11.out.next hb)
                have hs12 : w12.cell? ⟨g, 0, none⟩ = some (.pointer (some ⟨cb, 0, none⟩)) ∧ w12.cell? ⟨g, 1, none⟩ = some (.pointer (some ⟨db, 0, none⟩)) := ⟨HK12.out.kb.c0, HK12.out.kb.c1⟩
                clear hb
                go_wp2_with fail
                refine hK.out _ _ ?_ (fun hH => ?_)
                · exact hs12
                clear hK K
                try simp only [pt]
                refine tkH 16 ?_ ?_ ?_
                rotate_left
                · intro w hSw
                  try dsimp only at hSw
                  obtain ⟨q0, q1⟩ := hSw
                  go_simp
                  all_goals with_reducible rfl
                try simp only [pt]
                refine tkH 17 ?_ ?_ ?_
                rotate_left
                · intro w hSw
                  try dsimp only at hSw
                  obtain ⟨q0, q1⟩ := hSw
                  go_simp
                  all_goals with_reducible rfl
                try simp only [pt]
                refine wpAnyH_done (by kernel_rfl) ?_ _
                clear hs8 hs9 hs10 hs11 hs12
                go_wp2
                go_roundw
                case rel => exact ⟨k + 1, by omega, by go_num, P2, D2, s2, HK12.out⟩
                case measure => simp [intOf]; omega
              exact AllReadyH.nil
            exact AllReadyH.nil
          exact AllReadyH.nil
        exact AllReadyH.nil
      · obtain rfl : k = len := by omega
        have HK7 := Lib.hid hst
        have hkl := hk
        clear hst
        have HO := Lib.hid HK7.out.kq.ok
        have hlen := HO.out.len
        have hop := HO.out.s8
        have HSN : Hid (s.seen.length ≤ 1000 ∧ ∀ u ∈ s.seen, u.1.size ≤ 1000 ∧ Y.Sh u.2.2.2) := Lib.hid ⟨by have := HO.out.seen.1; omega, HO.out.seen.2⟩
        obtain ⟨⟨v1, v2, v3⟩, HEQ⟩ : ∃ r, Hid (Y.stF s.seen (Y.ky key) = r) := ⟨_, Lib.hid rfl⟩
        go_upto_region 11 with fail
        have HK8 := Lib.hid (HK7.out.next (Below.refl _ _).drew)
        refine wp_region_held_drew (S := fun w' => w'.cell? ⟨g, 0, none⟩ = some (.pointer (some ⟨cb, 0, none⟩)) ∧ w'.cell? ⟨g, 1, none⟩ = some (.pointer (some ⟨db, 0, none⟩))) (by kernel_rfl) ?_ (fun hs8 => ?_)
        · exact ⟨HK8.out.kb.c0, HK8.out.kb.c1⟩
        refine tkH 0 ?_ ?_ ?_
        rotate_left
        · intro w hSw
          try dsimp only at hSw
          obtain ⟨q0, q1⟩ := hSw
          go_simp
          all_goals with_reducible rfl
        try simp only [pt]
        refine tkH 1 ?_ ?_ ?_
        rotate_left
        · intro w hSw
          try dsimp only at hSw
          obtain ⟨q0, q1⟩ := hSw
          go_simp
          all_goals with_reducible rfl
        try simp only [pt]
        refine tkH 2 ?_ ?_ ?_
        rotate_left
        · intro w hSw
          try dsimp only at hSw
          obtain ⟨q0, q1⟩ := hSw
          go_simp
          all_goals with_reducible rfl
        try simp only [pt]
        refine tkH 4 ?_ ?_ ?_
        rotate_left
        · intro w hSw
          try dsimp only at hSw
          obtain ⟨q0, q1⟩ := hSw
          go_simp
          all_goals with_reducible rfl
        try simp only [pt]
        refine tkH 5 ?_ ?_ ?_
        rotate_left
        · intro w hSw
          try dsimp only at hSw
          obtain ⟨q0, q1⟩ := hSw
          go_simp
          all_goals with_reducible rfl
        try simp only [pt]
        refine tkH 6 ?_ ?_ ?_
        rotate_left
        · intro w hSw
          try dsimp only at hSw
          obtain ⟨q0, q1⟩ := hSw
          go_simp
          all_goals with_reducible rfl
        try simp only [pt]
        refine tkH 8 ?_ ?_ ?_
        rotate_left
        · intro w hSw
          try dsimp only at hSw
          obtain ⟨q0, q1⟩ := hSw
          go_simp
          all_goals with_reducible rfl
        try simp only [pt]
        refine tkH 9 ?_ ?_ ?_
        rotate_left
        · intro w hSw
          try dsimp only at hSw
          obtain ⟨q0, q1⟩ := hSw
          go_simp
          all_goals with_reducible rfl
        try simp only [pt]
        refine tkH 11 ?_ ?_ ?_
        rotate_left
        · intro w hSw
          try dsimp only at hSw
          obtain ⟨q0, q1⟩ := hSw
          go_simp
          all_goals with_reducible rfl
        try simp only [pt]
        refine tkH 12 ?_ ?_ ?_
        rotate_left
        · intro w hSw
          try dsimp only at hSw
          obtain ⟨q0, q1⟩ := hSw
          go_simp
          all_goals with_reducible rfl
        try simp only [pt]
        refine wpAnyH_ready (rs := [3]) (by kernel_rfl) (by simp) ?_
        refine rdH (fun K hK => ?_) ?_
        · go_simp
          refine (cread_any (s := s) key HO.out.k (by omega) HSN.out wr.drew HK8.out.kq.pk).mono ?_
          rintro e w9 ⟨rfl, hb⟩
          rw [HEQ.out]
          simp only [Y.vv_eq]
          have HK9 := Lib.hid (HK8.out.next hb)
          have hs9 : w9.cell? ⟨g, 0, none⟩ = some (.pointer (some ⟨cb, 0, none⟩)) ∧ w9.cell? ⟨g, 1, none⟩ = some (.pointer (some ⟨db, 0, none⟩)) := ⟨HK9.out.kb.c0, HK9.out.kb.c1⟩
          clear hb
          go_wp2_with fail
          refine hK.out _ _ ?_ (fun hH => ?_)
          · exact hs9
          clear hK K
          try simp only [pt]
          refine wpAnyH_ready (rs := [7]) (by kernel_rfl) (by simp) ?_
          refine rdH (fun K hK => ?_) ?_
          · go_simp
            refine (copen_any (s := s) HO.out.so.sm w9 HK9.out.kq.pk).mono ?_
            rintro e w10 ⟨rfl, hrw, hb⟩
            have HIO := Lib.hid hrw.is
            have HK10 := Lib.hid (HK9.out.next hb)
            have hs10 : w10.cell? ⟨g, 0, none⟩ = some (.pointer (some ⟨cb, 0, none⟩)) ∧ w10.cell? ⟨g, 1, none⟩ = some (.pointer (some ⟨db, 0, none⟩)) := ⟨HK10.out.kb.c0, HK10.out.kb.c1⟩
            clear hb hrw
            go_wp2_with fail
            refine hK.out _ _ ?_ (fun hH => ?_)
            · exact hs10
            clear hK K
            try simp only [pt]
            refine wpAnyH_ready (rs := [10]) (by kernel_rfl) (by simp) ?_
            refine rdH (fun K hK => ?_) ?_
            · go_simp
              refine (cknown_any (s := s) (by omega) (fun r hr => (HO.out.sk r hr).sm) w10 HK10.out.kq.pk).mono ?_
              rintro e w11 ⟨gk, xk, rfl, hrz, hgk, how, hmk, hb⟩
              have hlk : xk.length = s.kn.length := by rw [← hmk, List.length_map]
              have HRZ := Lib.hid hrz
              have HGK := Lib.hid hgk
              have HOW := Lib.hid how
              have HMK := Lib.hid hmk
              have HB11 := Lib.hid hb
              have HK11 := Lib.hid (HK10.out.next hb)
              have hs11 : w11.cell? ⟨g, 0, none⟩ = some (.pointer (some ⟨cb, 0, none⟩)) ∧ w11.cell? ⟨g, 1, none⟩ = some (.pointer (some ⟨db, 0, none⟩)) := ⟨HK11.out.kb.c0, HK11.out.kb.c1⟩
              clear hb hrz how hmk hgk
              go_wp2_with fail
              refine hK.out _ _ ?_ (fun hH => ?_)
              · exact hs11
              clear hK K
              try simp only [pt]
              refine wpAnyH_ready (rs := [13]) (by kernel_rfl) (by simp) ?_
              refine rdH (fun K hK => ?_) ?_
              · go_simp
                refine (cpend_any (s := s) HO.out.k (by omega) w11 HK11.out.kq.pk).mono ?_
                rintro e w12 ⟨gp, xp, rfl, hrz, -, how, hof, hb⟩
                have his := rz_is hrz how
                have hlp : xp.length = s.uss.length - s.k := by rw [hof.len, List.length_drop]
                rw [hlp] at his
                have HIP := Lib.hid his
                have HOWP := Lib.hid how
                have HMP := Lib.hid hof
                have HRZ12 := Lib.hid (HRZ.out.next hb)
                have HB12 := Lib.hid (Below.next HB11.out hb)
                have HOW12 : Hid (∀ r ∈ xk, Own w10.heap.size w12 r) := Lib.hid fun r hr => own_next (HOW.out r hr) hb
                have HK12 := Lib.hid (HK11.out.next hb)
                have hs12 : w12.cell? ⟨g, 0, none⟩ = some (.pointer (some ⟨cb, 0, none⟩)) ∧ w12.cell? ⟨g, 1, none⟩ = some (.pointer (some ⟨db, 0, none⟩)) := ⟨HK12.out.kb.c0, HK12.out.kb.c1⟩
                clear hb hrz how hof his
                go_wp2_with fail
                refine hK.out _ _ ?_ (fun hH => ?_)
                · exact hs12
                clear hK K
                try simp only [pt]
                refine wpAnyH_ready (rs := [14]) (by kernel_rfl) (by simp) ?_
                refine rdH (fun K hK => ?_) ?_
                · rw [← hlk, ← hlp]
                  refine step_appR (by rfl) (.tmp 67) (.tmp 70) (by rfl) w10.heap.size _ xk (by rfl) (HRZ12.out.rowR HGK.out (by omega)) (some ⟨gp, 0, none⟩) xp.length xp.length (by rfl) xp (by rw [hlp]; exact HIP.out.at) (Nat.le_refl _) (fun e => by cases e) (by omega) HB12.out.size ?_
                  intro a3 c3 w13 hr3 hg3 _
                  have hrow := HRZ12.out.rowR HGK.out (by omega)
                  have hb13 := belR hrow HB12.out hg3 HB12.out.size
                  have his13 := app_is hr3 rfl (fun r hr => own_grown (HOW12.out r hr) HRZ12.out hg3) (fun r hr => own_grown (HOWP.out r hr) HRZ12.out hg3)
                  have hfl := told_flat HMK.out HMP.out
                  have HPL := Lib.hid (pl_of HSN.out hfl his13.size (by omega))
                  have HIS13 := Lib.hid his13
                  have HK13 := Lib.hid (HK10.out.next hb13)
                  have HIO13 := Lib.hid (isUs_below HIO.out hb13)
                  have hs13 : w13.cell? ⟨g, 0, none⟩ = some (.pointer (some ⟨cb, 0, none⟩)) ∧ w13.cell? ⟨g, 1, none⟩ = some (.pointer (some ⟨db, 0, none⟩)) := ⟨HK13.out.kb.c0, HK13.out.kb.c1⟩
                  clear hr3 hg3 hrow hb13 his13 hfl
                  refine hK.out _ _ ?_ (fun hH => ?_)
                  · exact hs13
                  clear hK K
                  try simp only [pt]
                  refine wpAnyH_ready (rs := [15]) (by kernel_rfl) (by simp) ?_
                  refine rdH (fun K hK => ?_) ?_
                  · go_simp
                    have HR := Y.dread_any key (some ⟨w9.heap.size + 2, 0, none⟩) s.op.length s.op.length s.op a3 (xk.length + xp.length) c3 (xk ++ xp) HPL.out.1 (Nat.le_refl _) (fun e => by cases e) w13 HIO13.out HIS13.out
                    rw [HPL.out.2, HEQ.out, hlk, hlp] at HR
                    simp only [Y.vv_eq] at HR
                    refine HR.mono ?_
                    rintro e w14 ⟨rfl, hb⟩
                    have HK14 := Lib.hid (HK13.out.next hb)
                    have hs14 : w14.cell? ⟨g, 0, none⟩ = some (.pointer (some ⟨cb, 0, none⟩)) ∧ w14.cell? ⟨g, 1, none⟩ = some (.pointer (some ⟨db, 0, none⟩)) := ⟨HK14.out.kb.c0, HK14.out.kb.c1⟩
                    clear hb HR
                    go_wp2_with fail
                    refine hK.out _ _ ?_ (fun hH => ?_)
                    · exact hs14
                    clear hK K
                    try simp only [pt]
                    refine tkH 16 ?_ ?_ ?_
                    rotate_left
                    · intro w hSw
                      try dsimp only at hSw
                      obtain ⟨q0, q1⟩ := hSw
                      go_simp
                      all_goals with_reducible rfl
                    try simp only [pt]
                    refine tkH 17 ?_ ?_ ?_
                    rotate_left
                    · intro w hSw
                      try dsimp only at hSw
                      obtain ⟨q0, q1⟩ := hSw
                      go_simp
                      all_goals with_reducible rfl
                    try simp only [pt]
                    refine wpAnyH_done (by kernel_rfl) ?_ _
                    clear hs8 hs9 hs10 hs11 hs12 hs13 hs14
                    go_wp2
                    go_ret
                    exact ⟨rfl, Below.next HB0.out HK14.out.bel⟩
                  exact AllReadyH.nil
                exact AllReadyH.nil
              exact AllReadyH.nil
            exact AllReadyH.nil
          exact AllReadyH.nil
        exact AllReadyH.nil
end Go.Proofs.YtbbgibekplfacaaDoor
