/- The walk of CommitOnce. -/
import Derived.Test.YtgifbkmpaejdbaaC8
namespace Go.Proofs.Ytgifbkmpaejdbaa
open Go Go.RowKit
set_option maxRecDepth 20000
set_option maxHeartbeats 8000000 in
theorem walkOnce (c0 : Int) (a : Option Addr) (len cap : Nat) (rs : List Rn) (w : World) (h : IsRs w a len rs) :
    Calls Try.prog 5 #[.int .i64 c0, .slice a len cap] w fun e w' => e = .returned (.bool true) ∧ Below w.heap.size w w' := by
  have H := Lib.hid h
  have hsz := h.size
  clear h
  go_enter Try.func5, Try.ntmps5
  go_wp2_with fail
  refine (cnew_any c0 w.heap.size w (Nat.le_refl _)).mono ?_
  rintro e w1 ⟨rfl, hj, hb⟩
  have HJ0 := Lib.hid hj
  have HB0 := Lib.hid hb
  clear hj hb
  go_wp2_with fail
  refine (cnew_any c0 w.heap.size w1 HB0.out.size).mono ?_
  rintro e w2 ⟨rfl, hj, hb⟩
  have H1 : Hid (Cp 53 Pc 53 Pc w w2 w.heap.size w1.heap.size _ _ (clP c0) [] []) := Lib.hid ⟨Below.next HB0.out hb, HJ0.out.next hb, hj, fun k h1 h2 => by
    have := jf0 h1
    have := jf0 h2
    have := (HJ0.out.foot k h1).2
    omega⟩
  generalize Jf w.heap.size (.slice none 0 0) (fun _ => False) = F0 at H1
  generalize Jf w1.heap.size (.slice none 0 0) (fun _ => False) = G0 at H1
  clear hj hb HJ0 HB0
  generalize w1.heap.size = d at *
  generalize clP c0 = c at *
  by_cases hg : gRs rs
  · go_wp2_with fail
    refine (awake_any _).mono ?_
    rintro e w2 ⟨rfl, hb⟩
    have H2 := Lib.hid (H1.out.next hb)
    clear hb H1
    go_wp2_with fail
    refine (greatRs_yes a len cap rs hg _ (isRs_below H.out H2.out.bel)).mono ?_
    rintro e w3 ⟨rfl, hb⟩
    have H3 := Lib.hid (H2.out.next hb)
    clear hb H2
    go_wp2_with fail
    refine (awake_any _).mono ?_
    rintro e w4 ⟨rfl, hb⟩
    have H4 := Lib.hid (H3.out.next hb)
    clear hb H3
    go_wp2
    go_ret
    exact ⟨rfl, H4.out.bel⟩
  obtain ⟨hl40, hgl⟩ := gRs_at hg
  have HG := Lib.hid hgl
  have HNG := fun w h => Lib.hid (greatRs_no a len cap rs hg w h)
  have hlen : len ≤ 40 := by omega
  clear hgl hl40 hg
  go_wp2_with fail
  refine (awake_any _).mono ?_
  rintro e w2 ⟨rfl, hb⟩
  have H2 := Lib.hid (H1.out.next hb)
  clear hb H1
  go_wp2_with fail
  refine (HNG _ (isRs_below H.out H2.out.bel)).out.mono ?_
  rintro e w3 ⟨rfl, hb⟩
  have H3 := Lib.hid (H2.out.next hb)
  clear hb H2 HNG
  go_wp2_with fail
  go_loopw [32] (fun v32 wr => ∃ k : Nat, k ≤ len ∧ v32 = .int .i64 k ∧ ∃ F G L, L = sofar c rs k ∧ Cp 53 Pc 53 Pc w wr w.heap.size d F G c L L) (fun v32 _ => len - (intOf v32).toNat)
  case atStart => exact ⟨0, Nat.zero_le _, rfl, F0, G0, [], rfl, H3.out⟩
  case round =>
    obtain ⟨k, hk, rfl, F, G, L, hL, hp⟩ := hrel
    clear H3
    by_cases hlt : k < len
    · obtain ⟨gb, off, rfl, d0, d1, d2, hru⟩ := rcells_of H.out hp.bel hlt
      obtain ⟨_, hsm⟩ := HG.out k (by omega)
      have HRU0 := Lib.hid hru
      have hru2 := (hru.below hp.bel).below (Joins.below_alloc1 wr (.cells #[.int .i64 (rs.getD k rn0).o, .int .i64 (rs.getD k rn0).n, .slice (rs.getD k rn0).a (rs.getD k rn0).len (rs.getD k rn0).cap] 31))
      have hst := sofar_step c (rs := rs) (k := k) (by omega)
      have hsl := sofar_len c rs k
      rw [← hL] at hst hsl
      have HPA := Lib.hid (hp.next (Joins.below_alloc1 wr (.cells #[.int .i64 (rs.getD k rn0).o, .int .i64 (rs.getD k rn0).n, .slice (rs.getD k rn0).a (rs.getD k rn0).len (rs.getD k rn0).cap] 31)))
      have HF8 : Hid (∀ j, wr.heap.size ≤ j → ¬ F j) := Lib.hid fun j hj hF => by have := (hp.j.foot j hF).2; omega
      generalize rs.getD k rn0 = r at *
      obtain ⟨ro, rn, ra, rl, rc, rus⟩ := r
      simp only at d0 d1 d2 hsm hru2 HPA HRU0
      have HST := Lib.hid hst
      have HRU := Lib.hid hru2
      have HSM := Lib.hid hsm
      have h8 := Rb.new wr ro rn ra rl rc
      have HR8 := Lib.hid h8
      have e0 := h8.c0
      have e1 := h8.c1
      have e2 := h8.c2
      have hL1000 : L.length ≤ 1000 := by omega
      clear hru hru2 hst hp hL hsm h8
      go_wp2_with fail
      refine (cadd_any (L := L) hL1000 ⟨ro, rn, ra, rl, rc, rus⟩ HSM.out _ HRU.out HPA.out.j).mono ?_
      rintro e w3 ⟨rfl, F', hc⟩
      have h8 := HR8.out.left hc.lv (HF8.out _ (Nat.le_refl _))
      have e0' := h8.c0
      have e1' := h8.c1
      have e2' := h8.c2
      have HP3 := Lib.hid (HPA.out.com1 hc)
      have HRU3 : Hid (Ru w3 ⟨ro, rn, ra, rl, rc, rus⟩) := Lib.hid ((HRU0.out.below HP3.out.bel))
      clear hc h8 e0 e1 e2
      go_wp2_with fail
      refine (cadd_any (L := L) hL1000 ⟨ro, rn, ra, rl, rc, rus⟩ HSM.out _ HRU3.out HP3.out.m).mono ?_
      rintro e w4 ⟨rfl, G', hc⟩
      have HP4 := Lib.hid (HP3.out.com2 hc)
      clear hc
      go_wp2
      go_roundw
      case rel => exact ⟨k + 1, by omega, by go_num, F', G', _, HST.out.symm, HP4.out⟩
      case measure => simp [intOf]; omega
    · obtain rfl : k = len := by omega
      have hsl := sofar_len c rs k
      rw [← hL] at hsl
      have hgd := hp.j.good
      have hsml := hp.j.sm
      obtain ⟨M, hM⟩ : ∃ M, L.length = M := ⟨_, rfl⟩
      have hM40 : M ≤ 40 := by omega
      have hn : L.length ≤ 1000 := by omega
      have HP := Lib.hid hp
      have HCA := fun W h => Lib.hid (call_any (L := L) (B := w.heap.size) (b := w.heap.size) (F := F) (c := c) hn W h)
      have HCB := fun W h => Lib.hid (call_any (L := L) (B := w.heap.size) (b := d) (F := G) (c := c) hn W h)
      rw [hM] at HCA HCB
      have HGD := Lib.hid hgd
      have HSML := Lib.hid hsml
      have HM := Lib.hid hM
      clear hp hL hsl hgd hsml hM
      go_wp2_with fail
      refine (HCA _ HP.out.j).out.mono ?_
      rintro e w5 ⟨g, xs, rfl, hrz, _, how, hxs, hb⟩
      have hxl := map_len hxs
      rw [HM.out] at hxl
      have hix := rz_is hrz how
      rw [hxl] at hix
      have HXS := Lib.hid hxs
      have HXL := Lib.hid hxl
      have HI := Lib.hid hix
      have HP5 := Lib.hid (HP.out.next hb)
      have HS := Lib.hid (us_le HSML.out hxs)
      clear hrz how hxs hb hxl hix HP
      go_wp2_with fail
      go_loopw [46] (fun v46 wz => ∃ i : Nat, i ≤ M ∧ v46 = .int .i64 i ∧ Cp 53 Pc 53 Pc w wz w.heap.size d F G c L L ∧ Below w5.heap.size w5 wz) (fun v46 _ => M - (intOf v46).toNat)
      case atStart => exact ⟨0, Nat.zero_le _, rfl, HP5.out, Below.refl _ _⟩
      case round =>
        obtain ⟨i, hi, rfl, hp, hbz⟩ := hrel
        clear HP5
        by_cases hil : i < M
        · obtain ⟨gx, offx, ex, m0, m1, m2, hmu⟩ := rcells_of HI.out hbz hil
          cases ex
          rw [Nat.zero_add] at m0 m1 m2
          have he := HGD.out.twice (mem_of HXS.out (show i < xs.length by have := HXL.out; omega))
          have hbA := Joins.below_alloc1 wr (.cells #[.int .i64 (xs.getD i rn0).o, .int .i64 (xs.getD i rn0).n, .slice (xs.getD i rn0).a (xs.getD i rn0).len (xs.getD i rn0).cap] 31)
          have hmu2 := (hmu.below hbz).below hbA
          have HPA := Lib.hid (hp.next hbA)
          have HBA := Lib.hid (Below.next hbz hbA)
          generalize xs.getD i rn0 = r at *
          obtain ⟨ro, rn, ra, rl, rc, rus⟩ := r
          simp only at m0 m1 m2 hmu2 HPA HBA
          have h8 := Rb.new wr ro rn ra rl rc
          have e0 := h8.c0
          have e1 := h8.c1
          have e2 := h8.c2
          have HMU := Lib.hid hmu2
          have HE : Hid (comE c L (ro, rn, rus) = 12) := Lib.hid he
          clear hmu hmu2 he hp hbz h8 hbA
          go_wp2_with fail
          refine (cadd_no (L := L) ro rn ra rl rc rus 12 HE.out (by decide) _ HMU.out.1 HPA.out.j).mono ?_
          rintro e w6 ⟨rfl, hb⟩
          have HP6 := Lib.hid (HPA.out.next hb)
          have HB6 := Lib.hid (Below.next HBA.out hb)
          clear hb
          go_wp2
          go_roundw
          case rel => exact ⟨i + 1, by omega, by go_num, HP6.out, HB6.out⟩
          case measure => simp [intOf]; omega
        · obtain rfl : i = M := by omega
          have HP := Lib.hid hp
          clear hp hbz
          go_wp2_with fail
          refine (HCA _ HP.out.j).out.mono ?_
          rintro e w6 ⟨g1, ys, rfl, hrz, _, how, hys, hb⟩
          have hyl := map_len hys
          rw [HM.out] at hyl
          have hiy := rz_is hrz how
          rw [hyl] at hiy
          have HIY := Lib.hid hiy
          have HYS := Lib.hid hys
          have HP6 := Lib.hid (HP.out.next hb)
          have HSY : Hid (∀ j, j < i → (ys.getD j rn0).us.length ≤ 1000000) := Lib.hid fun j hj => us_le HSML.out hys j (by omega)
          clear hrz how hys hb hyl hiy HP
          go_wp2_with fail
          refine (HCB _ HP6.out.m).out.mono ?_
          rintro e w7 ⟨g2, zs, rfl, hrz, _, how, hzs, hb⟩
          have hzl := map_len hzs
          rw [HM.out] at hzl
          have hiz := rz_is hrz how
          rw [hzl] at hiz
          have HP7 := Lib.hid (HP6.out.next hb)
          have HSA := Lib.hid (sameall_yes (some ⟨g1, 0, none⟩) (some ⟨g2, 0, none⟩) i i i ys zs (by omega) (alk_of (HYS.out.trans hzs.symm) i) HSY.out w7 (isRs_below HIY.out hb) hiz)
          clear hrz how hzs hb hzl hiz HP6
          go_wp2_with fail
          refine HSA.out.mono ?_
          rintro e w8 ⟨rfl, hb⟩
          have HP8 := Lib.hid (HP7.out.next hb)
          clear hb
          go_wp2
          go_ret
          exact ⟨rfl, HP8.out.bel⟩
end Go.Proofs.Ytgifbkmpaejdbaa
