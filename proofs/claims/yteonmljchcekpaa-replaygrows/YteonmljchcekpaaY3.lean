/- replay: Read. -/
import Derived.Test.YteonmljchcekpaaY2
import Derived.Test.YteonmljchcekpaaYP
namespace Go.Proofs.Yteonmljchcekpaa
open Go Go.RowKit Go.Maps
set_option maxRecDepth 20000
theorem read_arm {w wr w1 : World} {v z : Vl} {o : Obj} (hv : Vb wr (w.heap.size + 1) v) (hz : Vb wr w.heap.size z) (hbel : Below w.heap.size w wr) (hb : Below (wr.alloc o).heap.size (wr.alloc o) w1) :
    Vb w1 (w.heap.size + 1) v ∧ Vb w1 w.heap.size z ∧ Below w.heap.size w w1 := ⟨(hv.alloc _).kept hb rfl, (hz.alloc _).kept hb rfl, Below.next (hbel.alloc hbel.size _) hb⟩
set_option maxHeartbeats 1000000 in
theorem read_any (key : ByteArray) (a : Option Addr) (len cap : Nat) (us : List Up) (ar : Option Addr) (lr cr : Nat) (rs : List Rn) (hp : Pl us rs) (w : World) (hu : IsUs w a len us) (hr : IsRs w ar lr rs) :
    Calls Try.prog 11 #[.string key, .slice a len cap, .slice ar lr cr] w fun e w' => e = .returned (vv (stF (flatR rs ++ us) (ky key))) ∧ Below w.heap.size w w' := by
  have HP := Lib.hid hp
  have H := Lib.hid hr
  have HU := Lib.hid hu
  have hlr : lr ≤ 1000 := by have := hp.lr; have := hr.size; omega
  clear hp hr hu
  go_enter Try.func11, Try.ntmps11
  go_wp2_with fail
  go_loopw [12] (fun v12 wr => ∃ k : Nat, k ≤ lr ∧ v12 = .int .i64 k ∧ Vb wr (w.heap.size + 1) (madeK noneV key (flatR (rs.take k))) ∧ Vb wr w.heap.size (0, 0, ⟨#[]⟩) ∧ Below w.heap.size w wr) (fun v12 _ => lr - (intOf v12).toNat)
  case atStart => exact ⟨0, Nat.zero_le _, rfl, new_at (by simp), old_at (new_at rfl), Joins.below_alloc2 _ _ _⟩
  case round =>
    obtain ⟨k, hk, rfl, hvb, hzb, hbel⟩ := hrel
    have hH : w.heap.size + 1 < wr.heap.size := hvb.lt
    have hsz := H.out.size
    by_cases hlt : k < lr
    · obtain ⟨b, off, rfl, c0, c1, c2, hru⟩ := rcells_of H.out hbel hlt
      have hat := HP.out.at (k := k) (by omega)
      have hstep := madeK_app noneV key (flatR (rs.take k)) (rs.getD k rn0).us
      rw [← flatR_take rs k (by omega)] at hstep
      have HST := Lib.hid hstep
      have hvs : Sh (madeK noneV key (flatR (rs.take k))).2.2 := madeK_sh key _ (HP.out.taken k) _ sh_none
      have HM := fun w h => Lib.hid (rmade_any (madeK noneV key (flatR (rs.take k))) key (rs.getD k rn0).a (rs.getD k rn0).len (rs.getD k rn0).cap (rs.getD k rn0).us hvs (fun u hx => (hat.1 u hx).2) (by have := hru.1.size; omega) w h)
      have HR := fun o => Lib.hid (isUs_below hru.1 (hbel.alloc hbel.size o))
      have HVB := Lib.hid hvb
      have HARM := fun o w1 hb => Lib.hid (read_arm (o := o) (w1 := w1) hvb hzb hbel hb)
      clear hstep hat hru hvs hvb hzb hbel hsz H HU HP
      generalize madeK (madeK noneV key (flatR (rs.take k))) key (rs.getD k rn0).us = r at *
      generalize madeK noneV key (flatR (rs.take k)) = v at *
      generalize rs.getD k rn0 = rr at *
      obtain ⟨rk, rn, rs0⟩ := r
      obtain ⟨vk, vn, vs⟩ := v
      obtain ⟨ro, rnn, ra, rl, rc, ru⟩ := rr
      simp only [vv_eq] at HM HR HARM c0 c1 c2 ⊢
      obtain ⟨d0, d1, d2⟩ := Vb.c HVB.out
      clear HVB
      have HR := HR (.cells #[.int .i64 ro, .int .i64 rnn, .slice ra rl rc] 45)
      have HARM := HARM (.cells #[.int .i64 ro, .int .i64 rnn, .slice ra rl rc] 45)
      go_wp2_with fail
      refine (HM _ HR.out).out.mono ?_
      rintro e w1 ⟨rfl, hb1⟩
      obtain ⟨hv1, hz1, hB1⟩ := (HARM _ hb1).out
      obtain ⟨g0, g1, g2⟩ := Vb.c hv1
      have f0 := unfrozen_at hv1 0
      have f1 := unfrozen_at hv1 1
      have f2 := unfrozen_at hv1 2
      have HV2 := Lib.hid hv1
      have HZ2 := Lib.hid hz1
      have HB2 := Lib.hid hB1
      clear hb1 hv1 hz1 hB1 HARM HM HR d0 d1 d2
      go_wp2
      go_roundw
      case rel =>
        refine ⟨k + 1, by omega, by go_num, ?_, HZ2.out.other (by omega) _ _ _, below_set3 HB2.out (by omega) _ _ _⟩
        rw [HST.out]; exact HV2.out.set _ _ _
      case measure => simp [intOf]; omega
    · obtain rfl : k = lr := by omega
      rw [takeR_all hsz] at hvb
      have hvs : Sh (madeK noneV key (flatR rs)).2.2 := madeK_sh key _ (by have := HP.out.taken k; rwa [takeR_all hsz] at this) _ sh_none
      have HM := fun w h => Lib.hid (rmade_any (madeK noneV key (flatR rs)) key a len cap us hvs (fun u hx => (HP.out.us.1 u hx).2) (by have := HU.out.size; have := HP.out.us.2; omega) w h)
      rw [← madeK_app, read_eq key (flatR rs ++ us)] at HM
      obtain ⟨⟨rk, rn, rs0⟩, HEQ⟩ : ∃ r, Hid (stF (flatR rs ++ us) (ky key) = r) := ⟨_, Lib.hid rfl⟩
      rw [HEQ.out] at HM
      generalize madeK noneV key (flatR rs) = v at *
      obtain ⟨vk, vn, vs⟩ := v
      simp only [vv_eq] at HM
      obtain ⟨d0, d1, d2⟩ := Vb.c hvb
      have HI := Lib.hid (isUs_below HU.out hbel)
      have HZ := Lib.hid hzb
      have HBEL := Lib.hid hbel
      clear hvb hzb hbel hvs hsz H HU HP
      go_wp2_with fail
      refine (HM _ HI.out).out.mono ?_
      rintro e w1 ⟨rfl, hb1⟩
      have hz1 := HZ.out.kept hb1 rfl
      obtain ⟨j0, j1, j2⟩ := Vb.c hz1
      have p0 := unfrozen_at hz1 0
      have p1 := unfrozen_at hz1 1
      have p2 := unfrozen_at hz1 2
      have HB1 := Lib.hid (Below.next HBEL.out hb1)
      clear hz1 hb1 HZ HBEL HM
      go_wp2
      refine bodyPost_ret (v := .agg #[.int .i64 rk, .int .i64 rn, .string rs0]) (by simp [results, Try.results11, go_sem, j0, j1, j2]) rfl ⟨by rw [HEQ.out]; rfl, ?_⟩
      exact below_set3 HB1.out (by omega) _ _ _
end Go.Proofs.Yteonmljchcekpaa
