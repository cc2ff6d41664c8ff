/- replay: made, Read, do, State, Len. -/
import Derived.Test.YteonmljchcekpaaY1
import Derived.Test.YteonmljchcekpaaS6
namespace Go.Proofs.Yteonmljchcekpaa
open Go Go.RowKit Go.Maps
set_option maxRecDepth 20000
theorem made_arm {w wr w1 : World} {v z : Vl} {u : Up} (hv : Vb wr w.heap.size v) (hz : Vb wr (w.heap.size + 1) z) (hbel : Below w.heap.size w wr) (hb : Below (wr.alloc (.cells #[.string u.1, .int .i64 u.2.1, .int .i64 u.2.2.1, .string u.2.2.2] 42)).heap.size (wr.alloc (.cells #[.string u.1, .int .i64 u.2.1, .int .i64 u.2.2.1, .string u.2.2.2] 42)) w1) :
    Vb w1 w.heap.size v ∧ Vb w1 (w.heap.size + 1) z ∧ Ub w1 wr.heap.size u ∧ Below w.heap.size w w1 :=
  ⟨(hv.alloc _).kept hb rfl, (hz.alloc _).kept hb rfl, Ub.kept (heap_alloc_new wr _) hb rfl, Below.next (hbel.alloc hbel.size _) hb⟩
theorem made_arm2 {w w1 w2 : World} {v z : Vl} (h : Vb w1 w.heap.size v ∧ Vb w1 (w.heap.size + 1) z ∧ Below w.heap.size w w1) (hb : Below w1.heap.size w1 w2) : Vb w2 w.heap.size v ∧ Vb w2 (w.heap.size + 1) z ∧ Below w.heap.size w w2 :=
  ⟨h.1.kept hb rfl, h.2.1.kept hb rfl, Below.next h.2.2 hb⟩
set_option maxHeartbeats 400000 in
theorem rmade_any (v : Vl) (key : ByteArray) (a : Option Addr) (len cap : Nat) (us : List Up) (hv : Sh v.2.2) (hu : ∀ u ∈ us, Sh u.2.2.2) (hl : len ≤ 1000) (w : World) (h : IsUs w a len us) :
    Calls Try.prog 27 #[vv v, .string key, .slice a len cap] w fun e w' => e = .returned (vv (madeK v key us)) ∧ Below w.heap.size w w' := by
  have H := Lib.hid h
  have HU := Lib.hid hu
  have HV := Lib.hid hv
  clear h hu hv
  obtain ⟨k0, n0, s0⟩ := v
  rw [vv_eq]
  go_enter Try.func27, Try.ntmps27
  go_wp2_with fail
  go_loopw [11] (fun v11 wr => ∃ k : Nat, k ≤ len ∧ v11 = .int .i64 k ∧ Vb wr w.heap.size (madeK (k0, n0, s0) key (us.take k)) ∧ Vb wr (w.heap.size + 1) (0, 0, ⟨#[]⟩) ∧ Below w.heap.size w wr) (fun v11 _ => len - (intOf v11).toNat)
  case atStart => exact ⟨0, Nat.zero_le _, rfl, old_at (new_at rfl), new_at (by simp), Joins.below_alloc2 _ _ _⟩
  case round =>
    obtain ⟨k, hk, rfl, hvb, hzb, hbel⟩ := hrel
    have hH : w.heap.size + 1 < wr.heap.size := hzb.lt
    have hsz := H.out.size
    by_cases hlt : k < len
    · have hstep := madeK_take (k0, n0, s0) key us k (by omega) up0
      have hus : Sh (us.getD k up0).2.2.2 := HU.out _ (mem_getD (by omega))
      have hvs : Sh (madeK (k0, n0, s0) key (us.take k)).2.2 := madeK_sh key _ (fun u hx => HU.out u (List.mem_of_mem_take hx)) _ HV.out
      obtain ⟨b, off, rfl, c0, c1, c2, c3⟩ := cells_of H.out hbel hlt
      have HM := fun w => Lib.hid (may_any (us.getD k up0) w)
      have HA := fun w => Lib.hid (apply_any (madeK (k0, n0, s0) key (us.take k)) (us.getD k up0) hvs hus w)
      clear hus hvs hsz H HU HV
      generalize us.getD k up0 = u at *
      by_cases hke : u.1 = key
      · have q := eq_yes key
        by_cases hme : mayE u = 0
        · rw [if_pos ⟨hke, hme⟩] at hstep
          rw [hme] at HM
          subst hke
          have HST := Lib.hid hstep
          clear hstep hme
          have HARM := fun w1 hb => Lib.hid (made_arm (u := u) (w1 := w1) hvb hzb hbel hb)
          clear hvb hzb hbel
          generalize oneV (madeK (k0, n0, s0) u.1 (us.take k)) u = r at *
          generalize madeK (k0, n0, s0) u.1 (us.take k) = v at *
          obtain ⟨rk, rn, rs⟩ := r
          obtain ⟨vk, vn, vs⟩ := v
          obtain ⟨key, ux, um, ut⟩ := u
          simp only [vv_eq, uu] at HM HA HARM c0 c1 c2 c3 q ⊢
          go_wp2_with fail
          refine (HM _).out.mono ?_
          rintro e w1 ⟨rfl, hb1⟩
          obtain ⟨hv1, hz1, hu1, hB1⟩ := (HARM _ hb1).out
          obtain ⟨d0, d1, d2⟩ := Vb.c hv1
          obtain ⟨e0, e1, e2, e3⟩ := Ub.c hu1
          have H1 := Lib.hid (And.intro hv1 (And.intro hz1 hB1))
          clear hb1 hv1 hz1 hB1 hu1 HARM HM
          go_wp2_with fail
          refine (HA _).out.mono ?_
          rintro e w2 ⟨rfl, hb2⟩
          obtain ⟨hv2, hz2, hB2⟩ := made_arm2 H1.out hb2
          obtain ⟨g0, g1, g2⟩ := Vb.c hv2
          have f0 := unfrozen_at hv2 0
          have f1 := unfrozen_at hv2 1
          have f2 := unfrozen_at hv2 2
          have HV2 := Lib.hid hv2
          have HZ2 := Lib.hid hz2
          have HB2 := Lib.hid hB2
          clear hb2 hv2 hz2 hB2 H1 HA
          go_wp2
          go_roundw
          case rel =>
            refine ⟨k + 1, by omega, by go_num, ?_, HZ2.out.other (by omega) _ _ _, below_set3 HB2.out (by omega) _ _ _⟩
            rw [HST.out]; exact HV2.out.set _ _ _
          case measure => simp [intOf]; omega
        · rw [if_neg (fun x => hme x.2)] at hstep
          have hq : (mayE u == 0) = false := beq_false_of_ne hme
          subst hke
          have HST := Lib.hid hstep
          clear hstep hme HA
          have HARM := fun w1 hb => Lib.hid (made_arm (u := u) (w1 := w1) hvb hzb hbel hb)
          clear hvb hzb hbel
          generalize mayE u = r at *
          obtain ⟨key, ux, um, ut⟩ := u
          simp only [uu] at HM HARM c0 c1 c2 c3 q ⊢
          go_wp2_with fail
          refine (HM _).out.mono ?_
          rintro e w1 ⟨rfl, hb1⟩
          have H1 := Lib.hid (HARM _ hb1).out
          clear hb1 HARM HM
          go_wp2
          go_roundw
          case rel => exact ⟨k + 1, by omega, by go_num, by rw [HST.out]; exact H1.out.1, H1.out.2.1, H1.out.2.2.2⟩
          case measure => simp [intOf]; omega
      · have q := eq_no hke
        rw [if_neg (fun x => hke x.1)] at hstep
        have HST := Lib.hid hstep
        have HVB := Lib.hid hvb
        have HZB := Lib.hid hzb
        have HBEL := Lib.hid hbel
        clear hvb hzb hbel hstep hke HM HA
        obtain ⟨key', ux, um, ut⟩ := u
        simp only at c0 c1 c2 c3 q
        go_wp2
        go_roundw
        case rel => exact ⟨k + 1, by omega, by go_num, by rw [HST.out]; exact HVB.out.alloc _, HZB.out.alloc _, HBEL.out.alloc HBEL.out.size _⟩
        case measure => simp [intOf]; omega
    · obtain rfl : k = len := by omega
      rw [take_all hsz] at hvb
      clear hsz H HU HV
      obtain ⟨⟨rk, rn, rs⟩, HEQ⟩ : ∃ r, Hid (madeK (k0, n0, s0) key us = r) := ⟨_, Lib.hid rfl⟩
      rw [HEQ.out] at hvb
      obtain ⟨d0, d1, d2⟩ := Vb.c hvb
      obtain ⟨j0, j1, j2⟩ := Vb.c hzb
      have p0 := unfrozen_at hzb 0
      have p1 := unfrozen_at hzb 1
      have p2 := unfrozen_at hzb 2
      have HBEL := Lib.hid hbel
      clear hvb hzb hbel
      go_wp2
      refine bodyPost_ret (v := .agg #[.int .i64 rk, .int .i64 rn, .string rs]) (by simp [results, Try.results27, go_sem, j0, j1, j2]) rfl ⟨by rw [HEQ.out]; rfl, ?_⟩
      exact below_set3 HBEL.out (by omega) _ _ _
end Go.Proofs.Yteonmljchcekpaa
