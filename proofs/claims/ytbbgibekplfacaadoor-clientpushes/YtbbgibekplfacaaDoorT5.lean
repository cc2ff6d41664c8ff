import Derived.Test.YtbbgibekplfacaaDoorT4
import Derived.Test.YtbbgibekplfacaaDoorT3
/- replay: made, Read, do, State, Len. -/
namespace Go.Proofs.YtbbgibekplfacaaDoor.Y
open Go Go.RowKit Go.Maps
set_option maxRecDepth 20000
theorem made_arm {w wr w1 : World} {v z : Vl} {u : Up} (hv : Vb wr w.heap.size v) (hz : Vb wr (w.heap.size + 1) z) (hbel : Below w.heap.size w wr) (hb : Below (wr.alloc (.cells #[.string u.1, .int .i64 u.2.1, .int .i64 u.2.2.1, .string u.2.2.2] 32)).heap.size (wr.alloc (.cells #[.string u.1, .int .i64 u.2.1, .int .i64 u.2.2.1, .string u.2.2.2] 32)) w1) :
    Vb w1 w.heap.size v ∧ Vb w1 (w.heap.size + 1) z ∧ Ub w1 wr.heap.size u ∧ Below w.heap.size w w1 :=
  ⟨(hv.alloc _).kept hb rfl, (hz.alloc _).kept hb rfl, Ub.kept (heap_alloc_new wr _) hb rfl, Below.next (hbel.alloc hbel.size _) hb⟩
theorem made_arm2 {w w1 w2 : World} {v z : Vl} (h : Vb w1 w.heap.size v ∧ Vb w1 (w.heap.size + 1) z ∧ Below w.heap.size w w1) (hb : Below w1.heap.size w1 w2) : Vb w2 w.heap.size v ∧ Vb w2 (w.heap.size + 1) z ∧ Below w.heap.size w w2 :=
  ⟨h.1.kept hb rfl, h.2.1.kept hb rfl, Below.next h.2.2 hb⟩
set_option maxHeartbeats 400000 in
theorem rmade_any (v : Vl) (key : ByteArray) (a : Option Addr) (len cap : Nat) (us : List Up) (hv : Sh v.2.2) (hu : ∀ u ∈ us, Sh u.2.2.2) (hl : len ≤ 1000) (w : World) (h : IsUs w a len us) :
    Calls Tryd.prog 60 #[vv v, .string key, .slice a len cap] w fun e w' => e = .returned (vv (madeK v key us)) ∧ Below w.heap.size w w' := by
  have H := Lib.hid h
  have HU := Lib.hid hu
  have HV := Lib.hid hv
  clear h hu hv
  obtain ⟨k0, n0, s0⟩ := v
  rw [vv_eq]
  go_enter Tryd.func60, Tryd.ntmps60
  go_wp2_with fail
  go_loopw [11] (fun v11 wr => ∃ k : Nat, k ≤ len ∧ v11 = .int .i64 k ∧ Vb wr w.heap.size (madeK (k0, n0, s0) key (us.take k)) ∧ Vb wr (w.heap.size + 1) (0, 0, ⟨#[]⟩) ∧ Below w.heap.size w wr) (fun v11 _ => len - (intOf v11).toNat)
  case atStart => exact ⟨0, Nat.zero_le _, rfl, old_at (new_at rfl), new_at (by simp), Joins.below_alloc2 _ _ _⟩
  case round =>
    obtain ⟨k, hk, rfl, hvb, hzb, hbel⟩ := hrel
    have hH : w.heap.size + 1 < wr.heap.size := hzb.lt
    have hsz := H.out.size
    by_cases hlt : k < len
    · have hstep := madeK_take (k0, n0, s0) key us k (by omega) up0
      have hus : Sh (us.getD k up0).2.2.2 := HU.out _ (mem_getD (by omega))
      have hvs : Sh (madeK (k0, n0, s0) key (us.take k)).2.2 := madeK_sh key _ (fun u hx => HU.out u (List.mem_of_mem_take hx)) _ HV.out
      obtain ⟨b, off, rfl, c0, c1, c2, c3⟩ := cells_of H.out hbel hlt
      have HM := fun w => Lib.hid (may_any (us.getD k up0) w)
      have HA := fun w => Lib.hid (apply_any (madeK (k0, n0, s0) key (us.take k)) (us.getD k up0) hvs hus w)
      clear hus hvs hsz H HU HV
      generalize us.getD k up0 = u at *
      by_cases hke : u.1 = key
      · have q := eq_yes key
        by_cases hme : mayE u = 0
        · rw [if_pos ⟨hke, hme⟩] at hstep
          rw [hme] at HM
          subst hke
          have HST := Lib.hid hstep
          clear hstep hme
          have HARM := fun w1 hb => Lib.hid (made_arm (u := u) (w1 := w1) hvb hzb hbel hb)
          clear hvb hzb hbel
          generalize oneV (madeK (k0, n0, s0) u.1 (us.take k)) u = r at *
          generalize madeK (k0, n0, s0) u.1 (us.take k) = v at *
          obtain ⟨rk, rn, rs⟩ := r
          obtain ⟨vk, vn, vs⟩ := v
          obtain ⟨key, ux, um, ut⟩ := u
          simp only [vv_eq, uu] at HM HA HARM c0 c1 c2 c3 q ⊢
          go_wp2_with fail
          refine (HM _).out.mono ?_
          rintro e w1 ⟨rfl, hb1⟩
          obtain ⟨hv1, hz1, hu1, hB1⟩ := (HARM _ hb1).out
          obtain ⟨d0, d1, d2⟩ := Vb.c hv1
          obtain ⟨e0, e1, e2, e3⟩ := Ub.c hu1
          have H1 := Lib.hid (And.intro hv1 (And.intro hz1 hB1))
          clear hb1 hv1 hz1 hB1 hu1 HARM HM
          go_wp2_with fail
          refine (HA _).out.mono ?_
          rintro e w2 ⟨rfl, hb2⟩
          obtain ⟨hv2, hz2, hB2⟩ := made_arm2 H1.out hb2
          obtain ⟨g0, g1, g2⟩ := Vb.c hv2
          have f0 := unfrozen_at hv2 0
          have f1 := unfrozen_at hv2 1
          have f2 := unfrozen_at hv2 2
          have HV2 := Lib.hid hv2
          have HZ2 := Lib.hid hz2
          have HB2 := Lib.hid hB2
          clear hb2 hv2 hz2 hB2 H1 HA
          go_wp2
          go_roundw
          case rel =>
            refine ⟨k + 1, by omega, by go_num, ?_, HZ2.out.other (by omega) _ _ _, below_set3 HB2.out (by omega) _ _ _⟩
            rw [HST.out]; exact HV2.out.set _ _ _
          case measure => simp [intOf]; omega
        · rw [if_neg (fun x => hme x.2)] at hstep
          have hq : (mayE u == 0) = false := beq_false_of_ne hme
          subst hke
          have HST := Lib.hid hstep
          clear hstep hme HA
          have HARM := fun w1 hb => Lib.hid (made_arm (u := u) (w1 := w1) hvb hzb hbel hb)
          clear hvb hzb hbel
          generalize mayE u = r at *
          obtain ⟨key, ux, um, ut⟩ := u
          simp only [uu] at HM HARM c0 c1 c2 c3 q ⊢
          go_wp2_with fail
          refine (HM _).out.mono ?_
          rintro e w1 ⟨rfl, hb1⟩
          have H1 := Lib.hid (HARM _ hb1).out
          clear hb1 HARM HM
          go_wp2
          go_roundw
          case rel => exact ⟨k + 1, by omega, by go_num, by rw [HST.out]; exact H1.out.1, H1.out.2.1, H1.out.2.2.2⟩
          case measure => simp [intOf]; omega
      · have q := eq_no hke
        rw [if_neg (fun x => hke x.1)] at hstep
        have HST := Lib.hid hstep
        have HVB := Lib.hid hvb
        have HZB := Lib.hid hzb
        have HBEL := Lib.hid hbel
        clear hvb hzb hbel hstep hke HM HA
        obtain ⟨key', ux, um, ut⟩ := u
        simp only at c0 c1 c2 c3 q
        go_wp2
        go_roundw
        case rel => exact ⟨k + 1, by omega, by go_num, by rw [HST.out]; exact HVB.out.alloc _, HZB.out.alloc _, HBEL.out.alloc HBEL.out.size _⟩
        case measure => simp [intOf]; omega
    · obtain rfl : k = len := by omega
      rw [take_all hsz] at hvb
      clear hsz H HU HV
      obtain ⟨⟨rk, rn, rs⟩, HEQ⟩ : ∃ r, Hid (madeK (k0, n0, s0) key us = r) := ⟨_, Lib.hid rfl⟩
      rw [HEQ.out] at hvb
      obtain ⟨d0, d1, d2⟩ := Vb.c hvb
      obtain ⟨j0, j1, j2⟩ := Vb.c hzb
      have p0 := unfrozen_at hzb 0
      have p1 := unfrozen_at hzb 1
      have p2 := unfrozen_at hzb 2
      have HBEL := Lib.hid hbel
      clear hvb hzb hbel
      go_wp2
      refine bodyPost_ret (v := .agg #[.int .i64 rk, .int .i64 rn, .string rs]) (by simp [results, Tryd.results60, go_sem, j0, j1, j2]) rfl ⟨by rw [HEQ.out]; rfl, ?_⟩
      exact below_set3 HBEL.out (by omega) _ _ _
end Go.Proofs.YtbbgibekplfacaaDoor.Y
/- replay: Read. -/
namespace Go.Proofs.YtbbgibekplfacaaDoor.Y
open Go Go.RowKit Go.Maps
set_option maxRecDepth 20000
theorem read_arm {w wr w1 : World} {v z : Vl} {o : Obj} (hv : Vb wr (w.heap.size + 1) v) (hz : Vb wr w.heap.size z) (hbel : Below w.heap.size w wr) (hb : Below (wr.alloc o).heap.size (wr.alloc o) w1) :
    Vb w1 (w.heap.size + 1) v ∧ Vb w1 w.heap.size z ∧ Below w.heap.size w w1 := ⟨(hv.alloc _).kept hb rfl, (hz.alloc _).kept hb rfl, Below.next (hbel.alloc hbel.size _) hb⟩
set_option maxHeartbeats 1000000 in
theorem read_any (key : ByteArray) (a : Option Addr) (len cap : Nat) (us : List Up) (ar : Option Addr) (lr cr : Nat) (rs : List Rn) (hp : Pl us rs) (w : World) (hu : IsUs w a len us) (hr : IsRs w ar lr rs) :
    Calls Tryd.prog 43 #[.string key, .slice a len cap, .slice ar lr cr] w fun e w' => e = .returned (vv (stF (flatR rs ++ us) (ky key))) ∧ Below w.heap.size w w' := by
  have HP := Lib.hid hp
  have H := Lib.hid hr
  have HU := Lib.hid hu
  have hlr : lr ≤ 1000 := by have := hp.lr; have := hr.size; omega
  clear hp hr hu
  go_enter Tryd.func43, Tryd.ntmps43
  go_wp2_with fail
  go_loopw [12] (fun v12 wr => ∃ k : Nat, k ≤ lr ∧ v12 = .int .i64 k ∧ Vb wr (w.heap.size + 1) (madeK noneV key (flatR (rs.take k))) ∧ Vb wr w.heap.size (0, 0, ⟨#[]⟩) ∧ Below w.heap.size w wr) (fun v12 _ => lr - (intOf v12).toNat)
  case atStart => exact ⟨0, Nat.zero_le _, rfl, new_at (by simp), old_at (new_at rfl), Joins.below_alloc2 _ _ _⟩
  case round =>
    obtain ⟨k, hk, rfl, hvb, hzb, hbel⟩ := hrel
    have hH : w.heap.size + 1 < wr.heap.size := hvb.lt
    have hsz := H.out.size
    by_cases hlt : k < lr
    · obtain ⟨b, off, rfl, c0, c1, c2, hru⟩ := rcells_of H.out hbel hlt
      have hat := HP.out.at (k := k) (by omega)
      have hstep := madeK_app noneV key (flatR (rs.take k)) (rs.getD k rn0).us
      rw [← flatR_take rs k (by omega)] at hstep
      have HST := Lib.hid hstep
      have hvs : Sh (madeK noneV key (flatR (rs.take k))).2.2 := madeK_sh key _ (HP.out.taken k) _ sh_none
      have HM := fun w h => Lib.hid (rmade_any (madeK noneV key (flatR (rs.take k))) key (rs.getD k rn0).a (rs.getD k rn0).len (rs.getD k rn0).cap (rs.getD k rn0).us hvs (fun u hx => (hat.1 u hx).2) (by have := hru.1.size; omega) w h)
      have HR := fun o => Lib.hid (isUs_below hru.1 (hbel.alloc hbel.size o))
      have HVB := Lib.hid hvb
      have HARM := fun o w1 hb => Lib.hid (read_arm (o := o) (w1 := w1) hvb hzb hbel hb)
      clear hstep hat hru hvs hvb hzb hbel hsz H HU HP
      generalize madeK (madeK noneV key (flatR (rs.take k))) key (rs.getD k rn0).us = r at *
      generalize madeK noneV key (flatR (rs.take k)) = v at *
      generalize rs.getD k rn0 = rr at *
      obtain ⟨rk, rn, rs0⟩ := r
      obtain ⟨vk, vn, vs⟩ := v
      obtain ⟨ro, rnn, ra, rl, rc, ru⟩ := rr
      simp only [vv_eq] at HM HR HARM c0 c1 c2 ⊢
      obtain ⟨d0, d1, d2⟩ := Vb.c HVB.out
      clear HVB
      have HR := HR (.cells #[.int .i64 ro, .int .i64 rnn, .slice ra rl rc] 35)
      have HARM := HARM (.cells #[.int .i64 ro, .int .i64 rnn, .slice ra rl rc] 35)
      go_wp2_with fail
      refine (HM _ HR.out).out.mono ?_
      rintro e w1 ⟨rfl, hb1⟩
      obtain ⟨hv1, hz1, hB1⟩ := (HARM _ hb1).out
      obtain ⟨g0, g1, g2⟩ := Vb.c hv1
      have f0 := unfrozen_at hv1 0
      have f1 := unfrozen_at hv1 1
      have f2 := unfrozen_at hv1 2
      have HV2 := Lib.hid hv1
      have HZ2 := Lib.hid hz1
      have HB2 := Lib.hid hB1
      clear hb1 hv1 hz1 hB1 HARM HM HR d0 d1 d2
      go_wp2
      go_roundw
      case rel =>
        refine ⟨k + 1, by omega, by go_num, ?_, HZ2.out.other (by omega) _ _ _, below_set3 HB2.out (by omega) _ _ _⟩
        rw [HST.out]; exact HV2.out.set _ _ _
      case measure => simp [intOf]; omega
    · obtain rfl : k = lr := by omega
      rw [takeR_all hsz] at hvb
      have hvs : Sh (madeK noneV key (flatR rs)).2.2 := madeK_sh key _ (by have := HP.out.taken k; rwa [takeR_all hsz] at this) _ sh_none
      have HM := fun w h => Lib.hid (rmade_any (madeK noneV key (flatR rs)) key a len cap us hvs (fun u hx => (HP.out.us.1 u hx).2) (by have := HU.out.size; have := HP.out.us.2; omega) w h)
      rw [← madeK_app, read_eq key (flatR rs ++ us)] at HM
      obtain ⟨⟨rk, rn, rs0⟩, HEQ⟩ : ∃ r, Hid (stF (flatR rs ++ us) (ky key) = r) := ⟨_, Lib.hid rfl⟩
      rw [HEQ.out] at HM
      generalize madeK noneV key (flatR rs) = v at *
      obtain ⟨vk, vn, vs⟩ := v
      simp only [vv_eq] at HM
      obtain ⟨d0, d1, d2⟩ := Vb.c hvb
      have HI := Lib.hid (isUs_below HU.out hbel)
      have HZ := Lib.hid hzb
      have HBEL := Lib.hid hbel
      clear hvb hzb hbel hvs hsz H HU HP
      go_wp2_with fail
      refine (HM _ HI.out).out.mono ?_
      rintro e w1 ⟨rfl, hb1⟩
      have hz1 := HZ.out.kept hb1 rfl
      obtain ⟨j0, j1, j2⟩ := Vb.c hz1
      have p0 := unfrozen_at hz1 0
      have p1 := unfrozen_at hz1 1
      have p2 := unfrozen_at hz1 2
      have HB1 := Lib.hid (Below.next HBEL.out hb1)
      clear hz1 hb1 HZ HBEL HM
      go_wp2
      refine bodyPost_ret (v := .agg #[.int .i64 rk, .int .i64 rn, .string rs0]) (by simp [results, Tryd.results43, go_sem, j0, j1, j2]) rfl ⟨by rw [HEQ.out]; rfl, ?_⟩
      exact below_set3 HB1.out (by omega) _ _ _
end Go.Proofs.YtbbgibekplfacaaDoor.Y
/- replay: do, State, Len. -/
namespace Go.Proofs.YtbbgibekplfacaaDoor.Y
open Go Go.RowKit Go.Maps
set_option maxRecDepth 20000
theorem bgrown {B : Nat} {w w1 w2 : World} {m : Nat} (h : Below B w w1) (hg : w1.grownBy w2 (some m)) (hB : B ≤ w1.heap.size) (hm : B ≤ m) : Below B w w2 := h.grown hg hB (fun j hj => by cases hj; exact hm)
theorem fold_take (us : List Up) (f : Fn) (k : Nat) (h : k < us.length) : (us.take (k + 1)).foldl doF f = doF ((us.take k).foldl doF f) (us.getD k up0) := by
  rw [List.take_add_one, List.foldl_append]
  simp [List.getD_eq_getElem?_getD, h]
set_option maxHeartbeats 2000000 in
theorem dos_any (b m n : Nat) (f : Fn) (a : Option Addr) (len cap : Nat) (us : List Up) (hu : ∀ u ∈ us, u.1.size ≤ 1000 ∧ Sh u.2.2.2) (hf : ∀ k, Gd (f k)) (hl : len ≤ 1000) (hn : n ≤ 10000) (w0 w : World) (h0 : IsUs w0 a len us) (hB : Below w0.heap.size w0 w) (hm : w0.heap.size ≤ m) (h : St w b m n f) :
    Calls Tryd.prog 77 #[.pointer (some ⟨b, 0, none⟩), .slice a len cap] w fun e w' => e = .returned (.tuple #[]) ∧ St w' b m (n + len) (us.foldl doF f) ∧ w.grownBy w' (some m) := by
  have H0 := Lib.hid h0
  have HB := Lib.hid hB
  have HU := Lib.hid hu
  have HF := Lib.hid hf
  have HS := Lib.hid h
  clear h0 hB hu hf h
  go_enter Tryd.func77, Tryd.ntmps77
  go_wp2_with fail
  go_loopw [8] (fun v8 wr => ∃ k : Nat, k ≤ len ∧ v8 = .int .i64 k ∧ St wr b m (n + k) ((us.take k).foldl doF f) ∧ w.grownBy wr (some m)) (fun v8 _ => len - (intOf v8).toNat)
  case atStart => exact ⟨0, Nat.zero_le _, rfl, HS.out, World.grownBy.refl _ _⟩
  case round =>
    obtain ⟨k, hk, rfl, hst, hg⟩ := hrel
    clear HS
    have hsz := H0.out.size
    by_cases hlt : k < len
    · have hbel := bgrown HB.out hg HB.out.size hm
      obtain ⟨b1, off, rfl, c0, c1, c2, c3⟩ := cells_of H0.out hbel hlt
      have hus := HU.out _ (mem_getD (us := us) (k := k) (by omega))
      have HD := fun w h => Lib.hid (do_any b m (n + k) ((us.take k).foldl doF f) (us.getD k up0) hus.1 (by omega) hus.2 (gd_fold _ (fun u hx => (HU.out u (List.mem_of_mem_take hx)).2) f HF.out) w h)
      rw [← fold_take us f k (by omega)] at HD
      have HST := Lib.hid hst
      have HG := Lib.hid hg
      clear hst hg hbel hus hsz
      generalize mayE (us.getD k up0) = me at *
      generalize us.getD k up0 = u at *
      obtain ⟨uk, ux, un, ut⟩ := u
      simp only [uu] at HD c0 c1 c2 c3
      go_wp2_with fail
      refine (HD _ (HST.out.alloc _)).out.mono ?_
      rintro e w5 ⟨rfl, h5, hg5⟩
      have H5 := Lib.hid h5
      have HG5 := Lib.hid (gtrans (gtrans HG.out (World.grownBy_alloc wr _ _)) hg5)
      clear h5 hg5 HST HG HD
      go_wp2
      go_roundw
      case rel => exact ⟨k + 1, by omega, by go_num, H5.out, HG5.out⟩
      case measure => simp [intOf]; omega
    · obtain rfl : k = len := by omega
      rw [take_all hsz] at hst
      have HST := Lib.hid hst
      have HG := Lib.hid hg
      clear hst hg hsz
      go_wp2
      first | go_end0 | refine bodyPost_ret (results_none rfl _ _ _) rfl ?_
      exact ⟨rfl, HST.out, HG.out⟩
theorem new_ex (w : World) : Calls Tryd.prog 76 #[] w fun e w' => ∃ b m, e = .returned (.pointer (some ⟨b, 0, none⟩)) ∧ w.heap.size ≤ b ∧ w.heap.size ≤ m ∧ St w' b m 0 f0 ∧ Below w.heap.size w w' :=
  (new_any w).mono fun _ _ ⟨he, h, hb, _⟩ => ⟨w.heap.size + 1, w.heap.size, he, by omega, Nat.le_refl _, h, hb⟩
set_option maxHeartbeats 2000000 in
theorem state_any (a : Option Addr) (len cap : Nat) (us : List Up) (ar : Option Addr) (lr cr : Nat) (rs : List Rn) (hp : Pl us rs) (w : World) (hu : IsUs w a len us) (hr : IsRs w ar lr rs) :
    Calls Tryd.prog 62 #[.slice a len cap, .slice ar lr cr] w fun e w' => ∃ b m, e = .returned (.pointer (some ⟨b, 0, none⟩)) ∧ w.heap.size ≤ m ∧ St w' b m 1000 (stF (flatR rs ++ us)) ∧ Below w.heap.size w w' := by
  have HP := Lib.hid hp
  have H := Lib.hid hr
  have HU := Lib.hid hu
  have hlr : lr ≤ 1000 := by have := hp.lr; have := hr.size; omega
  clear hp hr hu
  go_enter Tryd.func62, Tryd.ntmps62
  go_wp2_with fail
  refine (new_ex _).mono ?_
  rintro e w1 ⟨b1, m1, rfl, hb1, hm1, h1, hbl1⟩
  have H1 := Lib.hid h1
  have HB1 := Lib.hid hbl1
  clear h1 hbl1
  go_wp2_with fail
  go_loopw [11] (fun v11 wr => ∃ k : Nat, k ≤ lr ∧ v11 = .int .i64 k ∧ St wr b1 m1 (flatR (rs.take k)).length (stF (flatR (rs.take k))) ∧ Below w.heap.size w wr) (fun v11 _ => lr - (intOf v11).toNat)
  case atStart => exact ⟨0, Nat.zero_le _, rfl, H1.out, HB1.out⟩
  case round =>
    obtain ⟨k, hk, rfl, hst, hbel⟩ := hrel
    clear H1 HB1
    have hsz := H.out.size
    by_cases hlt : k < lr
    · obtain ⟨b, off, rfl, c0, c1, c2, hru⟩ := rcells_of H.out hbel hlt
      have hat := HP.out.at (k := k) (by omega)
      have hrl := hru.1.size
      have HD := fun W hB h => Lib.hid (dos_any b1 m1 (flatR (rs.take k)).length (stF (flatR (rs.take k))) (rs.getD k rn0).a (rs.getD k rn0).len (rs.getD k rn0).cap (rs.getD k rn0).us hat.1 (gd_st _ (HP.out.taken k)) (by omega) (by omega) w W hru.1 hB hm1 h)
      rw [← fold_app, ← flatR_take rs k (by omega), ← hrl, ← List.length_append, ← flatR_take rs k (by omega), hrl] at HD
      have HST := Lib.hid hst
      have HBEL := Lib.hid hbel
      clear hst hbel hat hru hsz hrl
      generalize rs.getD k rn0 = rr at *
      obtain ⟨ro, rnn, ra, rl, rc, ru⟩ := rr
      simp only at HD c0 c1 c2
      go_wp2_with fail
      refine (HD _ (HBEL.out.alloc HBEL.out.size _) (HST.out.alloc _)).out.mono ?_
      rintro e w5 ⟨rfl, h5, hg5⟩
      have H5 := Lib.hid h5
      have HB5 := Lib.hid (bgrown (HBEL.out.alloc HBEL.out.size _) hg5 (by have := HBEL.out.size; simp; omega) hm1)
      clear h5 hg5 HST HBEL HD
      go_wp2
      go_roundw
      case rel => exact ⟨k + 1, by omega, by go_num, H5.out, HB5.out⟩
      case measure => simp [intOf]; omega
    · obtain rfl : k = lr := by omega
      rw [takeR_all hsz] at hst
      have hul := HU.out.size
      have hlen := HP.out.len
      rw [List.length_append] at hlen
      have HD := fun W hB h => Lib.hid (dos_any b1 m1 (flatR rs).length (stF (flatR rs)) a len cap us HP.out.us.1 (gd_st _ (by have := HP.out.taken k; rwa [takeR_all hsz] at this)) (by omega) (by omega) w W HU.out hB hm1 h)
      rw [← fold_app] at HD
      have HST := Lib.hid hst
      have HBEL := Lib.hid hbel
      clear hst hbel hsz
      go_wp2_with fail
      refine (HD _ HBEL.out HST.out).out.mono ?_
      rintro e w5 ⟨rfl, h5, hg5⟩
      have H5 := Lib.hid (h5.mono (n' := 1000) (by omega))
      have HB5 := Lib.hid (bgrown HBEL.out hg5 HBEL.out.size hm1)
      clear h5 hg5 HST HBEL HD
      go_wp2
      go_ret
      exact ⟨b1, m1, rfl, hm1, H5.out, HB5.out⟩
set_option maxHeartbeats 400000 in
theorem lens_any (a : Option Addr) (len cap : Nat) (us : List Up) (ar : Option Addr) (lr cr : Nat) (rs : List Rn) (hp : Pl us rs) (ss : List Ky) (hss : KeyL (stF (flatR rs ++ us)) ss) (w : World) (hu : IsUs w a len us) (hr : IsRs w ar lr rs) :
    Calls Tryd.prog 46 #[.slice a len cap, .slice ar lr cr] w fun e w' => e = .returned (.int .i64 ss.length) ∧ Below w.heap.size w w' := by
  have HS := Lib.hid (state_any a len cap us ar lr cr rs hp w hu hr)
  have HL := fun b m w h => Lib.hid (len_any b m 1000 _ ss hss w h)
  clear hu hr hp hss
  go_enter Tryd.func46, Tryd.ntmps46
  go_wp2_with fail
  refine HS.out.mono ?_
  rintro e w1 ⟨b, m, rfl, hm, h1, hb1⟩
  have H1 := Lib.hid h1
  have HB1 := Lib.hid hb1
  clear h1 hb1 HS
  go_wp2_with fail
  refine (HL b m _ H1.out).out.mono ?_
  rintro e w2 ⟨rfl, rfl⟩
  go_wp2
  go_ret
  exact ⟨rfl, HB1.out⟩
end Go.Proofs.YtbbgibekplfacaaDoor.Y
