import Derived.Test.YtbbgibekplfacaaDoorI3
import Derived.Test.YtbbgibekplfacaaDoorT2
import Derived.Test.YtbbgibekplfacaaDoorU5
import Derived.Test.YtbbgibekplfacaaDoorV6
import Derived.Deep.RegionWith
import Derived.Deep.QuietTactic
import Derived.BigQuiet
/- The document's Get. -/
namespace Go.Proofs.YtbbgibekplfacaaDoor.Y
open Go Go.RowKit Go.Maps
set_option maxRecDepth 20000
theorem toList_ky (s : ByteArray) : s.toList = ky s := by rw [ByteArray.toList_eq]; rfl
theorem may_wrap {u : Up} (h : mayE u = 0) : wrap64 u.2.2.1 = u.2.2.1 := by
  obtain ⟨key, x, n, s⟩ := u
  have hn : -2305843009213693952 ≤ n ∧ n ≤ 2305843009213693951 := by
    unfold mayE at h
    simp only at h
    split at h
    · cases h
    · unfold mayK at h
      split at h
      · split at h
        · split at h
          · cases h
          · omega
        · cases h
      · split at h
        · split at h
          · omega
          · cases h
        · split at h
          · split at h
            · omega
            · cases h
          · cases h
  show wrap64 n = n
  unfold wrap64
  omega
theorem eq_no {s t : ByteArray} (h : ¬ s = t) : (s.toList == t.toList) = false := by
  rw [toList_ky, toList_ky]
  exact beq_false_of_ne fun e => h (ky_inj e)
theorem do_other {f : Fn} {u : Up} {key : ByteArray} (h : ¬ u.1 = key) : doF f u (ky key) = f (ky key) := by
  have e : ¬ (ky key = ky u.1 ∧ mayE u = 0) := fun x => h (ky_inj x.1.symm)
  simp only [doF, if_neg e]
theorem do_same {f : Fn} {u : Up} {key : ByteArray} (h : u.1 = key) (hm : mayE u = 0) : doF f u (ky key) = oneV (f (ky key)) u := by
  subst h; simp [doF, hm]
theorem mem_getD {us : List Up} {k : Nat} (h : k < us.length) : us.getD k up0 ∈ us := by
  have e : us.getD k up0 = us[k] := by simp [List.getD_eq_getElem?_getD, h]
  rw [e]; exact List.getElem_mem _
theorem rget_arm {w wr W w1 : World} {v : Vl} (hv : Vb wr (w.heap.size + 1) v) (hz : Vb wr w.heap.size (0, 0, ⟨#[]⟩)) (hbel : Below w.heap.size w wr) (hb : Below W.heap.size W w1) (e1 : W.os = wr.os) (e2 : W.tape = wr.tape) (e3 : W.output = wr.output) (e4 : W.heap = wr.heap) :
    Vb w1 (w.heap.size + 1) v ∧ Vb w1 w.heap.size (0, 0, ⟨#[]⟩) ∧ Below w.heap.size w w1 := ⟨hv.kept hb e4, hz.kept hb e4, Below.far hb hbel e1 e2 e3 e4⟩
set_option maxHeartbeats 4000000 in
theorem rget_any (key : ByteArray) (a : Option Addr) (len cap : Nat) (us : List Up) (hu : ∀ u ∈ us, Sh u.2.2.2) (hl : len ≤ 1000) (w : World) (h : IsUs w a len us) :
    Calls Tryd.prog 48 #[.string key, .slice a len cap] w fun e w' => e = .returned (vv (stF us (ky key))) ∧ Below w.heap.size w w' := by
  have H := Lib.hid h
  have HU := Lib.hid hu
  clear h hu
  go_enter Tryd.func48, Tryd.ntmps48
  go_wp2_with fail
  go_loopw [6] (fun v6 wr => ∃ k : Nat, k ≤ len ∧ v6 = .int .i64 k ∧ Vb wr (w.heap.size + 1) (stF (us.take k) (ky key)) ∧ Vb wr w.heap.size (0, 0, ⟨#[]⟩) ∧ Below w.heap.size w wr) (fun v6 _ => len - (intOf v6).toNat)
  case atStart =>
    refine ⟨0, Nat.zero_le _, rfl, new_at (by simp), old_at (new_at rfl), Joins.below_alloc2 _ _ _⟩
  case round =>
    obtain ⟨k, hk, rfl, hvb, hzb, hbel⟩ := hrel
    have hH : w.heap.size + 1 < wr.heap.size := hvb.lt
    by_cases hlt : k < len
    · have hfl := H.out.size
      have hstep := congrFun (stF_take us k (by omega) up0) (ky key)
      have hus : Sh (us.getD k up0).2.2.2 := HU.out _ (mem_getD (by omega))
      have hgd := gd_st (us.take k) (fun u hx => HU.out u (List.mem_of_mem_take hx)) (ky key)
      obtain ⟨b, off, rfl, hf⟩ := H.out.lies (by omega)
      have hb := hf.lt (by omega)
      have c0 : wr.cell? ⟨b, off + k * 4, none⟩ = some (.string (us.getD k up0).1) := (hbel.cell hb).trans (hf.key k (by omega))
      have c1 : wr.cell? ⟨b, off + k * 4 + 1, none⟩ = some (.int .i64 (us.getD k up0).2.1) := (hbel.cell hb).trans (hf.k k (by omega))
      have c2 : wr.cell? ⟨b, off + k * 4 + 2, none⟩ = some (.int .i64 (us.getD k up0).2.2.1) := (hbel.cell hb).trans (hf.n k (by omega))
      have c3 : wr.cell? ⟨b, off + k * 4 + 3, none⟩ = some (.string (us.getD k up0).2.2.2) := (hbel.cell hb).trans (hf.t k (by omega))
      have hbr : b < wr.heap.size := by omega
      clear hf hb hfl H HU
      generalize us.getD k up0 = u at *
      by_cases hke : u.1 = key
      · by_cases hme : mayE u = 0
        · rw [do_same hke hme] at hstep
          have HM := fun w => Lib.hid (rmay_any u w)
          rw [hme] at HM
          have HA := fun w => Lib.hid (ref_any (stF (us.take k) (ky key)) u hgd.2.1 hgd.2.2 (may_wrap hme) w)
          subst hke
          clear hgd hus hme
          have HST := Lib.hid hstep
          clear hstep
          generalize oneV (stF (us.take k) (ky u.1)) u = r at *
          generalize stF (us.take k) (ky u.1) = v at *
          obtain ⟨rk, rn, rs⟩ := r
          obtain ⟨vk, vn, vs⟩ := v
          obtain ⟨key, ux, um, ut⟩ := u
          simp only [vv_eq, uu] at HM HA c0 c1 c2 c3 ⊢
          have q := eq_yes key
          have HVB := Lib.hid hvb
          have HZB := Lib.hid hzb
          have HBEL := Lib.hid hbel
          clear hvb hzb hbel
          go_wp2_with fail
          refine (HM _).out.mono ?_
          rintro e w1 ⟨rfl, hb1⟩
          obtain ⟨hv1, hz1, hB1⟩ := rget_arm HVB.out HZB.out HBEL.out hb1 rfl rfl rfl rfl
          have e0 : w1.cell? ⟨b, off + k * 4, none⟩ = some (.string key) := (hb1.cell hbr).trans c0
          have e1 : w1.cell? ⟨b, off + k * 4 + 1, none⟩ = some (.int .i64 ux) := (hb1.cell hbr).trans c1
          have e2 : w1.cell? ⟨b, off + k * 4 + 2, none⟩ = some (.int .i64 um) := (hb1.cell hbr).trans c2
          have e3 : w1.cell? ⟨b, off + k * 4 + 3, none⟩ = some (.string ut) := (hb1.cell hbr).trans c3
          obtain ⟨d0, d1, d2⟩ := Vb.c hv1
          have HV1 := Lib.hid hv1
          have HZ1 := Lib.hid hz1
          have HB1 := Lib.hid hB1
          clear hb1 hv1 hz1 hB1 HVB HZB HBEL HM
          go_wp2_with fail
          go_region_with (first
            | (go_at_call 65
               refine (HA _).out.mono ?_
               rintro e w2 ⟨rfl, hb2⟩
               obtain ⟨hv2, hz2, hB2⟩ := rget_arm HV1.out HZ1.out HB1.out hb2 rfl rfl rfl rfl
               obtain ⟨g0, g1, g2⟩ := Vb.c hv2
               have f0 := unfrozen_at hv2 0
               have f1 := unfrozen_at hv2 1
               have f2 := unfrozen_at hv2 2
               have HV2 := Lib.hid hv2
               have HZ2 := Lib.hid hz2
               have HB2 := Lib.hid hB2
               clear hb2 hv2 hz2 hB2))
          all_goals (
            go_wp2_with fail
            go_roundw
            case rel =>
              refine ⟨k + 1, by omega, by go_num, ?_, HZ2.out.other (by omega) _ _ _, below_set3 HB2.out (by omega) _ _ _⟩
              rw [HST.out]; exact HV2.out.set _ _ _
            case measure => simp [intOf]; omega)
        · rw [doF_refused hme] at hstep
          have HM := fun w => Lib.hid (rmay_any u w)
          have hq : (mayE u == 0) = false := beq_false_of_ne hme
          subst hke
          clear hgd hus hme
          have HST := Lib.hid hstep
          clear hstep
          generalize mayE u = r at *
          obtain ⟨key, ux, um, ut⟩ := u
          simp only [uu] at HM c0 c1 c2 c3 ⊢
          have q := eq_yes key
          have HVB := Lib.hid hvb
          have HZB := Lib.hid hzb
          have HBEL := Lib.hid hbel
          clear hvb hzb hbel
          go_wp2_with fail
          refine (HM _).out.mono ?_
          rintro e w1 ⟨rfl, hb1⟩
          have H1 := Lib.hid (rget_arm HVB.out HZB.out HBEL.out hb1 rfl rfl rfl rfl)
          clear hb1 HVB HZB HBEL HM
          go_wp2
          go_roundw
          case rel => exact ⟨k + 1, by omega, by go_num, by rw [HST.out]; exact H1.out.1, H1.out.2.1, H1.out.2.2⟩
          case measure => simp [intOf]; omega
      · rw [do_other hke] at hstep
        have q := eq_no hke
        clear hgd hus hke
        have HST := Lib.hid hstep
        have HVB := Lib.hid hvb
        have HZB := Lib.hid hzb
        have HBEL := Lib.hid hbel
        clear hvb hzb hbel hstep
        obtain ⟨key', ux, um, ut⟩ := u
        simp only at c0 c1 c2 c3 q
        go_wp2
        go_roundw
        case rel => exact ⟨k + 1, by omega, by go_num, by rw [HST.out]; exact HVB.out, HZB.out, HBEL.out⟩
        case measure => simp [intOf]; omega
    · obtain rfl : k = len := by omega
      have e : us.take k = us := List.take_of_length_le (by rw [H.out.size]; exact Nat.le_refl _)
      rw [e] at hvb
      clear e H HU
      obtain ⟨⟨rk, rn, rs⟩, HEQ⟩ : ∃ r, Hid (stF us (ky key) = r) := ⟨_, Lib.hid rfl⟩
      rw [HEQ.out] at hvb
      obtain ⟨d0, d1, d2⟩ := Vb.c hvb
      obtain ⟨j0, j1, j2⟩ := Vb.c hzb
      have p0 := unfrozen_at hzb 0
      have p1 := unfrozen_at hzb 1
      have p2 := unfrozen_at hzb 2
      have HBEL := Lib.hid hbel
      clear hvb hzb hbel
      go_wp2
      refine bodyPost_ret (v := .agg #[.int .i64 rk, .int .i64 rn, .string rs]) (by simp [results, Tryd.results48, go_sem, j0, j1, j2]) rfl ⟨by rw [HEQ.out]; rfl, ?_⟩
      exact below_set3 HBEL.out (by omega) _ _ _
end Go.Proofs.YtbbgibekplfacaaDoor.Y
/- Rows of strings; Same. -/
namespace Go.Proofs.YtbbgibekplfacaaDoor.Y
open Go Go.RowKit Go.Maps Go.Sort
/-- What the walk is told of a row of texts. -/
structure IsSs (w : World) (a : Option Addr) (ss : List Ky) : Prop where
  lies : 0 < ss.length → ∃ b off, a = some ⟨b, off, none⟩ ∧ b < w.heap.size ∧ ∀ i, i < ss.length → w.cell? ⟨b, off + i, none⟩ = some (.string ⟨(ss.getD i []).toArray⟩)
theorem isSs_below {w w' : World} {a : Option Addr} {ss : List Ky} (h : IsSs w a ss) (hb : Below w.heap.size w w') : IsSs w' a ss :=
  ⟨fun h0 => by
    obtain ⟨b, off, e, hl, hf⟩ := h.lies h0
    exact ⟨b, off, e, Nat.lt_of_lt_of_le hl hb.size, fun i hi => (hb.cell hl).trans (hf i hi)⟩⟩
theorem isSs_same {w w' : World} {a : Option Addr} {ss : List Ky} (h : IsSs w a ss) (he : w'.heap = w.heap) : IsSs w' a ss :=
  ⟨fun h0 => by
    obtain ⟨b, off, e, hl, hf⟩ := h.lies h0
    exact ⟨b, off, e, by rw [he]; exact hl, fun i hi => by rw [World.cell?_of_block (w := w) (by rw [he])]; exact hf i hi⟩⟩
theorem isSs_grown {w w' : World} {row : Option Nat} {g : Nat} {ss : List Ky} (h : IsSs w (some ⟨g, 0, none⟩) ss) (hg : w.grownBy w' row) (hne : some g ≠ row) : IsSs w' (some ⟨g, 0, none⟩) ss :=
  ⟨fun h0 => by
    obtain ⟨b, off, e, hl, hf⟩ := h.lies h0
    injection e with e
    injection e with e1 e2
    subst e1 e2
    exact ⟨g, 0, rfl, Nat.lt_of_lt_of_le hl hg.size, fun i hi => hg.cell (hf i hi) hne⟩⟩
theorem isSs_own {w : World} {base g cap : Nat} {ss : List Ky} (h : w.ownsRow base 9 1 (.slice (some ⟨g, 0, none⟩) ss.length cap) ss.length (ss.map encStr)) : IsSs w (some ⟨g, 0, none⟩) ss :=
  ⟨fun _ => ⟨g, 0, rfl, (h.lt g rfl).2, fun i hi => by
    rw [Nat.zero_add, h.cellAt i (by omega)]
    simp [encStr, List.getD_eq_getElem?_getD, hi]⟩⟩
end Go.Proofs.YtbbgibekplfacaaDoor.Y
