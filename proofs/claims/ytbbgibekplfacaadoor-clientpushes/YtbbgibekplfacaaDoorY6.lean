/- The document's Flat, Read, Len. -/
import Derived.Test.YtbbgibekplfacaaDoorT5
import Derived.Test.YtbbgibekplfacaaDoorS9
namespace Go.Proofs.YtbbgibekplfacaaDoor.Y
open Go Go.RowKit Go.Maps Go.Sort
set_option maxRecDepth 20000
set_option maxHeartbeats 2000000 in
theorem flat_any (a : Option Addr) (len cap : Nat) (us : List Up) (ar : Option Addr) (lr cr : Nat) (rs : List Rn) (hp : Pl us rs) (hc : len ≤ cap) (hn : a = none → cap = 0) (w : World) (hu : IsUs w a len us) (hr : IsRs w ar lr rs) :
    Calls Tryd.prog 49 #[.slice a len cap, .slice ar lr cr] w fun e w' => ∃ a' c', e = .returned (.slice a' (flatR rs ++ us).length c') ∧ IsUs w' a' (flatR rs ++ us).length (flatR rs ++ us) ∧ Below w.heap.size w w' := by
  have HP := Lib.hid hp
  have H := Lib.hid hr
  have HU := Lib.hid hu
  have hlr : lr ≤ 1000 := by have := hp.lr; have := hr.size; omega
  clear hp hr hu
  go_enter Tryd.func49, Tryd.ntmps49
  go_wp2_with fail
  go_loopw [5, 6] (fun v5 v6 wr => ∃ k : Nat, k ≤ lr ∧ v6 = .int .i64 k ∧ RowU w.heap.size wr v5 (flatR (rs.take k)) ∧ Below w.heap.size w wr) (fun _ v6 _ => lr - (intOf v6).toNat)
  case atStart => exact ⟨0, Nat.zero_le _, rfl, rowU_new w, Joins.below_alloc1 _ _⟩
  case round =>
    obtain ⟨k, hk, rfl, hrow, hbel⟩ := hrel
    have hsz := H.out.size
    by_cases hlt : k < lr
    · obtain ⟨b, off, rfl, c0, c1, c2, hru⟩ := rcells_of H.out hbel hlt
      have hat := (HP.out.at (k := k) (by omega)).2
      have hrl := hru.1.size
      have HI := Lib.hid (isUs_below hru.1 hbel)
      have HST := Lib.hid (flatR_take rs k (by omega))
      have HRC := Lib.hid hru.2
      have HROW := Lib.hid hrow
      have HBEL := Lib.hid hbel
      have hws := hbel.size
      rw [hrl] at hat
      clear hrow hbel hru hrl hsz
      generalize rs.getD k rn0 = rr at *
      obtain ⟨ro, rnn, ra, rl, rc, ru⟩ := rr
      simp only at c0 c1 c2 HI HRC hat HST
      generalize flatR (rs.take k) = l at *
      go_wp2_with (first
        | (at_builtin; refine wpList_appU rfl _ _ rfl w.heap.size _ l rfl HROW.out ra rl rc rfl ru HI.out HRC.out.1 HRC.out.2 (by omega) hws ?_; intro a2 c2' w2 hr2 hg2 ho2; go_frame)
        | go_in)
      have HR2 := Lib.hid hr2
      have HB2 := Lib.hid (belU HROW.out HBEL.out hg2 hws)
      clear hr2 hg2 ho2 HROW HBEL
      go_roundw
      case rel => exact ⟨k + 1, by omega, by go_num, by rw [HST.out]; exact HR2.out, HB2.out⟩
      case measure => simp [intOf]; omega
    · obtain rfl : k = lr := by omega
      rw [takeR_all hsz] at hrow
      have hlen := HP.out.len
      rw [List.length_append, HU.out.size] at hlen
      have HI := Lib.hid (isUs_below HU.out hbel)
      have hul := HU.out.size
      have HL : Hid ((flatR rs ++ us).length = (flatR rs).length + len) := by rw [List.length_append, hul]; exact Lib.hid rfl
      have HROW := Lib.hid hrow
      have HBEL := Lib.hid hbel
      have hws := hbel.size
      have HC := Lib.hid hc
      have HN := Lib.hid hn
      clear hrow hbel hsz hul hc hn
      go_wp2_with (first
        | (at_builtin; refine wpList_appU rfl _ _ rfl w.heap.size _ (flatR rs) rfl HROW.out a len cap rfl us HI.out HC.out HN.out (by omega) hws ?_; intro a2 c2' w2 hr2 hg2 ho2)
        | go_in)
      go_ret
      exact ⟨a2, c2', by rw [HL.out]; rfl, by rw [HL.out]; exact (hr2.isU HL.out.symm).1, belU HROW.out HBEL.out hg2 hws⟩
theorem Pl.all {us : List Up} {rs : List Rn} (h : Pl us rs) : ∀ u ∈ flatR rs ++ us, Sh u.2.2.2 := fun u hu => (h.sh u hu).2
set_option maxHeartbeats 1000000 in
theorem dread_any (key : ByteArray) (a : Option Addr) (len cap : Nat) (us : List Up) (ar : Option Addr) (lr cr : Nat) (rs : List Rn) (hp : Pl us rs) (hc : len ≤ cap) (hn : a = none → cap = 0) (w : World) (hu : IsUs w a len us) (hr : IsRs w ar lr rs) :
    Calls Tryd.prog 23 #[.string key, .slice a len cap, .slice ar lr cr] w fun e w' => e = .returned (vv (stF (flatR rs ++ us) (ky key))) ∧ Below w.heap.size w w' := by
  have HF := fun w hu hr => Lib.hid (flat_any a len cap us ar lr cr rs hp hc hn w hu hr)
  have HG := fun a' c' w h => Lib.hid (rget_any key a' (flatR rs ++ us).length c' (flatR rs ++ us) hp.all hp.len w h)
  obtain ⟨⟨rk, rn, rs0⟩, HEQ⟩ : ∃ r, Hid (stF (flatR rs ++ us) (ky key) = r) := ⟨_, Lib.hid rfl⟩
  rw [HEQ.out] at HG ⊢
  simp only [vv_eq] at HG ⊢
  have hz : Vb (w.alloc (.cells #[.int .i64 0, .int .i64 0, .string ⟨#[]⟩] 49)) w.heap.size (0, 0, ⟨#[]⟩) := new_at rfl
  have HB := Joins.below_alloc1 w (.cells #[.int .i64 0, .int .i64 0, .string ⟨#[]⟩] 49)
  have HZ := Lib.hid hz
  have HU := Lib.hid (isUs_below hu HB)
  have HR := Lib.hid (isRs_below hr HB)
  have HB0 := Lib.hid HB
  clear hu hr hp hc hn hz HB
  generalize (flatR rs ++ us).length = n at *
  generalize flatR rs ++ us = l at *
  go_enter Tryd.func23, Tryd.ntmps23
  go_wp2_with fail
  refine (HF _ HU.out HR.out).out.mono ?_
  rintro e w1 ⟨a', c', rfl, hi, hb1⟩
  have HI := Lib.hid hi
  have HZ1 := Lib.hid (HZ.out.kept hb1 rfl)
  have HB1 := Lib.hid (Below.next HB0.out hb1)
  clear hi hb1 HZ HB0 HF HU HR
  go_wp2_with fail
  refine (HG _ _ _ HI.out).out.mono ?_
  rintro e w2 ⟨rfl, hb2⟩
  have hz2 := HZ1.out.kept hb2 rfl
  obtain ⟨j0, j1, j2⟩ := Vb.c hz2
  have p0 := unfrozen_at hz2 0
  have p1 := unfrozen_at hz2 1
  have p2 := unfrozen_at hz2 2
  have HB2 := Lib.hid (Below.next HB1.out hb2)
  clear hz2 hb2 HZ1 HB1 HG HI
  go_wp2
  refine bodyPost_ret (v := .agg #[.int .i64 rk, .int .i64 rn, .string rs0]) (by simp [results, Tryd.results23, go_sem, j0, j1, j2]) rfl ⟨rfl, ?_⟩
  exact below_set3 HB2.out (by omega) _ _ _
set_option maxHeartbeats 1000000 in
theorem dlen_any (a : Option Addr) (len cap : Nat) (us : List Up) (ar : Option Addr) (lr cr : Nat) (rs : List Rn) (hp : Pl us rs) (hc : len ≤ cap) (hn : a = none → cap = 0) (ss : List Ky) (hss : KeyL (stF (flatR rs ++ us)) ss) (w : World) (hu : IsUs w a len us) (hr : IsRs w ar lr rs) :
    Calls Tryd.prog 47 #[.slice a len cap, .slice ar lr cr] w fun e w' => e = .returned (.int .i64 ss.length) ∧ Below w.heap.size w w' := by
  have HF := Lib.hid (flat_any a len cap us ar lr cr rs hp hc hn w hu hr)
  have HG := fun a' c' w h => Lib.hid (rkeys_any a' (flatR rs ++ us).length c' (flatR rs ++ us) ss hss hp.all hp.len w h)
  clear hu hr hp hc hn hss
  generalize (flatR rs ++ us).length = n at *
  generalize flatR rs ++ us = l at *
  go_enter Tryd.func47, Tryd.ntmps47
  go_wp2_with fail
  refine HF.out.mono ?_
  rintro e w1 ⟨a', c', rfl, hi, hb1⟩
  have HI := Lib.hid hi
  have HB1 := Lib.hid hb1
  clear hi hb1 HF
  go_wp2_with fail
  refine (HG _ _ _ HI.out).out.mono ?_
  rintro e w2 ⟨g, cap2, rfl, _, hb2⟩
  have HB2 := Lib.hid (Below.next HB1.out hb2)
  clear hb2 HB1 HG HI
  go_wp2
  go_ret
  exact ⟨rfl, HB2.out⟩
end Go.Proofs.YtbbgibekplfacaaDoor.Y
