/- replay: do, State, Len. -/
import Derived.Test.YteonmljchcekpaaYP
import Derived.Test.YteonmljchcekpaaS6
namespace Go.Proofs.Yteonmljchcekpaa
open Go Go.RowKit Go.Maps
set_option maxRecDepth 20000
theorem bgrown {B : Nat} {w w1 w2 : World} {m : Nat} (h : Below B w w1) (hg : w1.grownBy w2 (some m)) (hB : B ≤ w1.heap.size) (hm : B ≤ m) : Below B w w2 := h.grown hg hB (fun j hj => by cases hj; exact hm)
theorem fold_take (us : List Up) (f : Fn) (k : Nat) (h : k < us.length) : (us.take (k + 1)).foldl doF f = doF ((us.take k).foldl doF f) (us.getD k up0) := by
  rw [List.take_add_one, List.foldl_append]
  simp [List.getD_eq_getElem?_getD, h]
set_option maxHeartbeats 2000000 in
theorem dos_any (b m n : Nat) (f : Fn) (a : Option Addr) (len cap : Nat) (us : List Up) (hu : ∀ u ∈ us, u.1.size ≤ 1000 ∧ Sh u.2.2.2) (hf : ∀ k, Gd (f k)) (hl : len ≤ 1000) (hn : n ≤ 10000) (w0 w : World) (h0 : IsUs w0 a len us) (hB : Below w0.heap.size w0 w) (hm : w0.heap.size ≤ m) (h : St w b m n f) :
    Calls Try.prog 30 #[.pointer (some ⟨b, 0, none⟩), .slice a len cap] w fun e w' => e = .returned (.tuple #[]) ∧ St w' b m (n + len) (us.foldl doF f) ∧ w.grownBy w' (some m) := by
  have H0 := Lib.hid h0
  have HB := Lib.hid hB
  have HU := Lib.hid hu
  have HF := Lib.hid hf
  have HS := Lib.hid h
  clear h0 hB hu hf h
  go_enter Try.func30, Try.ntmps30
  go_wp2_with fail
  go_loopw [8] (fun v8 wr => ∃ k : Nat, k ≤ len ∧ v8 = .int .i64 k ∧ St wr b m (n + k) ((us.take k).foldl doF f) ∧ w.grownBy wr (some m)) (fun v8 _ => len - (intOf v8).toNat)
  case atStart => exact ⟨0, Nat.zero_le _, rfl, HS.out, World.grownBy.refl _ _⟩
  case round =>
    obtain ⟨k, hk, rfl, hst, hg⟩ := hrel
    clear HS
    have hsz := H0.out.size
    by_cases hlt : k < len
    · have hbel := bgrown HB.out hg HB.out.size hm
      obtain ⟨b1, off, rfl, c0, c1, c2, c3⟩ := cells_of H0.out hbel hlt
      have hus := HU.out _ (mem_getD (us := us) (k := k) (by omega))
      have HD := fun w h => Lib.hid (do_any b m (n + k) ((us.take k).foldl doF f) (us.getD k up0) hus.1 (by omega) hus.2 (gd_fold _ (fun u hx => (HU.out u (List.mem_of_mem_take hx)).2) f HF.out) w h)
      rw [← fold_take us f k (by omega)] at HD
      have HST := Lib.hid hst
      have HG := Lib.hid hg
      clear hst hg hbel hus hsz
      generalize mayE (us.getD k up0) = me at *
      generalize us.getD k up0 = u at *
      obtain ⟨uk, ux, un, ut⟩ := u
      simp only [uu] at HD c0 c1 c2 c3
      go_wp2_with fail
      refine (HD _ (HST.out.alloc _)).out.mono ?_
      rintro e w5 ⟨rfl, h5, hg5⟩
      have H5 := Lib.hid h5
      have HG5 := Lib.hid (gtrans (gtrans HG.out (World.grownBy_alloc wr _ _)) hg5)
      clear h5 hg5 HST HG HD
      go_wp2
      go_roundw
      case rel => exact ⟨k + 1, by omega, by go_num, H5.out, HG5.out⟩
      case measure => simp [intOf]; omega
    · obtain rfl : k = len := by omega
      rw [take_all hsz] at hst
      have HST := Lib.hid hst
      have HG := Lib.hid hg
      clear hst hg hsz
      go_wp2
      first | go_end0 | refine bodyPost_ret (results_none rfl _ _ _) rfl ?_
      exact ⟨rfl, HST.out, HG.out⟩
theorem new_ex (w : World) : Calls Try.prog 29 #[] w fun e w' => ∃ b m, e = .returned (.pointer (some ⟨b, 0, none⟩)) ∧ w.heap.size ≤ b ∧ w.heap.size ≤ m ∧ St w' b m 0 f0 ∧ Below w.heap.size w w' :=
  (new_any w).mono fun _ _ ⟨he, h, hb, _⟩ => ⟨w.heap.size + 1, w.heap.size, he, by omega, Nat.le_refl _, h, hb⟩
set_option maxHeartbeats 2000000 in
theorem state_any (a : Option Addr) (len cap : Nat) (us : List Up) (ar : Option Addr) (lr cr : Nat) (rs : List Rn) (hp : Pl us rs) (w : World) (hu : IsUs w a len us) (hr : IsRs w ar lr rs) :
    Calls Try.prog 13 #[.slice a len cap, .slice ar lr cr] w fun e w' => ∃ b m, e = .returned (.pointer (some ⟨b, 0, none⟩)) ∧ w.heap.size ≤ m ∧ St w' b m 1000 (stF (flatR rs ++ us)) ∧ Below w.heap.size w w' := by
  have HP := Lib.hid hp
  have H := Lib.hid hr
  have HU := Lib.hid hu
  have hlr : lr ≤ 1000 := by have := hp.lr; have := hr.size; omega
  clear hp hr hu
  go_enter Try.func13, Try.ntmps13
  go_wp2_with fail
  refine (new_ex _).mono ?_
  rintro e w1 ⟨b1, m1, rfl, hb1, hm1, h1, hbl1⟩
  have H1 := Lib.hid h1
  have HB1 := Lib.hid hbl1
  clear h1 hbl1
  go_wp2_with fail
  go_loopw [11] (fun v11 wr => ∃ k : Nat, k ≤ lr ∧ v11 = .int .i64 k ∧ St wr b1 m1 (flatR (rs.take k)).length (stF (flatR (rs.take k))) ∧ Below w.heap.size w wr) (fun v11 _ => lr - (intOf v11).toNat)
  case atStart => exact ⟨0, Nat.zero_le _, rfl, H1.out, HB1.out⟩
  case round =>
    obtain ⟨k, hk, rfl, hst, hbel⟩ := hrel
    clear H1 HB1
    have hsz := H.out.size
    by_cases hlt : k < lr
    · obtain ⟨b, off, rfl, c0, c1, c2, hru⟩ := rcells_of H.out hbel hlt
      have hat := HP.out.at (k := k) (by omega)
      have hrl := hru.1.size
      have HD := fun W hB h => Lib.hid (dos_any b1 m1 (flatR (rs.take k)).length (stF (flatR (rs.take k))) (rs.getD k rn0).a (rs.getD k rn0).len (rs.getD k rn0).cap (rs.getD k rn0).us hat.1 (gd_st _ (HP.out.taken k)) (by omega) (by omega) w W hru.1 hB hm1 h)
      rw [← fold_app, ← flatR_take rs k (by omega), ← hrl, ← List.length_append, ← flatR_take rs k (by omega), hrl] at HD
      have HST := Lib.hid hst
      have HBEL := Lib.hid hbel
      clear hst hbel hat hru hsz hrl
      generalize rs.getD k rn0 = rr at *
      obtain ⟨ro, rnn, ra, rl, rc, ru⟩ := rr
      simp only at HD c0 c1 c2
      go_wp2_with fail
      refine (HD _ (HBEL.out.alloc HBEL.out.size _) (HST.out.alloc _)).out.mono ?_
      rintro e w5 ⟨rfl, h5, hg5⟩
      have H5 := Lib.hid h5
      have HB5 := Lib.hid (bgrown (HBEL.out.alloc HBEL.out.size _) hg5 (by have := HBEL.out.size; simp; omega) hm1)
      clear h5 hg5 HST HBEL HD
      go_wp2
      go_roundw
      case rel => exact ⟨k + 1, by omega, by go_num, H5.out, HB5.out⟩
      case measure => simp [intOf]; omega
    · obtain rfl : k = lr := by omega
      rw [takeR_all hsz] at hst
      have hul := HU.out.size
      have hlen := HP.out.len
      rw [List.length_append] at hlen
      have HD := fun W hB h => Lib.hid (dos_any b1 m1 (flatR rs).length (stF (flatR rs)) a len cap us HP.out.us.1 (gd_st _ (by have := HP.out.taken k; rwa [takeR_all hsz] at this)) (by omega) (by omega) w W HU.out hB hm1 h)
      rw [← fold_app] at HD
      have HST := Lib.hid hst
      have HBEL := Lib.hid hbel
      clear hst hbel hsz
      go_wp2_with fail
      refine (HD _ HBEL.out HST.out).out.mono ?_
      rintro e w5 ⟨rfl, h5, hg5⟩
      have H5 := Lib.hid (h5.mono (n' := 1000) (by omega))
      have HB5 := Lib.hid (bgrown HBEL.out hg5 HBEL.out.size hm1)
      clear h5 hg5 HST HBEL HD
      go_wp2
      go_ret
      exact ⟨b1, m1, rfl, hm1, H5.out, HB5.out⟩
set_option maxHeartbeats 400000 in
theorem lens_any (a : Option Addr) (len cap : Nat) (us : List Up) (ar : Option Addr) (lr cr : Nat) (rs : List Rn) (hp : Pl us rs) (ss : List Ky) (hss : KeyL (stF (flatR rs ++ us)) ss) (w : World) (hu : IsUs w a len us) (hr : IsRs w ar lr rs) :
    Calls Try.prog 14 #[.slice a len cap, .slice ar lr cr] w fun e w' => e = .returned (.int .i64 ss.length) ∧ Below w.heap.size w w' := by
  have HS := Lib.hid (state_any a len cap us ar lr cr rs hp w hu hr)
  have HL := fun b m w h => Lib.hid (len_any b m 1000 _ ss hss w h)
  clear hu hr hp hss
  go_enter Try.func14, Try.ntmps14
  go_wp2_with fail
  refine HS.out.mono ?_
  rintro e w1 ⟨b, m, rfl, hm, h1, hb1⟩
  have H1 := Lib.hid h1
  have HB1 := Lib.hid hb1
  clear h1 hb1 HS
  go_wp2_with fail
  refine (HL b m _ H1.out).out.mono ?_
  rintro e w2 ⟨rfl, rfl⟩
  go_wp2
  go_ret
  exact ⟨rfl, HB1.out⟩
end Go.Proofs.Yteonmljchcekpaa
