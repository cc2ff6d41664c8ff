/- The walk of StoreKeys. -/
import Derived.Test.YtfcbilpbcofcfaaSA
namespace Go.Proofs.Ytfcbilpbcofcfaa
open Go Go.RowKit Go.Maps Go.Sort
theorem gL_sh {len : Nat} {us : List Up} (hl : us.length = len) (h : ¬ gL len us) : ∀ u ∈ us, u.1.size ≤ 100 ∧ Sh u.2.2.2 := fun u hu => by
  obtain ⟨i, hi, rfl⟩ := List.mem_iff_getElem.1 hu
  have h1 : ¬ gU (us.getD i up0) := fun hx => h (.inl (.inr ⟨i, by omega, hx⟩))
  have e : us.getD i up0 = us[i] := by simp [List.getD_eq_getElem?_getD, hi]
  rw [e] at h1
  unfold gU at h1
  refine ⟨by omega, ?_⟩
  show us[i].2.2.2.size ≤ 100000
  omega
theorem gL_len {len : Nat} {us : List Up} (h : ¬ gL len us) : len ≤ 60 := Nat.le_of_not_lt fun hx => h (.inr hx)
theorem take_sh {us : List Up} (h : ∀ u ∈ us, u.1.size ≤ 100 ∧ Sh u.2.2.2) (k : Nat) : ∀ x, Gd (stF (us.take k) x) := fun x => gd_st _ (fun u hu => (h u (List.mem_of_mem_take hu)).2) x
/-- Do, of the next update of a row. -/
theorem do_next {us : List Up} (hs : ∀ u ∈ us, u.1.size ≤ 100 ∧ Sh u.2.2.2) {k : Nat} (hk : k < us.length) (b m n : Nat) (hn : n < 1000) (w : World) (h : St w b m n (stF (us.take k))) :
    Calls Try.prog 11 #[.pointer (some ⟨b, 0, none⟩), uu (us.getD k up0)] w fun e w' => e = .returned (.int .i64 (mayE (us.getD k up0))) ∧ St w' b m (n + 1) (stF (us.take (k + 1))) ∧ w.grownBy w' (some m) := by
  have hm := hs _ (mem_getD hk)
  rw [stF_take us k hk up0]
  exact do_any b m n _ _ (by omega) (by omega) hm.2 (take_sh hs k) w h
theorem cells_of {w wr : World} {a : Option Addr} {len : Nat} {us : List Up} {k : Nat} (h : IsUs w a len us) (hb : Below w.heap.size w wr) (hk : k < len) :
    ∃ b off, a = some ⟨b, off, none⟩ ∧ wr.cell? ⟨b, off + k * 4, none⟩ = some (.string (us.getD k up0).1) ∧ wr.cell? ⟨b, off + k * 4 + 1, none⟩ = some (.int .i64 (us.getD k up0).2.1) ∧ wr.cell? ⟨b, off + k * 4 + 2, none⟩ = some (.int .i64 (us.getD k up0).2.2.1) ∧ wr.cell? ⟨b, off + k * 4 + 3, none⟩ = some (.string (us.getD k up0).2.2.2) := by
  have hI := isUs_below h hb
  have hl := h.size
  obtain ⟨b, off, rfl, hf⟩ := hI.lies (by omega)
  exact ⟨b, off, rfl, hf.key k (by omega), hf.k k (by omega), hf.n k (by omega), hf.t k (by omega)⟩
theorem take_all {us : List Up} {len : Nat} (h : us.length = len) : us.take len = us := List.take_of_length_le (by omega)
theorem set_x {w W : World} {base g cap n : Nat} {ss : List Ky} (h : W.ownsRow base 9 1 (.slice (some ⟨g, 0, none⟩) n cap) n (ss.map encStr)) (hn : ss.length = n) {k : Nat} (hb : Below w.heap.size w W) (hg : w.heap.size ≤ g) :
    ∃ ts : List Ky, ts.length = n ∧ (W.setCell ⟨g, k, none⟩ (.string ⟨#[120]⟩)).ownsRow base 9 1 (.slice (some ⟨g, 0, none⟩) n cap) n (ts.map encStr) ∧ Below w.heap.size w (W.setCell ⟨g, k, none⟩ (.string ⟨#[120]⟩)) := by
  refine ⟨ss.set k [120], by simp [hn], ?_, hb.setCell hg _⟩
  have := (h.stored k (.string ⟨#[120]⟩)).1
  rw [show (ss.set k [120]).map encStr = (ss.map encStr).set k (.string ⟨#[120]⟩) from by rw [List.map_set]]
  exact this
theorem row_cell {W : World} {base g cap n : Nat} {ss : List Ky} (h : W.ownsRow base 9 1 (.slice (some ⟨g, 0, none⟩) n cap) n (ss.map encStr)) (hn : ss.length = n) {k : Nat} (hk : k < n) : W.cell? ⟨g, k, none⟩ = some (.string ⟨(ss.getD k []).toArray⟩) := by
  rw [h.cellAt k (by omega)]
  simp [encStr, List.getD_eq_getElem?_getD, show k < ss.length by omega]
set_option maxHeartbeats 4000000 in
theorem walkKeys (a : Option Addr) (len cap : Nat) (us : List Up) (w : World) (h : IsUs w a len us) :
    Calls Try.prog 4 #[.slice a len cap] w fun e w' => e = .returned (.bool true) ∧ Below w.heap.size w w' := by
  have H := Lib.hid h
  have hsz := h.size
  clear h
  by_cases hg : gL len us
  · have HG := fun w h => Lib.hid (great_yes a len cap us hg w h)
    clear hg
    go_enter Try.func4, Try.ntmps4
    go_wp2_with fail
    refine (new_any _).mono ?_
    rintro e w1 ⟨rfl, h1, hb1, hs1⟩
    have HB1 := Lib.hid hb1
    clear h1 hb1
    go_wp2_with fail
    refine (awake_yes _).mono ?_
    rintro e w2 ⟨rfl, hb2⟩
    have HB2 := Lib.hid (Below.next HB1.out hb2)
    clear hb2 HB1
    go_wp2_with fail
    refine (HG _ (isUs_below H.out HB2.out)).out.mono ?_
    rintro e w3 ⟨rfl, hb3⟩
    have HB3 := Lib.hid (Below.next HB2.out hb3)
    clear hb3 HB2
    go_wp2_with fail
    refine (awake_yes _).mono ?_
    rintro e w4 ⟨rfl, hb4⟩
    have HB4 := Lib.hid (Below.next HB3.out hb4)
    clear hb4 HB3
    go_wp2
    go_ret
    exact ⟨rfl, HB4.out⟩
  have HG := fun w h => Lib.hid (great_no a len cap us hg w h)
  have HS := Lib.hid (gL_sh hsz hg)
  have hl := gL_len hg
  clear hg
  go_enter Try.func4, Try.ntmps4
  go_wp2_with fail
  refine (new_any _).mono ?_
  rintro e w1 ⟨rfl, h1, hb1, hs1⟩
  have H1 := Lib.hid h1
  have HB1 := Lib.hid hb1
  clear h1 hb1
  go_wp2_with fail
  refine (awake_yes _).mono ?_
  rintro e w2 ⟨rfl, hb2⟩
  have H2 := Lib.hid (H1.out.below hb2)
  have HB2 := Lib.hid (Below.next HB1.out hb2)
  clear hb2 HB1 H1
  go_wp2_with fail
  refine (HG _ (isUs_below H.out HB2.out)).out.mono ?_
  rintro e w3 ⟨rfl, hb3⟩
  have H3 := Lib.hid (H2.out.below hb3)
  have HB3 := Lib.hid (Below.next HB2.out hb3)
  clear hb3 HB2 H2 HG
  go_wp2_with fail
  go_loopw [23] (fun v wr => ∃ k : Nat, k ≤ len ∧ v = .int .i64 k ∧ St wr (w.heap.size + 1) w.heap.size k (stF (us.take k)) ∧ Below w.heap.size w wr) (fun v _ => len - (intOf v).toNat)
  case atStart => exact ⟨0, Nat.zero_le _, rfl, H3.out, HB3.out⟩
  case round =>
    obtain ⟨k, hk, rfl, hst, hbel⟩ := hrel
    clear H3 HB3
    by_cases hlt : k < len
    · obtain ⟨b, off, rfl, c0, c1, c2, c3⟩ := cells_of H.out hbel hlt
      have HD := fun W h => Lib.hid (do_next HS.out (k := k) (by omega) (w.heap.size + 1) w.heap.size k (by omega) W h)
      have HST := Lib.hid hst
      have HBEL := Lib.hid hbel
      clear hst hbel
      generalize us.getD k up0 = u at *
      obtain ⟨key, ux, un, ut⟩ := u
      simp only [uu] at HD c0 c1 c2 c3
      go_wp2_with fail
      refine (HD _ (HST.out.alloc _)).out.mono ?_
      rintro e w4 ⟨rfl, h4, hg4⟩
      have H4 := Lib.hid h4
      have HB4 := Lib.hid (bgrown (HBEL.out.alloc HBEL.out.size _) hg4 (by have := HBEL.out.size; simp; omega) (Nat.le_refl _))
      clear h4 hg4 HST HBEL HD
      go_wp2
      go_roundw
      case rel => exact ⟨k + 1, by omega, by go_num, H4.out, HB4.out⟩
      case measure => simp [intOf]; omega
    · obtain rfl : k = len := by omega
      rw [take_all hsz] at hst
      obtain ⟨ss, hks, hsl⟩ := hst.keys
      have HKS := Lib.hid hks
      have HST := Lib.hid hst
      have HBEL := Lib.hid hbel
      have hll : ss.length ≤ 1000000 := by omega
      clear hst hbel hks
      go_wp2_with fail
      refine (rkeys_any a k cap us ss HKS.out (fun u hu => (HS.out u hu).2) (by omega) _ (isUs_below H.out HBEL.out)).mono ?_
      rintro e w4 ⟨gw, cw, rfl, hr4, hb4⟩
      have H4 := Lib.hid (HST.out.below hb4)
      have HB4 := Lib.hid (Below.next HBEL.out hb4)
      have HW4 := Lib.hid (isSs_own hr4)
      have hgw4 := (hr4.lt gw rfl).2
      clear hr4 hb4 HST HBEL
      go_wp2_with fail
      refine (keys_any _ _ k _ ss HKS.out (kn_st us) (by omega) _ H4.out).mono ?_
      rintro e w5 ⟨gg, cg, rfl, hr5, hb5⟩
      have H5 := Lib.hid (H4.out.below hb5)
      have HB5 := Lib.hid (Below.next HB4.out hb5)
      have HW5 := Lib.hid (isSs_below HW4.out hb5)
      have HG5 := Lib.hid (isSs_own hr5)
      have hgg := (hr5.lt gg rfl).1
      have hm4 := H4.out.ltm
      have hb4' := H4.out.lt
      have HR5 := Lib.hid hr5
      clear hr5 hb5 H4 HB4 HW4
      go_wp2_with fail
      refine (same_yes _ _ _ _ ss hll _ HG5.out HW5.out).mono ?_
      rintro e w6 ⟨rfl, hb6⟩
      have H6 := Lib.hid (H5.out.below hb6)
      have HB6 := Lib.hid (Below.next HB5.out hb6)
      have HW6 := Lib.hid (isSs_below HW5.out hb6)
      have HR6 := Lib.hid (HR5.out.kept (grown_of none hb6) (Classical.em _))
      clear hb6 H5 HB5 HW5 HR5 HG5
      go_wp2_with fail
      refine (len_any _ _ k _ ss HKS.out _ H6.out).mono ?_
      rintro e w7 ⟨rfl, rfl⟩
      go_wp2_with fail
      go_loopw [48] (fun v wr => ∃ (j : Nat) (ts : List Ky), j ≤ ss.length ∧ v = .int .i64 j ∧ ts.length = ss.length ∧ St wr (w.heap.size + 1) w.heap.size k (stF us) ∧ IsSs wr (some ⟨gw, 0, none⟩) ss ∧ wr.ownsRow w4.heap.size 9 1 (.slice (some ⟨gg, 0, none⟩) ss.length cg) ss.length (ts.map encStr) ∧ Below w.heap.size w wr) (fun v _ => ss.length - (intOf v).toNat)
      case atStart => exact ⟨0, ss, Nat.zero_le _, rfl, rfl, H6.out, HW6.out, HR6.out, HB6.out⟩
      case round =>
        obtain ⟨j, ts, hj, rfl, hts, hst, hw, hrow, hbel⟩ := hrel
        by_cases hjl : j < ss.length
        · have c := row_cell hrow hts hjl
          have fz := hrow.frozenAt j
          have HNX := Lib.hid (set_x (k := j) hrow hts hbel (show w.heap.size ≤ gg by omega))
          have HST := Lib.hid (hst.set gg j (.string ⟨#[120]⟩) (by omega) (by omega))
          have HW := Lib.hid (isSs_grown (w' := wr.setCell ⟨gg, j, none⟩ (.string ⟨#[120]⟩)) (row := some gg) hw ⟨rfl, rfl, rfl, by simp [World.setCell], fun k _ hk => Below.heap_setCell _ _ _ _ (fun e => hk (by rw [e]))⟩ (fun e => by injection e with e; omega))
          clear hst hw hrow hbel H6 HW6 HR6 HB6
          go_wp2
          go_roundw
          case rel =>
            obtain ⟨ts', h1, h2, h3⟩ := HNX.out
            exact ⟨j + 1, ts', by omega, by go_num, h1, HST.out, HW.out, h2, h3⟩
          case measure => simp [intOf]; omega
        · obtain rfl : j = ss.length := by omega
          have HST := Lib.hid hst
          have HW := Lib.hid hw
          have HBEL := Lib.hid hbel
          clear hst hw hrow hbel H6 HW6 HR6 HB6
          go_wp2_with fail
          refine (keys_any _ _ k _ ss HKS.out (kn_st us) (by omega) _ HST.out).mono ?_
          rintro e w8 ⟨g8, c8, rfl, hr8, hb8⟩
          have HB8 := Lib.hid (Below.next HBEL.out hb8)
          have HW8 := Lib.hid (isSs_below HW.out hb8)
          have HG8 := Lib.hid (isSs_own hr8)
          clear hr8 hb8 HST HW HBEL
          go_wp2_with fail
          refine (same_yes _ _ _ _ ss hll _ HG8.out HW8.out).mono ?_
          rintro e w9 ⟨rfl, hb9⟩
          have HB9 := Lib.hid (Below.next HB8.out hb9)
          clear hb9 HB8 HW8 HG8
          go_wp2
          go_ret
          exact ⟨rfl, HB9.out⟩
end Go.Proofs.Ytfcbilpbcofcfaa
