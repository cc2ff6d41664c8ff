/- The walk of StoreApart. -/
import Derived.Test.YtfcbilpbcofcfaaSQ0
namespace Go.Proofs.Ytfcbilpbcofcfaa
open Go Go.RowKit Go.Maps Go.Sort
set_option maxHeartbeats 8000000 in
theorem walkApart (a : Option Addr) (len cap : Nat) (us : List Up) (key : ByteArray) (w : World) (h : IsUs w a len us) :
    Calls Try.prog 5 #[.slice a len cap, .string key] w fun e w' => e = .returned (.bool true) ∧ Below w.heap.size w w' := by
  have H := Lib.hid h
  have hsz := h.size
  clear h
  by_cases hg : gL len us
  · have HG := fun w h => Lib.hid (great_yes a len cap us hg w h)
    clear hg
    go_enter Try.func5, Try.ntmps5
    go_wp2_with fail
    refine (new_ex _).mono ?_
    rintro e w1 ⟨b1, m1, rfl, hb1, hm1, h1, hbl1⟩
    have HB1 := Lib.hid hbl1
    clear h1 hbl1
    go_wp2_with fail
    refine (new_ex _).mono ?_
    rintro e w2 ⟨b2, m2, rfl, hb2, hm2, h2, hbl2⟩
    have HB2 := Lib.hid (Below.next HB1.out hbl2)
    clear h2 hbl2 HB1
    go_wp2_with fail
    refine (awake_yes _).mono ?_
    rintro e w3 ⟨rfl, hbl3⟩
    have HB3 := Lib.hid (Below.next HB2.out hbl3)
    clear hbl3 HB2
    go_wp2_with fail
    refine (HG _ (isUs_below H.out HB3.out)).out.mono ?_
    rintro e w4 ⟨rfl, hbl4⟩
    have HB4 := Lib.hid (Below.next HB3.out hbl4)
    clear hbl4 HB3
    go_wp2_with fail
    refine (awake_yes _).mono ?_
    rintro e w5 ⟨rfl, hbl5⟩
    have HB5 := Lib.hid (Below.next HB4.out hbl5)
    clear hbl5 HB4
    go_wp2
    go_ret
    exact ⟨rfl, HB5.out⟩
  have HG := fun w h => Lib.hid (great_no a len cap us hg w h)
  have HS := Lib.hid (gL_sh hsz hg)
  have hl := gL_len hg
  clear hg
  by_cases hk : 100 < key.size
  · have q : decide ((100 : Int) < (key.size : Int)) = true := decide_eq_true (by omega)
    go_enter Try.func5, Try.ntmps5
    go_wp2_with fail
    refine (new_ex _).mono ?_
    rintro e w1 ⟨b1, m1, rfl, hb1, hm1, h1, hbl1⟩
    have HB1 := Lib.hid hbl1
    clear h1 hbl1
    go_wp2_with fail
    refine (new_ex _).mono ?_
    rintro e w2 ⟨b2, m2, rfl, hb2, hm2, h2, hbl2⟩
    have HB2 := Lib.hid (Below.next HB1.out hbl2)
    clear h2 hbl2 HB1
    go_wp2_with fail
    refine (awake_yes _).mono ?_
    rintro e w3 ⟨rfl, hbl3⟩
    have HB3 := Lib.hid (Below.next HB2.out hbl3)
    clear hbl3 HB2
    go_wp2_with fail
    refine (HG _ (isUs_below H.out HB3.out)).out.mono ?_
    rintro e w4 ⟨rfl, hbl4⟩
    have HB4 := Lib.hid (Below.next HB3.out hbl4)
    clear hbl4 HB3
    go_wp2_with fail
    refine (awake_yes _).mono ?_
    rintro e w5 ⟨rfl, hbl5⟩
    have HB5 := Lib.hid (Below.next HB4.out hbl5)
    clear hbl5 HB4
    go_wp2
    go_ret
    exact ⟨rfl, HB5.out⟩
  have q : decide ((100 : Int) < (key.size : Int)) = false := decide_eq_false (by omega)
  have hk1 : key.size ≤ 1000 := by omega
  obtain ⟨i0, z0, hi, hz0, hz1, hz2, hz3⟩ := infoU
  go_enter Try.func5, Try.ntmps5
  go_wp2_with fail
  refine (new_ex _).mono ?_
  rintro e w1 ⟨b1, m1, rfl, hb1, hm1, h1, hbl1⟩
  have H1 := Lib.hid h1
  have HB1 := Lib.hid hbl1
  clear h1 hbl1
  go_wp2_with fail
  refine (new_ex _).mono ?_
  rintro e w2 ⟨b2, m2, rfl, hb2, hm2, h2, hbl2⟩
  have hlm := H1.out.ltm
  have HT2 : Hid (Tw w.heap.size w w2 b1 m1 0 f0 b2 m2 0 f0) := ⟨H1.out.below hbl2, h2, by omega, hm1, by have := HB1.out.size; omega, Below.next HB1.out hbl2⟩
  clear h2 hbl2 HB1 H1 hlm
  go_wp2_with fail
  refine (awake_yes _).mono ?_
  rintro e w3 ⟨rfl, hbl3⟩
  have HT3 := Lib.hid (HT2.out.below hbl3)
  clear hbl3 HT2
  go_wp2_with fail
  refine (HG _ (isUs_below H.out HT3.out.bel)).out.mono ?_
  rintro e w4 ⟨rfl, hbl4⟩
  have HT4 := Lib.hid (HT3.out.below hbl4)
  clear hbl4 HT3 HG
  go_wp2_with fail
  go_loopw [7, 8, 41] (fun v7 v8 v wr => ∃ k : Nat, k ≤ len ∧ v = .int .i64 k ∧ Ap w.heap.size w wr b1 m1 k (stF (us.take k)) b2 m2 0 f0 v7 (ownL key (us.take k)) v8 (othL key (us.take k))) (fun _ _ v _ => len - (intOf v).toNat)
  case atStart => exact ⟨0, Nat.zero_le _, rfl, HT4.out, rowU_nil _ _, rowU_nil _ _, .inl rfl⟩
  case round =>
    obtain ⟨k, hk, rfl, hap⟩ := hrel
    clear HT4
    by_cases hlt : k < len
    · obtain ⟨b, off, rfl, c0, c1, c2, c3⟩ := cells_of H.out hap.tw.bel hlt
      have HD := fun W h => Lib.hid (do_next HS.out (k := k) (by omega) b1 m1 k (by omega) W h)
      have HAP := Lib.hid hap
      have hlo : (ownL key (us.take k)).length ≤ 60 := Nat.le_trans (own_len _ _) (by rw [List.length_take]; omega)
      have hlt8 : (othL key (us.take k)).length ≤ 60 := Nat.le_trans (oth_len _ _) (by rw [List.length_take]; omega)
      clear hap
      by_cases hke : (us.getD k up0).1 = key
      · have HST := Lib.hid (own_step key us k (by omega) hke)
        have qe : ((us.getD k up0).1.toList == key.toList) = true := by rw [hke]; exact eq_yes key
        clear hke
        generalize us.getD k up0 = u at *
        generalize ownL key (us.take k) = l7 at *
        generalize othL key (us.take k) = l8 at *
        obtain ⟨uk, ux, un, ut⟩ := u
        simp only [uu] at HD c0 c1 c2 c3 qe
        go_wp2_with fail
        refine (HD _ (HAP.out.alloc _).tw.one).out.mono ?_
        rintro e w5 ⟨rfl, h5, hg5⟩
        have hu5 := Ub.first (u := (uk, ux, un, ut)) (B := wr.heap.size) (new_at rfl) (HAP.out.alloc _).tw.one hg5
        have ha5 := (HAP.out.alloc _).first h5 hg5
        obtain ⟨d0, d1, d2, d3⟩ := Ub.c hu5
        have HA5 := Lib.hid ha5
        have hws : w.heap.size ≤ w5.heap.size := ha5.tw.bel.size
        clear h5 hg5 ha5 hu5 HAP HD
        go_wp2_with (first
          | (at_builtin; refine wpList_append_own_at _ rfl _ _ 22 rfl w.heap.size 28 i0 z0 4 48 Try.underlying22 hi hz0 hz1 hz2 hz3 (by decide) _ _ _ rfl (HA5.out.r7.alloc _) ⟨w5.heap.size, 0, none⟩ 1 1 (cellsU4 (uk, ux, un, ut)) rfl rfl (news_cells _ _) (news_one _) (by unfold maxLen; omega) (by omega) (by simp; omega) ?_; intro v' w6 hown' hg6 hnil6 hloc6; go_frame)
          | go_in)
        have HA6 := Lib.hid (HA5.out.app7 hown' hg6 hloc6)
        clear hown' hg6 hnil6 hloc6 HA5
        go_roundw
        case rel => exact ⟨k + 1, by omega, by go_num, by rw [HST.out.1, HST.out.2]; exact HA6.out⟩
        case measure => simp [intOf]; omega
      · have HST := Lib.hid (oth_step key us k (by omega) hke)
        have qe : ((us.getD k up0).1.toList == key.toList) = false := eq_no hke
        clear hke
        generalize us.getD k up0 = u at *
        generalize ownL key (us.take k) = l7 at *
        generalize othL key (us.take k) = l8 at *
        obtain ⟨uk, ux, un, ut⟩ := u
        simp only [uu] at HD c0 c1 c2 c3 qe
        go_wp2_with fail
        refine (HD _ (HAP.out.alloc _).tw.one).out.mono ?_
        rintro e w5 ⟨rfl, h5, hg5⟩
        have hu5 := Ub.first (u := (uk, ux, un, ut)) (B := wr.heap.size) (new_at rfl) (HAP.out.alloc _).tw.one hg5
        have ha5 := (HAP.out.alloc _).first h5 hg5
        obtain ⟨d0, d1, d2, d3⟩ := Ub.c hu5
        have HA5 := Lib.hid ha5
        have hws : w.heap.size ≤ w5.heap.size := ha5.tw.bel.size
        clear h5 hg5 ha5 hu5 HAP HD
        go_wp2_with (first
          | (at_builtin; refine wpList_append_own_at _ rfl _ _ 22 rfl w.heap.size 28 i0 z0 4 48 Try.underlying22 hi hz0 hz1 hz2 hz3 (by decide) _ _ _ rfl (HA5.out.r8.alloc _) ⟨w5.heap.size, 0, none⟩ 1 1 (cellsU4 (uk, ux, un, ut)) rfl rfl (news_cells _ _) (news_one _) (by unfold maxLen; omega) (by omega) (by simp; omega) ?_; intro v' w6 hown' hg6 hnil6 hloc6; go_frame)
          | go_in)
        have HA6 := Lib.hid (HA5.out.app8 hown' hg6 hloc6)
        clear hown' hg6 hnil6 hloc6 HA5
        go_roundw
        case rel => exact ⟨k + 1, by omega, by go_num, by rw [HST.out.1, HST.out.2]; exact HA6.out⟩
        case measure => simp [intOf]; omega
    · obtain rfl : k = len := by omega
      rw [take_all hsz] at hap
      obtain ⟨a7, cp7, rfl, hi7⟩ := hap.r7.is
      obtain ⟨a8, cp8, rfl, hi8⟩ := hap.r8.is
      have HT := Lib.hid hap.tw
      have HI7 := Lib.hid hi7
      have HI8 := Lib.hid hi8
      have HOE := Lib.hid (apart_eq key us)
      have HON := Lib.hid (oth_none key us)
      have hl7 : (ownL key us).length ≤ 60 := Nat.le_trans (own_len _ _) (by omega)
      have hl8 : (othL key us).length ≤ 60 := Nat.le_trans (oth_len _ _) (by omega)
      have HS7 : Hid (∀ u ∈ ownL key us, u.1.size ≤ 100 ∧ Sh u.2.2.2) := fun u hu => HS.out u (List.mem_filter.1 hu).1
      have HS8 : Hid (∀ u ∈ othL key us, u.1.size ≤ 100 ∧ Sh u.2.2.2) := fun u hu => HS.out u (List.mem_filter.1 hu).1
      clear hap hi7 hi8
      generalize ownL key us = l7 at *
      generalize othL key us = l8 at *
      go_wp2_with fail
      go_loopw [63] (fun v wr => ∃ j : Nat, j ≤ l8.length ∧ v = .int .i64 j ∧ Tw w.heap.size w wr b1 m1 k (stF us) b2 m2 j (stF (l8.take j)) ∧ IsUs wr a7 l7.length l7 ∧ IsUs wr a8 l8.length l8) (fun v _ => l8.length - (intOf v).toNat)
      case atStart => exact ⟨0, Nat.zero_le _, rfl, HT.out, HI7.out, HI8.out⟩
      case round =>
        obtain ⟨j, hj, rfl, htw, hi7, hi8⟩ := hrel
        clear HT HI7 HI8
        by_cases hjl : j < l8.length
        · obtain ⟨b, off, rfl, c0, c1, c2, c3⟩ := cells_of hi8 (Below.refl _ _) hjl
          have HD := fun W h => Lib.hid (do_next HS8.out (k := j) hjl b2 m2 j (by omega) W h)
          have HTW := Lib.hid htw
          have HI7 := Lib.hid hi7
          have HI8 := Lib.hid hi8
          clear htw hi7 hi8
          generalize l8.getD j up0 = u at *
          obtain ⟨uk, ux, un, ut⟩ := u
          simp only [uu] at HD c0 c1 c2 c3
          go_wp2_with fail
          refine (HD _ (HTW.out.alloc _).two).out.mono ?_
          rintro e w6 ⟨rfl, h6, hg6⟩
          have HJ7 := Lib.hid (isUs_first (isUs_below HI7.out (Joins.below_alloc1 _ _)) (HTW.out.alloc _).two hg6)
          have HJ8 := Lib.hid (isUs_first (isUs_below HI8.out (Joins.below_alloc1 _ _)) (HTW.out.alloc _).two hg6)
          have HT6 := Lib.hid ((HTW.out.alloc _).second h6 hg6)
          clear h6 hg6 HTW HD HI7 HI8
          go_wp2
          go_roundw
          case rel => exact ⟨j + 1, by omega, by go_num, HT6.out, HJ7.out, HJ8.out⟩
          case measure => simp [intOf]; omega
        · obtain rfl : j = l8.length := by omega
          rw [List.take_of_length_le (Nat.le_refl _)] at htw
          have hgd := (gd_st l8 (fun u hu => (HS8.out u hu).2) (ky key)).2.2
          have HG1 := fun W h => Lib.hid (get_any b2 m2 l8.length (stF l8) key hk1 hgd W h)
          rw [HON.out] at HG1
          simp only [noneV, emp, vv_eq] at HG1
          have HTW := Lib.hid htw
          have HI7 := Lib.hid hi7
          clear htw hi7 hi8 hgd
          go_wp2_with fail
          refine (HG1 _ HTW.out.two).out.mono ?_
          rintro e w6 ⟨rfl, hb6⟩
          have HT6 := Lib.hid (HTW.out.below hb6)
          have HJ7 := Lib.hid (isUs_below HI7.out hb6)
          clear hb6 HTW HI7 HG1
          go_wp2_with fail
          go_loopw [78] (fun v wr => ∃ j : Nat, j ≤ l7.length ∧ v = .int .i64 j ∧ Tw w.heap.size w wr b1 m1 k (stF us) b2 m2 (l8.length + j) (stF (l8 ++ l7.take j)) ∧ IsUs wr a7 l7.length l7) (fun v _ => l7.length - (intOf v).toNat)
          case atStart => exact ⟨0, Nat.zero_le _, rfl, by rw [List.take_zero, List.append_nil]; exact HT6.out, HJ7.out⟩
          case round =>
            obtain ⟨j, hj, rfl, htw, hi7⟩ := hrel
            clear HT6 HJ7
            by_cases hjl : j < l7.length
            · obtain ⟨b, off, rfl, c0, c1, c2, c3⟩ := cells_of hi7 (Below.refl _ _) hjl
              have hgd : ∀ x, Gd (stF (l8 ++ l7.take j) x) := gd_st _ fun u hu => by
                rcases List.mem_append.1 hu with hu | hu
                · exact (HS8.out u hu).2
                · exact (HS7.out u (List.mem_of_mem_take hu)).2
              have HD := fun W h => Lib.hid (do_f hgd (l7.getD j up0) (HS7.out _ (mem_getD hjl)) b2 m2 (l8.length + j) (by omega) W h)
              rw [← app_take l8 l7 j hjl] at HD
              have HTW := Lib.hid htw
              have HI7 := Lib.hid hi7
              clear htw hi7 hgd
              generalize l7.getD j up0 = u at *
              obtain ⟨uk, ux, un, ut⟩ := u
              simp only [uu] at HD c0 c1 c2 c3
              go_wp2_with fail
              refine (HD _ (HTW.out.alloc _).two).out.mono ?_
              rintro e w6 ⟨rfl, h6, hg6⟩
              have HJ7 := Lib.hid (isUs_first (isUs_below HI7.out (Joins.below_alloc1 _ _)) (HTW.out.alloc _).two hg6)
              have HT6 := Lib.hid ((HTW.out.alloc _).second h6 hg6)
              clear h6 hg6 HTW HD HI7
              go_wp2
              go_roundw
              case rel => exact ⟨j + 1, by omega, by go_num, HT6.out, HJ7.out⟩
              case measure => simp [intOf]; omega
            · obtain rfl : j = l7.length := by omega
              rw [List.take_of_length_le (Nat.le_refl _), HOE.out] at htw
              obtain ⟨ss, hks, hsl⟩ := htw.one.keys
              have HKS := Lib.hid hks
              have HTW := Lib.hid htw
              have hll : ss.length ≤ 1000000 := by omega
              have HGD : Hid (∀ x, Gd (stF us x)) := gd_st us (fun u hu => (HS.out u hu).2)
              clear htw hks hi7
              go_wp2_with fail
              refine (keys_any _ _ k _ ss HKS.out (kn_st us) (by omega) _ HTW.out.one).mono ?_
              rintro e w6 ⟨g6, c6, rfl, hr6, hb6⟩
              have HT6 := Lib.hid (HTW.out.below hb6)
              have HI6 := Lib.hid (isSs_own hr6)
              clear hr6 hb6 HTW
              go_wp2_with fail
              refine (keys_any _ _ (l8.length + l7.length) _ ss HKS.out (kn_st us) (by omega) _ HT6.out.two).mono ?_
              rintro e w7 ⟨g7, c7, rfl, hr7, hb7⟩
              have HT7 := Lib.hid (HT6.out.below hb7)
              have HI7 := Lib.hid (isSs_below HI6.out hb7)
              have HJ7 := Lib.hid (isSs_own hr7)
              clear hr7 hb7 HT6 HI6
              go_wp2_with fail
              refine (same_yes _ _ _ _ ss hll _ HI7.out HJ7.out).mono ?_
              rintro e w8 ⟨rfl, hb8⟩
              have HT8 := Lib.hid (HT7.out.below hb8)
              clear hb8 HT7 HI7 HJ7
              go_wp2_with fail
              refine (keys_any _ _ k _ ss HKS.out (kn_st us) (by omega) _ HT8.out.one).mono ?_
              rintro e w9 ⟨g, cg, rfl, hr9, hb9⟩
              have HT9 := Lib.hid (HT8.out.below hb9)
              have HI9 := Lib.hid (isSs_own hr9)
              clear hr9 hb9 HT8
              go_wp2_with fail
              go_loopw [95] (fun v wr => ∃ j : Nat, j ≤ ss.length ∧ v = .int .i64 j ∧ Tw w.heap.size w wr b1 m1 k (stF us) b2 m2 (l8.length + l7.length) (stF us) ∧ IsSs wr (some ⟨g, 0, none⟩) ss) (fun v _ => ss.length - (intOf v).toNat)
              case atStart => exact ⟨0, Nat.zero_le _, rfl, HT9.out, HI9.out⟩
              case round =>
                obtain ⟨j, hj, rfl, htw, his⟩ := hrel
                clear HT9 HI9
                by_cases hjl : j < ss.length
                · have c := isSs_cell his hjl
                  have hkl := key_le HKS.out (kn_st us) hjl
                  generalize ByteArray.mk (ss.getD j []).toArray = kx at c hkl
                  have HG1 := fun W h => Lib.hid (get_any b1 m1 k (stF us) kx hkl (HGD.out _).2.2 W h)
                  have HG2 := fun W h => Lib.hid (get_any b2 m2 (l8.length + l7.length) (stF us) kx hkl (HGD.out _).2.2 W h)
                  have HTW := Lib.hid htw
                  have HIS := Lib.hid his
                  clear htw his hkl
                  generalize stF us (ky kx) = r at HG1 HG2
                  obtain ⟨rk, rn, rs⟩ := r
                  simp only [vv_eq] at HG1 HG2
                  go_wp2_with fail
                  refine (HG1 _ HTW.out.one).out.mono ?_
                  rintro e w6 ⟨rfl, hb6⟩
                  have HT6 := Lib.hid (HTW.out.below hb6)
                  have HI6 := Lib.hid (isSs_below HIS.out hb6)
                  clear hb6 HTW HIS
                  go_wp2_with fail
                  refine (HG2 _ HT6.out.two).out.mono ?_
                  rintro e w7 ⟨rfl, hb7⟩
                  have HT7 := Lib.hid (HT6.out.below hb7)
                  have HI7 := Lib.hid (isSs_below HI6.out hb7)
                  clear hb7 HT6 HI6
                  go_wp2
                  go_roundw
                  case rel => exact ⟨j + 1, by omega, by go_num, HT7.out, HI7.out⟩
                  case measure => simp [intOf]; omega
                · obtain rfl : j = ss.length := by omega
                  have HG1 := fun W h => Lib.hid (get_any b1 m1 k (stF us) key hk1 (HGD.out _).2.2 W h)
                  have HG2 := fun W h => Lib.hid (get_any b2 m2 (l8.length + l7.length) (stF us) key hk1 (HGD.out _).2.2 W h)
                  have HTW := Lib.hid htw
                  clear htw his
                  generalize stF us (ky key) = r at HG1 HG2
                  obtain ⟨rk, rn, rs⟩ := r
                  simp only [vv_eq] at HG1 HG2
                  go_wp2_with fail
                  refine (HG1 _ HTW.out.one).out.mono ?_
                  rintro e w6 ⟨rfl, hb6⟩
                  have HT6 := Lib.hid (HTW.out.below hb6)
                  clear hb6 HTW
                  go_wp2_with fail
                  refine (HG2 _ HT6.out.two).out.mono ?_
                  rintro e w7 ⟨rfl, hb7⟩
                  have HT7 := Lib.hid (HT6.out.below hb7)
                  clear hb7 HT6
                  go_wp2
                  go_ret
                  exact ⟨rfl, HT7.out.bel⟩
end Go.Proofs.Ytfcbilpbcofcfaa
