/- The walk of StoreTwice. -/
import Derived.Test.YtfcbilpbcofcfaaSB
namespace Go.Proofs.Ytfcbilpbcofcfaa
open Go Go.RowKit Go.Maps Go.Sort
theorem do_f {f : Fn} (hf : ∀ k, Gd (f k)) (u : Up) (hs : u.1.size ≤ 100 ∧ Sh u.2.2.2) (b m n : Nat) (hn : n < 1000) (w : World) (h : St w b m n f) :
    Calls Try.prog 11 #[.pointer (some ⟨b, 0, none⟩), uu u] w fun e w' => e = .returned (.int .i64 (mayE u)) ∧ St w' b m (n + 1) (doF f u) ∧ w.grownBy w' (some m) :=
  do_any b m n f u (by omega) (by omega) hs.2 hf w h
set_option maxHeartbeats 4000000 in
theorem walkTwice (a : Option Addr) (len cap : Nat) (us : List Up) (w : World) (h : IsUs w a len us) :
    Calls Try.prog 7 #[.slice a len cap] w fun e w' => e = .returned (.bool true) ∧ Below w.heap.size w w' := by
  have H := Lib.hid h
  have hsz := h.size
  clear h
  by_cases hg : gL len us
  · have HG := fun w h => Lib.hid (great_yes a len cap us hg w h)
    clear hg
    go_enter Try.func7, Try.ntmps7
    go_wp2_with fail
    refine (new_ex _).mono ?_
    rintro e w1 ⟨b1, m1, rfl, hb1, hm1, h1, hbl1⟩
    have HB1 := Lib.hid hbl1
    clear h1 hbl1
    go_wp2_with fail
    refine (new_ex _).mono ?_
    rintro e w2 ⟨b2, m2, rfl, hb2, hm2, h2, hbl2⟩
    have HB2 := Lib.hid (Below.next HB1.out hbl2)
    clear h2 hbl2 HB1
    go_wp2_with fail
    refine (awake_yes _).mono ?_
    rintro e w3 ⟨rfl, hbl3⟩
    have HB3 := Lib.hid (Below.next HB2.out hbl3)
    clear hbl3 HB2
    go_wp2_with fail
    refine (HG _ (isUs_below H.out HB3.out)).out.mono ?_
    rintro e w4 ⟨rfl, hbl4⟩
    have HB4 := Lib.hid (Below.next HB3.out hbl4)
    clear hbl4 HB3
    go_wp2_with fail
    refine (awake_yes _).mono ?_
    rintro e w5 ⟨rfl, hbl5⟩
    have HB5 := Lib.hid (Below.next HB4.out hbl5)
    clear hbl5 HB4
    go_wp2
    go_ret
    exact ⟨rfl, HB5.out⟩
  have HG := fun w h => Lib.hid (great_no a len cap us hg w h)
  have HS := Lib.hid (gL_sh hsz hg)
  have hl := gL_len hg
  clear hg
  go_enter Try.func7, Try.ntmps7
  go_wp2_with fail
  refine (new_ex _).mono ?_
  rintro e w1 ⟨b1, m1, rfl, hb1, hm1, h1, hbl1⟩
  have H1 := Lib.hid h1
  have HB1 := Lib.hid hbl1
  clear h1 hbl1
  go_wp2_with fail
  refine (new_ex _).mono ?_
  rintro e w2 ⟨b2, m2, rfl, hb2, hm2, h2, hbl2⟩
  have hlm := H1.out.ltm
  have HT2 : Hid (Tw w.heap.size w w2 b1 m1 0 f0 b2 m2 0 f0) := ⟨H1.out.below hbl2, h2, by omega, hm1, by have := HB1.out.size; omega, Below.next HB1.out hbl2⟩
  clear h2 hbl2 HB1 H1 hlm
  go_wp2_with fail
  refine (awake_yes _).mono ?_
  rintro e w3 ⟨rfl, hbl3⟩
  have HT3 := Lib.hid (HT2.out.below hbl3)
  clear hbl3 HT2
  go_wp2_with fail
  refine (HG _ (isUs_below H.out HT3.out.bel)).out.mono ?_
  rintro e w4 ⟨rfl, hbl4⟩
  have HT4 := Lib.hid (HT3.out.below hbl4)
  clear hbl4 HT3 HG
  go_wp2_with fail
  go_loopw [28] (fun v wr => ∃ k : Nat, k ≤ len ∧ v = .int .i64 k ∧ Tw w.heap.size w wr b1 m1 (2 * k) (stF (us.take k)) b2 m2 (2 * k) (stF (us.take k))) (fun v _ => len - (intOf v).toNat)
  case atStart => exact ⟨0, Nat.zero_le _, rfl, HT4.out⟩
  case round =>
    obtain ⟨k, hk, rfl, htw⟩ := hrel
    clear HT4
    by_cases hlt : k < len
    · obtain ⟨b, off, rfl, c0, c1, c2, c3⟩ := cells_of H.out htw.bel hlt
      have hus := HS.out _ (mem_getD (k := k) (by omega))
      have hgd := take_sh HS.out k
      have hgd1 := take_sh HS.out (k + 1)
      have HST := Lib.hid (stF_take us k (by omega) up0)
      have HD1 := fun W h => Lib.hid (do_f hgd (us.getD k up0) hus b1 m1 (2 * k) (by omega) W h)
      have HD2 := fun W h => Lib.hid (do_f hgd (us.getD k up0) hus b2 m2 (2 * k) (by omega) W h)
      have HD3 := fun W h => Lib.hid (do_f hgd1 (us.getD k up0) hus b2 m2 (2 * k + 1) (by omega) W h)
      rw [← HST.out] at HD1 HD2
      rw [HST.out] at HD3
      have HM := fun w => Lib.hid (rmay_any (us.getD k up0) w)
      have HTW := Lib.hid htw
      clear htw hgd hgd1 hus
      by_cases hme : mayE (us.getD k up0) = 0
      · have HTW3 := fun h => Lib.hid (@doF_twice (stF (us.take k)) (us.getD k up0) h)
        rw [hme] at HM
        clear hme
        rw [HST.out] at HD1 HD2
        generalize mayE (us.getD k up0) = e at *
        generalize us.getD k up0 = u at *
        obtain ⟨key, ux, un, ut⟩ := u
        simp only [uu] at HD1 HD2 HD3 HM c0 c1 c2 c3 HTW3
        by_cases hx : ux = 1 ∨ ux = 2 ∨ ux = 5
        · have HTW4 := Lib.hid (HTW3 hx).out
          rw [HTW4.out] at HD3
          clear HTW3 HTW4
          rcases hx with rfl | rfl | rfl
          all_goals (
            go_wp2_with fail
            refine (HD1 _ (HTW.out.alloc _).one).out.mono ?_
            rintro e w5 ⟨rfl, h5, hg5⟩
            have hu5 := Ub.first (u := (key, _, un, ut)) (B := wr.heap.size) (new_at rfl) (HTW.out.alloc _).one hg5
            have ht5 := (HTW.out.alloc _).first h5 hg5
            obtain ⟨d0, d1, d2, d3⟩ := Ub.c hu5
            have HT5 := Lib.hid ht5
            have HU5 := Lib.hid hu5
            clear h5 hg5 ht5 hu5 HTW
            go_wp2_with fail
            refine (HM _).out.mono ?_
            rintro e w6 ⟨rfl, hb6⟩
            have ht6 := HT5.out.below hb6
            have hu6 := HU5.out.kept hb6 rfl
            clear d0 d1 d2 d3
            obtain ⟨d0, d1, d2, d3⟩ := Ub.c hu6
            have HT6 := Lib.hid ht6
            have HU6 := Lib.hid hu6
            clear hb6 ht6 hu6 HT5 HU5
            go_wp2_with fail
            refine (HD2 _ HT6.out.two).out.mono ?_
            rintro e w7 ⟨rfl, h7, hg7⟩
            have hu7 := HU6.out.first HT6.out.two hg7
            have ht7 := HT6.out.second h7 hg7
            clear d0 d1 d2 d3
            obtain ⟨d0, d1, d2, d3⟩ := Ub.c hu7
            have HT7 := Lib.hid ht7
            clear h7 hg7 ht7 hu7 HT6 HU6
            go_wp2_with fail
            refine (HD3 _ HT7.out.two).out.mono ?_
            rintro e w8 ⟨rfl, h8, hg8⟩
            have HT8 := Lib.hid (HT7.out.second h8 hg8)
            clear h8 hg8 HT7
            go_wp2
            go_roundw
            case rel => exact ⟨k + 1, by omega, by go_num, by rw [HST.out]; exact HT8.out.mono (by omega) (by omega)⟩
            case measure => simp [intOf]; omega)
        · have q1 : (ux == 1) = false := beq_false_of_ne fun e => hx (.inl e)
          have q2 : (ux == 2) = false := beq_false_of_ne fun e => hx (.inr (.inl e))
          have q3 : (ux == 5) = false := beq_false_of_ne fun e => hx (.inr (.inr e))
          clear HTW3 hx HD3
          go_wp2_with fail
          refine (HD1 _ (HTW.out.alloc _).one).out.mono ?_
          rintro e w5 ⟨rfl, h5, hg5⟩
          have hu5 := Ub.first (u := (key, ux, un, ut)) (B := wr.heap.size) (new_at rfl) (HTW.out.alloc _).one hg5
          have ht5 := (HTW.out.alloc _).first h5 hg5
          obtain ⟨d0, d1, d2, d3⟩ := Ub.c hu5
          have HT5 := Lib.hid ht5
          have HU5 := Lib.hid hu5
          clear h5 hg5 ht5 hu5 HTW
          go_wp2_with fail
          refine (HM _).out.mono ?_
          rintro e w6 ⟨rfl, hb6⟩
          have ht6 := HT5.out.below hb6
          have hu6 := HU5.out.kept hb6 rfl
          clear d0 d1 d2 d3
          obtain ⟨d0, d1, d2, d3⟩ := Ub.c hu6
          have HT6 := Lib.hid ht6
          have HU6 := Lib.hid hu6
          clear hb6 ht6 hu6 HT5 HU5
          go_wp2_with fail
          refine (HD2 _ HT6.out.two).out.mono ?_
          rintro e w7 ⟨rfl, h7, hg7⟩
          have hu7 := HU6.out.first HT6.out.two hg7
          have ht7 := HT6.out.second h7 hg7
          clear d0 d1 d2 d3
          obtain ⟨d0, d1, d2, d3⟩ := Ub.c hu7
          have HT7 := Lib.hid ht7
          clear h7 hg7 ht7 hu7 HT6 HU6
          go_wp2
          go_roundw
          case rel => exact ⟨k + 1, by omega, by go_num, by rw [HST.out]; exact HT7.out.mono (by omega) (by omega)⟩
          case measure => simp [intOf]; omega
      · have HR := Lib.hid (@doF_refused (stF (us.take k)) (us.getD k up0) hme)
        have hq : (mayE (us.getD k up0) == 0) = false := beq_false_of_ne hme
        rw [HST.out, HR.out] at HD1
        clear hme HD2 HD3
        have HST' : Hid (stF (us.take (k + 1)) = stF (us.take k)) := HST.out.trans HR.out
        clear HST HR
        generalize mayE (us.getD k up0) = e at *
        generalize us.getD k up0 = u at *
        obtain ⟨key, ux, un, ut⟩ := u
        simp only [uu] at HD1 HM c0 c1 c2 c3
        go_wp2_with fail
        refine (HD1 _ (HTW.out.alloc _).one).out.mono ?_
        rintro e w5 ⟨rfl, h5, hg5⟩
        have hu5 := Ub.first (u := (key, ux, un, ut)) (B := wr.heap.size) (new_at rfl) (HTW.out.alloc _).one hg5
        have ht5 := (HTW.out.alloc _).first h5 hg5
        obtain ⟨d0, d1, d2, d3⟩ := Ub.c hu5
        have HT5 := Lib.hid ht5
        clear h5 hg5 ht5 hu5 HTW
        go_wp2_with fail
        refine (HM _).out.mono ?_
        rintro e w6 ⟨rfl, hb6⟩
        have HT6 := Lib.hid (HT5.out.below hb6)
        clear hb6 HT5 d0 d1 d2 d3
        go_wp2
        go_roundw
        case rel => exact ⟨k + 1, by omega, by go_num, by rw [HST'.out]; exact HT6.out.mono (by omega) (by omega)⟩
        case measure => simp [intOf]; omega
    · obtain rfl : k = len := by omega
      rw [take_all hsz] at htw
      obtain ⟨ss, hks, hsl⟩ := htw.one.keys
      have HKS := Lib.hid hks
      have HTW := Lib.hid htw
      have hll : ss.length ≤ 1000000 := by omega
      have HGD : Hid (∀ x, Gd (stF us x)) := gd_st us (fun u hu => (HS.out u hu).2)
      clear htw hks
      go_wp2_with fail
      refine (keys_any _ _ (2 * k) _ ss HKS.out (kn_st us) (by omega) _ HTW.out.two).mono ?_
      rintro e w5 ⟨g, cg, rfl, hr5, hb5⟩
      have HT5 := Lib.hid (HTW.out.below hb5)
      have HI5 := Lib.hid (isSs_own hr5)
      clear hr5 hb5 HTW
      go_wp2_with fail
      go_loopw [61] (fun v wr => ∃ j : Nat, j ≤ ss.length ∧ v = .int .i64 j ∧ Tw w.heap.size w wr b1 m1 (2 * k) (stF us) b2 m2 (2 * k) (stF us) ∧ IsSs wr (some ⟨g, 0, none⟩) ss) (fun v _ => ss.length - (intOf v).toNat)
      case atStart => exact ⟨0, Nat.zero_le _, rfl, HT5.out, HI5.out⟩
      case round =>
        obtain ⟨j, hj, rfl, htw, his⟩ := hrel
        clear HT5 HI5
        by_cases hjl : j < ss.length
        · have c := isSs_cell his hjl
          have hkl := key_le HKS.out (kn_st us) hjl
          generalize ByteArray.mk (ss.getD j []).toArray = key at c hkl
          have HG1 := fun W h => Lib.hid (get_any b1 m1 (2 * k) (stF us) key hkl (HGD.out _).2.2 W h)
          have HG2 := fun W h => Lib.hid (get_any b2 m2 (2 * k) (stF us) key hkl (HGD.out _).2.2 W h)
          have HTW := Lib.hid htw
          have HIS := Lib.hid his
          clear htw his hkl
          generalize stF us (ky key) = r at HG1 HG2
          obtain ⟨rk, rn, rs⟩ := r
          simp only [vv_eq] at HG1 HG2
          go_wp2_with fail
          refine (HG1 _ HTW.out.one).out.mono ?_
          rintro e w6 ⟨rfl, hb6⟩
          have HT6 := Lib.hid (HTW.out.below hb6)
          have HI6 := Lib.hid (isSs_below HIS.out hb6)
          clear hb6 HTW HIS
          go_wp2_with fail
          refine (HG2 _ HT6.out.two).out.mono ?_
          rintro e w7 ⟨rfl, hb7⟩
          have HT7 := Lib.hid (HT6.out.below hb7)
          have HI7 := Lib.hid (isSs_below HI6.out hb7)
          clear hb7 HT6 HI6
          go_wp2
          go_roundw
          case rel => exact ⟨j + 1, by omega, by go_num, HT7.out, HI7.out⟩
          case measure => simp [intOf]; omega
        · obtain rfl : j = ss.length := by omega
          have HTW := Lib.hid htw
          clear htw his
          go_wp2_with fail
          refine (keys_any _ _ (2 * k) _ ss HKS.out (kn_st us) (by omega) _ HTW.out.one).mono ?_
          rintro e w6 ⟨g6, c6, rfl, hr6, hb6⟩
          have HT6 := Lib.hid (HTW.out.below hb6)
          have HI6 := Lib.hid (isSs_own hr6)
          clear hr6 hb6 HTW
          go_wp2_with fail
          refine (keys_any _ _ (2 * k) _ ss HKS.out (kn_st us) (by omega) _ HT6.out.two).mono ?_
          rintro e w7 ⟨g7, c7, rfl, hr7, hb7⟩
          have HT7 := Lib.hid (HT6.out.below hb7)
          have HJ7 := Lib.hid (isSs_own hr7)
          have HI7 := Lib.hid (isSs_below HI6.out hb7)
          clear hr7 hb7 HT6 HI6
          go_wp2_with fail
          refine (same_yes _ _ _ _ ss hll _ HI7.out HJ7.out).mono ?_
          rintro e w8 ⟨rfl, hb8⟩
          have HB8 := Lib.hid (Below.next HT7.out.bel hb8)
          clear hb8 HT7 HI7 HJ7
          go_wp2
          go_ret
          exact ⟨rfl, HB8.out⟩
end Go.Proofs.Ytfcbilpbcofcfaa
