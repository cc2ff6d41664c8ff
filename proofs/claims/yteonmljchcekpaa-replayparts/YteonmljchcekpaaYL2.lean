/- The walk of ReplayParts. -/
import Derived.Test.YteonmljchcekpaaYB
import Derived.Deep.RegionHeld3
namespace Go.Proofs.Yteonmljchcekpaa
open Go Go.RowKit Go.Maps Go.Sort
set_option maxRecDepth 20000
theorem parts_each {w w' : World} {a ar : Option Addr} {len cap lr : Nat} {us : List Up} {rs : List Rn} (hr : IsRs w ar lr rs) (hu : IsUs w a len us) (hc : len ≤ cap) (hn : a = none → cap = 0) (hb : Below w.heap.size w w') : ∀ r ∈ rs ++ [(⟨9, 9, a, len, cap, us⟩ : Rn)], Ru w' r := fun r hx => by
  rcases List.mem_append.1 hx with hx | hx
  · exact each_below hr hb r hx
  · obtain rfl := List.mem_singleton.1 hx
    exact ⟨isUs_below hu hb, hc, hn⟩
set_option maxHeartbeats 4000000 in
theorem walkParts (key : ByteArray) (a : Option Addr) (len cap : Nat) (us : List Up) (ar : Option Addr) (lr cr : Nat) (rs : List Rn) (hc : len ≤ cap) (hn : a = none → cap = 0) (hcr : lr ≤ cr) (hnr : ar = none → cr = 0) (w : World) (hu : IsUs w a len us) (hr : IsRs w ar lr rs) :
    Calls Try.prog 5 #[.string key, .slice a len cap, .slice ar lr cr] w fun e w' => e = .returned (.bool true) ∧ Below w.heap.size w w' := by
  by_cases hg : g8 us rs
  · have HG := fun w hu hr => Lib.hid (great8_yes a len cap us ar lr cr rs hg w hu hr)
    have HU := Lib.hid hu
    have HR := Lib.hid hr
    clear hg hu hr hc hn hcr hnr
    go_enter Try.func5, Try.ntmps5
    go_wp2_with fail
    refine (awake_yes _).mono ?_
    rintro e w1 ⟨rfl, hb⟩
    have HB1 := Lib.hid hb
    clear hb
    go_wp2_with fail
    refine (HG _ (isUs_below HU.out HB1.out) (isRs_below HR.out HB1.out)).out.mono ?_
    rintro e w2 ⟨rfl, hb⟩
    have HB2 := Lib.hid (Below.next HB1.out hb)
    clear hb HB1 HG
    go_wp2_with fail
    refine (awake_yes _).mono ?_
    rintro e w3 ⟨rfl, hb⟩
    have HB3 := Lib.hid (Below.next HB2.out hb)
    clear hb HB2
    go_wp2
    go_ret
    exact ⟨rfl, HB3.out⟩
  have HG := fun w hu hr => Lib.hid (great8_no a len cap us ar lr cr rs hg w hu hr)
  have hp := g8_pl hg
  have hrl := (g8_rs hg).1
  have hul := (g8_us hg).1
  have HU := Lib.hid hu
  have HR := Lib.hid hr
  rw [hr.size] at hrl
  rw [hu.size] at hul
  by_cases hk : 100 < key.size
  · have q : decide ((100 : Int) < (key.size : Int)) = true := decide_eq_true (by omega)
    clear hg hu hr hp hk hc hn hcr hnr
    go_enter Try.func5, Try.ntmps5
    go_wp2_with fail
    refine (awake_yes _).mono ?_
    rintro e w1 ⟨rfl, hb⟩
    have HB1 := Lib.hid hb
    clear hb
    go_wp2_with fail
    refine (HG _ (isUs_below HU.out HB1.out) (isRs_below HR.out HB1.out)).out.mono ?_
    rintro e w2 ⟨rfl, hb⟩
    have HB2 := Lib.hid (Below.next HB1.out hb)
    clear hb HB1 HG
    go_wp2_with fail
    refine (awake_yes _).mono ?_
    rintro e w3 ⟨rfl, hb⟩
    have HB3 := Lib.hid (Below.next HB2.out hb)
    clear hb HB2
    go_wp2
    go_ret
    exact ⟨rfl, HB3.out⟩
  have q : decide ((100 : Int) < (key.size : Int)) = false := decide_eq_false (by omega)
  have hk1 : key.size ≤ 1000 := by omega
  clear hk
  have HRD := fun w hu hr => Lib.hid (read_any key a len cap us ar lr cr rs hp w hu hr)
  have hpo : Pl [] (rs ++ [⟨9, 9, a, len, cap, us⟩]) := by
    have h1 := hp.len
    have h2 := hp.sh
    have h3 := hr.size
    have e : flatR (rs ++ [⟨9, 9, a, len, cap, us⟩]) ++ [] = flatR rs ++ us := by rw [flatR_snoc, List.append_nil]
    exact ⟨by rw [e]; exact h2, by rw [e]; exact h1, by rw [List.length_append]; simp; omega⟩
  have HRO := fun ar cr w hr => Lib.hid (read_any key none 0 0 [] ar (lr + 1) cr (rs ++ [⟨9, 9, a, len, cap, us⟩]) hpo w (isUs_nil w) hr)
  obtain ⟨ss, hss, _⟩ := keyL_ex (flatR rs ++ us)
  have HLN := fun w hu hr => Lib.hid (lens_any a len cap us ar lr cr rs hp ss hss w hu hr)
  have HLO := fun ar cr w hr => Lib.hid (lens_any none 0 0 [] ar (lr + 1) cr (rs ++ [⟨9, 9, a, len, cap, us⟩]) hpo ss (by rw [flatR_snoc, List.append_nil]; exact hss) w (isUs_nil w) hr)
  rw [flatR_snoc, List.append_nil] at HRO
  obtain ⟨⟨rk, rn, rt⟩, HEQ⟩ : ∃ r, Hid (stF (flatR rs ++ us) (ky key) = r) := ⟨_, Lib.hid rfl⟩
  rw [HEQ.out] at HRD HRO
  simp only [vv_eq] at HRD HRO
  have HC := Lib.hid hc
  have HN := Lib.hid hn
  have HCR := Lib.hid hcr
  have HNR := Lib.hid hnr
  clear hp hc hn hcr hnr HEQ hss hpo
  generalize ss.length = sl at *
  clear hg hu hr
  go_enter Try.func5, Try.ntmps5
  go_wp2_with fail
  refine (awake_yes _).mono ?_
  rintro e w1 ⟨rfl, hb⟩
  have HB1 := Lib.hid hb
  clear hb
  go_wp2_with fail
  refine (HG _ (isUs_below HU.out HB1.out) (isRs_below HR.out HB1.out)).out.mono ?_
  rintro e w2 ⟨rfl, hb⟩
  have HB2 := Lib.hid (Below.next HB1.out hb)
  clear hb HB1 HG
  have tok1 : True := trivial
  have tok2 : True := trivial
  go_wp2_with (first
    | (at_builtin; have _t := tok1; refine wpList_appR0 rfl _ _ rfl rfl ar lr cr rfl rs (isRs_below HR.out HB2.out).at HCR.out HNR.out (by omega) ?_; intro a4 c4 w4 hr4 hb4; have HB4 := Lib.hid (Below.next HB2.out hb4); have HR4 := Lib.hid hr4; have HBB := Lib.hid hb4; clear hr4 hb4 tok1)
    | (at_builtin; have _t := tok2; refine wpList_appR rfl _ _ rfl w2.heap.size _ rs rfl (HR4.out.alloc _) (some ⟨w4.heap.size, 0, none⟩) 1 1 rfl [⟨9, 9, a, len, cap, us⟩] (rsAt_one w4 ⟨9, 9, a, len, cap, us⟩) (Nat.le_refl _) (fun e => by cases e) (by have := HR.out.size; omega) (by have := HBB.out.size; simp; omega) ?_; intro a5 c5 w5 hr5 hg5 _; rw [HR.out.size] at hr5; have HX := Lib.hid (belR (HR4.out.alloc _) (HBB.out.alloc HBB.out.size _) hg5 (by have := HBB.out.size; simp; omega)); have HB5 := Lib.hid (Below.next HB2.out HX.out); have HR5 := Lib.hid (hr5.isR (by rw [List.length_append, HR.out.size]; rfl) (parts_each HR.out HU.out HC.out HN.out HB5.out)).1; clear hr5 hg5 HX HR4 HBB HB4 tok2; rw [HR.out.size])
    | (go_at_call_of 11 a; refine (HRD _ (isUs_below HU.out HB5.out) (isRs_below HR.out HB5.out)).out.mono ?_; rintro e w6 ⟨rfl, hb⟩; have HB6 := Lib.hid (Below.next HB5.out hb); have HR6 := Lib.hid (isRs_below HR5.out hb); clear hb)
    | (go_at_call_of 11 a5; refine (HRO _ _ _ HR6.out).out.mono ?_; rintro e w7 ⟨rfl, hb⟩; have HB7 := Lib.hid (Below.next HB6.out hb); have HR7 := Lib.hid (isRs_below HR6.out hb); clear hb)
    | (go_at_call_of 14 a; refine (HLN _ (isUs_below HU.out HB7.out) (isRs_below HR.out HB7.out)).out.mono ?_; rintro e w8 ⟨rfl, hb⟩; have HB8 := Lib.hid (Below.next HB7.out hb); have HR8 := Lib.hid (isRs_below HR7.out hb); clear hb)
    | (go_at_call_of 14 a5; refine (HLO _ _ _ HR8.out).out.mono ?_; rintro e w9 ⟨rfl, hb⟩; have HB9 := Lib.hid (Below.next HB8.out hb); clear hb)
    | go_in)
  go_ret
  exact ⟨rfl, HB9.out⟩
end Go.Proofs.Yteonmljchcekpaa
