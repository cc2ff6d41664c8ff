/- The walk of ReplayReads. -/
import Derived.Test.YteonmljchcekpaaYB
import Derived.Deep.RegionHeld3
namespace Go.Proofs.Yteonmljchcekpaa
open Go Go.RowKit Go.Maps Go.Sort
set_option maxRecDepth 20000
set_option maxHeartbeats 4000000 in
theorem walkReads (key : ByteArray) (a : Option Addr) (len cap : Nat) (us : List Up) (ar : Option Addr) (lr cr : Nat) (rs : List Rn) (hc : len ≤ cap) (hn : a = none → cap = 0) (hcr : lr ≤ cr) (hnr : ar = none → cr = 0) (w : World) (hu : IsUs w a len us) (hr : IsRs w ar lr rs) :
    Calls Try.prog 3 #[.string key, .slice a len cap, .slice ar lr cr] w fun e w' => e = .returned (.bool true) ∧ Below w.heap.size w w' := by
  by_cases hg : g8 us rs
  · have HG := fun w hu hr => Lib.hid (great8_yes a len cap us ar lr cr rs hg w hu hr)
    have HU := Lib.hid hu
    have HR := Lib.hid hr
    clear hg hu hr hc hn hcr hnr
    go_enter Try.func3, Try.ntmps3
    go_wp2_with fail
    refine (awake_yes _).mono ?_
    rintro e w1 ⟨rfl, hb⟩
    have HB1 := Lib.hid hb
    clear hb
    go_wp2_with fail
    refine (HG _ (isUs_below HU.out HB1.out) (isRs_below HR.out HB1.out)).out.mono ?_
    rintro e w2 ⟨rfl, hb⟩
    have HB2 := Lib.hid (Below.next HB1.out hb)
    clear hb HB1 HG
    go_wp2_with fail
    refine (awake_yes _).mono ?_
    rintro e w3 ⟨rfl, hb⟩
    have HB3 := Lib.hid (Below.next HB2.out hb)
    clear hb HB2
    go_wp2
    go_ret
    exact ⟨rfl, HB3.out⟩
  have HG := fun w hu hr => Lib.hid (great8_no a len cap us ar lr cr rs hg w hu hr)
  have hp := g8_pl hg
  have hrl := (g8_rs hg).1
  have hul := (g8_us hg).1
  have HU := Lib.hid hu
  have HR := Lib.hid hr
  rw [hr.size] at hrl
  rw [hu.size] at hul
  by_cases hk : 100 < key.size
  · have q : decide ((100 : Int) < (key.size : Int)) = true := decide_eq_true (by omega)
    clear hg hu hr hp hk hc hn hcr hnr
    go_enter Try.func3, Try.ntmps3
    go_wp2_with fail
    refine (awake_yes _).mono ?_
    rintro e w1 ⟨rfl, hb⟩
    have HB1 := Lib.hid hb
    clear hb
    go_wp2_with fail
    refine (HG _ (isUs_below HU.out HB1.out) (isRs_below HR.out HB1.out)).out.mono ?_
    rintro e w2 ⟨rfl, hb⟩
    have HB2 := Lib.hid (Below.next HB1.out hb)
    clear hb HB1 HG
    go_wp2_with fail
    refine (awake_yes _).mono ?_
    rintro e w3 ⟨rfl, hb⟩
    have HB3 := Lib.hid (Below.next HB2.out hb)
    clear hb HB2
    go_wp2
    go_ret
    exact ⟨rfl, HB3.out⟩
  have q : decide ((100 : Int) < (key.size : Int)) = false := decide_eq_false (by omega)
  have hk1 : key.size ≤ 1000 := by omega
  clear hk
  have HRD := fun a c ar cr w hu hr => Lib.hid (read_any key a len c us ar lr cr rs hp w hu hr)
  have HRD2 := fun w hu hr => Lib.hid (dread_any key a len cap us ar lr cr rs hp hc hn w hu hr)
  obtain ⟨⟨rk, rn, rt⟩, HEQ⟩ : ∃ r, Hid (stF (flatR rs ++ us) (ky key) = r) := ⟨_, Lib.hid rfl⟩
  rw [HEQ.out] at HRD HRD2
  simp only [vv_eq] at HRD HRD2
  have HC := Lib.hid hc
  have HN := Lib.hid hn
  have HCR := Lib.hid hcr
  have HNR := Lib.hid hnr
  clear hp hc hn hcr hnr HEQ
  clear hg hu hr
  go_enter Try.func3, Try.ntmps3
  go_wp2_with fail
  refine (awake_yes _).mono ?_
  rintro e w1 ⟨rfl, hb⟩
  have HB1 := Lib.hid hb
  clear hb
  go_wp2_with fail
  refine (HG _ (isUs_below HU.out HB1.out) (isRs_below HR.out HB1.out)).out.mono ?_
  rintro e w2 ⟨rfl, hb⟩
  have HB2 := Lib.hid (Below.next HB1.out hb)
  clear hb HB1 HG
  go_wp2_with (first
    | (at_builtin; refine wpList_appU0 rfl _ _ rfl rfl a len cap rfl us (isUs_below HU.out HB2.out) HC.out HN.out (by omega) ?_; intro a3 c3 w3 hr3 hb3; have HU3 := Lib.hid (hr3.isU (by have := HU.out.size; omega)).1; have HB3 := Lib.hid (Below.next HB2.out hb3); clear hr3 hb3)
    | (at_builtin; refine wpList_appR0 rfl _ _ rfl rfl ar lr cr rfl rs (isRs_below HR.out HB3.out).at HCR.out HNR.out (by omega) ?_; intro a4 c4 w4 hr4 hb4; have HU4 := Lib.hid (isUs_below HU3.out hb4); have HB4 := Lib.hid (Below.next HB3.out hb4); have HR4 := Lib.hid (hr4.isR (by have := HR.out.size; omega) (each_below HR.out HB4.out)).1; clear hr4 hb4)
    | (go_at_call 11; refine (HRD _ _ _ _ _ HU4.out HR4.out).out.mono ?_; rintro e w5 ⟨rfl, hb⟩; have HB5 := Lib.hid (Below.next HB4.out hb); clear hb)
    | (go_at_call 12; refine (HRD2 _ (isUs_below HU.out HB5.out) (isRs_below HR.out HB5.out)).out.mono ?_; rintro e w6 ⟨rfl, hb⟩; have HB6 := Lib.hid (Below.next HB5.out hb); clear hb)
    | go_in)
  go_ret
  exact ⟨rfl, HB6.out⟩
end Go.Proofs.Yteonmljchcekpaa
