/- Fits, both. -/
import Derived.Test.YtcknklodnfabpaaDoorXCP
import Derived.Test.YtcknklodnfabpaaDoorXD
import Derived.Test.YtcknklodnfabpaaDoorX1
namespace Go.Proofs.YtcknklodnfabpaaDoor
open Go Go.RowKit
/-- Do updates fit? -/
def fitsB (us : List Up) (mtu : Int) : Bool := decide (64 ≤ mtu ∧ mtu ≤ 1400 ∧ mayR 64 1099511627776 us = 0 ∧ ((pxR 64 1099511627776 us).size : Int) ≤ mtu - 40)
set_option maxHeartbeats 1000000 in
theorem fits_1 (a : Option Addr) (len cap : Nat) (mtu : Int) (h : mtu < 64 ∨ 1400 < mtu) (w : World) :
    Calls Tryd.prog 20 #[.slice a len cap, .int .i64 mtu] w fun x w' => x = .returned (.bool false) ∧ Below w.heap.size w w' := by
  rcases h with h | h
  · have q : decide (mtu < 64) = true := decide_eq_true h
    clear h
    go_enter Tryd.func20, Tryd.ntmps20
    go_wp2
    go_ret
    exact ⟨rfl, Below.refl _ _⟩
  · have q : decide (mtu < 64) = false := decide_eq_false (by omega)
    have q2 : decide (1400 < mtu) = true := decide_eq_true h
    clear h
    go_enter Tryd.func20, Tryd.ntmps20
    go_wp2
    go_ret
    exact ⟨rfl, Below.refl _ _⟩
set_option maxHeartbeats 1000000 in
theorem fits_2 (a : Option Addr) (len cap : Nat) (us : List Up) (mtu : Int) (h1 : 64 ≤ mtu) (h2 : mtu ≤ 1400) (w : World) (hd : Wd w) (hu : IsUs w a len us) :
    Calls Tryd.prog 20 #[.slice a len cap, .int .i64 mtu] w fun x w' => x = .returned (.bool (decide (mayR 64 1099511627776 us = 0 ∧ ((pxR 64 1099511627776 us).size : Int) ≤ mtu - 40))) ∧ Below w.heap.size w w' := by
  have q : decide (mtu < 64) = false := decide_eq_false (by omega)
  have q2 : decide (1400 < mtu) = false := decide_eq_false (by omega)
  have HP := Lib.hid (rndput_any 64 1099511627776 a len cap us w hd hu)
  by_cases hm : mayR 64 1099511627776 us = 0
  · have e1 : putR 64 1099511627776 us = pxR 64 1099511627776 us := if_pos hm
    rw [e1, hm] at HP
    by_cases hs : ((pxR 64 1099511627776 us).size : Int) ≤ mtu - 40
    · rw [decide_eq_true (show mayR 64 1099511627776 us = 0 ∧ _ from ⟨hm, hs⟩)]
      generalize pxR 64 1099511627776 us = px at *
      have q3 : decide ((px.size : Int) ≤ mtu - 40) = true := decide_eq_true hs
      clear hm e1 hs
      go_enter Tryd.func20, Tryd.ntmps20
      go_wp2_with fail
      refine HP.out.mono ?_
      rintro x w1 ⟨rfl, hb⟩
      have HB := Lib.hid hb
      clear hb HP
      go_wp2
      go_ret
      exact ⟨rfl, HB.out⟩
    · rw [decide_eq_false (fun e => hs e.2)]
      generalize pxR 64 1099511627776 us = px at *
      have q3 : decide ((px.size : Int) ≤ mtu - 40) = false := decide_eq_false hs
      clear hm e1 hs
      go_enter Tryd.func20, Tryd.ntmps20
      go_wp2_with fail
      refine HP.out.mono ?_
      rintro x w1 ⟨rfl, hb⟩
      have HB := Lib.hid hb
      clear hb HP
      go_wp2
      go_ret
      exact ⟨rfl, HB.out⟩
  · rw [decide_eq_false (fun e => hm e.1)]
    generalize putR 64 1099511627776 us = px at *
    generalize mayR 64 1099511627776 us = me at *
    have q3 : (me == 0) = false := by rw [beq_eq_false_iff_ne]; exact hm
    clear hm
    go_enter Tryd.func20, Tryd.ntmps20
    go_wp2_with fail
    refine HP.out.mono ?_
    rintro x w1 ⟨rfl, hb⟩
    have HB := Lib.hid hb
    clear hb HP
    go_wp2
    go_ret
    exact ⟨rfl, HB.out⟩
theorem rndfits_any (a : Option Addr) (len cap : Nat) (us : List Up) (mtu : Int) (w : World) (hd : Wd w) (hu : IsUs w a len us) :
    Calls Tryd.prog 20 #[.slice a len cap, .int .i64 mtu] w fun x w' => x = .returned (.bool (fitsB us mtu)) ∧ Below w.heap.size w w' := by
  by_cases h : mtu < 64 ∨ 1400 < mtu
  · rw [show fitsB us mtu = false from decide_eq_false (fun e => by omega)]
    exact fits_1 a len cap mtu h w
  · have h1 : 64 ≤ mtu := by omega
    have h2 : mtu ≤ 1400 := by omega
    rw [show fitsB us mtu = decide (mayR 64 1099511627776 us = 0 ∧ ((pxR 64 1099511627776 us).size : Int) ≤ mtu - 40) by unfold fitsB; simp [h1, h2]]
    exact fits_2 a len cap us mtu h1 h2 w hd hu
set_option maxHeartbeats 1000000 in
theorem dfits_1 (a : Option Addr) (len cap : Nat) (mtu : Int) (h : mtu < 64 ∨ 1400 < mtu) (w : World) :
    Calls Tryd.prog 21 #[.slice a len cap, .int .i64 mtu] w fun x w' => x = .returned (.bool false) ∧ Below w.heap.size w w' := by
  have HB := Lib.hid (Joins.below_alloc1 w (.cells #[.int .i64 64, .int .i64 1099511627776, .slice a len cap] 24))
  rcases h with h | h
  · have q : decide (64 ≤ mtu) = false := decide_eq_false (by omega)
    clear h
    go_enter Tryd.func21, Tryd.ntmps21
    go_wp2
    go_ret
    exact ⟨rfl, HB.out⟩
  · have q : decide (64 ≤ mtu) = true := decide_eq_true (by omega)
    have q2 : decide (mtu ≤ 1400) = false := decide_eq_false (by omega)
    clear h
    go_enter Tryd.func21, Tryd.ntmps21
    go_wp2
    go_ret
    exact ⟨rfl, HB.out⟩
set_option maxHeartbeats 1000000 in
theorem dfits_2 (a : Option Addr) (len cap : Nat) (us : List Up) (mtu : Int) (h1 : 64 ≤ mtu) (h2 : mtu ≤ 1400) (w : World) (hu : IsUs w a len us) :
    Calls Tryd.prog 21 #[.slice a len cap, .int .i64 mtu] w fun x w' => x = .returned (.bool (decide (mayR 64 1099511627776 us = 0 ∧ ((pxR 64 1099511627776 us).size : Int) ≤ mtu - 40))) ∧ Below w.heap.size w w' := by
  have q : decide (64 ≤ mtu) = true := decide_eq_true h1
  have q2 : decide (mtu ≤ 1400) = true := decide_eq_true h2
  have hB := Joins.below_alloc1 w (.cells #[.int .i64 64, .int .i64 1099511627776, .slice a len cap] 24)
  have hr := Rb.new w 64 1099511627776 a len cap
  have HM := Lib.hid (docmay_any 64 1099511627776 a len cap us _ (isUs_below hu hB))
  have c0 := hr.c0
  have c1 := hr.c1
  have c2 := hr.c2
  by_cases hm : mayR 64 1099511627776 us = 0
  · have HP := Lib.hid (fun w h => docbytes 64 1099511627776 a len cap us hm w h)
    rw [hm] at HM
    by_cases hs : ((pxR 64 1099511627776 us).size : Int) ≤ mtu - 40
    · rw [decide_eq_true (show mayR 64 1099511627776 us = 0 ∧ _ from ⟨hm, hs⟩)]
      generalize pxR 64 1099511627776 us = px at *
      have q3 : decide ((px.size : Int) ≤ mtu - 40) = true := decide_eq_true hs
      have HR := Lib.hid hr
      have HB := Lib.hid hB
      have HU := Lib.hid hu
      clear hm hs hr hB hu
      go_enter Tryd.func21, Tryd.ntmps21
      go_wp2_with fail
      refine HM.out.mono ?_
      rintro x w1 ⟨rfl, hb⟩
      have hr := HR.out.next hb
      have c0 := hr.c0
      have c1 := hr.c1
      have c2 := hr.c2
      have HB1 := Lib.hid (Below.next HB.out hb)
      clear hb HM hr HR HB
      go_wp2_with fail
      refine (HP.out _ (isUs_below HU.out HB1.out)).mono ?_
      rintro x w2 ⟨rfl, hb⟩
      have HB2 := Lib.hid (Below.next HB1.out hb)
      clear hb HP HB1 c0 c1 c2
      go_wp2
      go_ret
      exact ⟨rfl, HB2.out⟩
    · rw [decide_eq_false (fun e => hs e.2)]
      generalize pxR 64 1099511627776 us = px at *
      have q3 : decide ((px.size : Int) ≤ mtu - 40) = false := decide_eq_false hs
      have HR := Lib.hid hr
      have HB := Lib.hid hB
      have HU := Lib.hid hu
      clear hm hs hr hB hu
      go_enter Tryd.func21, Tryd.ntmps21
      go_wp2_with fail
      refine HM.out.mono ?_
      rintro x w1 ⟨rfl, hb⟩
      have hr := HR.out.next hb
      have c0 := hr.c0
      have c1 := hr.c1
      have c2 := hr.c2
      have HB1 := Lib.hid (Below.next HB.out hb)
      clear hb HM hr HR HB
      go_wp2_with fail
      refine (HP.out _ (isUs_below HU.out HB1.out)).mono ?_
      rintro x w2 ⟨rfl, hb⟩
      have HB2 := Lib.hid (Below.next HB1.out hb)
      clear hb HP HB1 c0 c1 c2
      go_wp2
      go_ret
      exact ⟨rfl, HB2.out⟩
  · rw [decide_eq_false (fun e => hm e.1)]
    generalize mayR 64 1099511627776 us = me at *
    have q3 : (me == 0) = false := by rw [beq_eq_false_iff_ne]; exact hm
    have HB := Lib.hid hB
    clear hm hr hB hu
    go_enter Tryd.func21, Tryd.ntmps21
    go_wp2_with fail
    refine HM.out.mono ?_
    rintro x w1 ⟨rfl, hb⟩
    have HB1 := Lib.hid (Below.next HB.out hb)
    clear hb HM HB c0 c1 c2
    go_wp2
    go_ret
    exact ⟨rfl, HB1.out⟩
theorem docfits_any (a : Option Addr) (len cap : Nat) (us : List Up) (mtu : Int) (w : World) (hu : IsUs w a len us) :
    Calls Tryd.prog 21 #[.slice a len cap, .int .i64 mtu] w fun x w' => x = .returned (.bool (fitsB us mtu)) ∧ Below w.heap.size w w' := by
  by_cases h : mtu < 64 ∨ 1400 < mtu
  · rw [show fitsB us mtu = false from decide_eq_false (fun e => by omega)]
    exact dfits_1 a len cap mtu h w
  · have h1 : 64 ≤ mtu := by omega
    have h2 : mtu ≤ 1400 := by omega
    rw [show fitsB us mtu = decide (mayR 64 1099511627776 us = 0 ∧ ((pxR 64 1099511627776 us).size : Int) ≤ mtu - 40) by unfold fitsB; simp [h1, h2]]
    exact dfits_2 a len cap us mtu h1 h2 w hu
end Go.Proofs.YtcknklodnfabpaaDoor
