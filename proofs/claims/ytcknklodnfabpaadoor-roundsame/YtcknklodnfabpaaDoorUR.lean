/- readKind, readKey, Read. -/
import Derived.Test.YtcknklodnfabpaaDoorUM
namespace Go.Proofs.YtcknklodnfabpaaDoor
open Go Go.RowKit
def kndE (B : ByteArray) (At : Nat) (E : Int) : Int := if numV B At E 5 = 0 then failE (numE B At E 5) 5 else numE B At E 5
def keyE (B : ByteArray) (At : Nat) (E : Int) : Int := if (txtV B At E 16).size = 0 then failE (txtE B At E 16) 1 else txtE B At E 16
set_option maxHeartbeats 400000 in
theorem knd_any (B : ByteArray) (At : Nat) (E : Int) (b : Nat) (hA : At ≤ B.size) (hm : B.size ≤ maxLen) (w : World) (hd : Wd w) (h : Rd w b (rst B At E) E) :
    Calls Tryd.prog 66 #[.pointer (some ⟨b, 0, none⟩)] w fun x w' => x = .returned (.int .i64 (numV B At E 5)) ∧ Rd w' b (rst B (rawA B At E) (kndE B At E)) (kndE B At E) ∧ w.grownBy w' (some b) := by
  have HU := Lib.hid (num_any B At E 5 b hA hm (by decide) (by decide) w hd h)
  have hvb := numV_bd B At E 5 hA
  clear h
  by_cases h0 : numV B At E 5 = 0
  · rw [show kndE B At E = failE (numE B At E 5) 5 from if_pos h0]
    rw [h0] at HU ⊢
    go_enter Tryd.func66, Tryd.ntmps66
    go_wp2_with fail
    refine HU.out.mono ?_
    rintro x w1 ⟨rfl, hr, hgr⟩
    have HR := Lib.hid hr
    have HGR := Lib.hid hgr
    clear hr hgr HU
    go_wp2_with fail
    refine (fail_any B (rawA B At E) (numE B At E 5) 5 b _ HR.out).mono ?_
    rintro x w2 ⟨rfl, hr, hgr⟩
    have HR2 := Lib.hid hr
    have HG2 := Lib.hid (grown_trans HGR.out hgr)
    clear hr hgr HR HGR
    go_wp2
    go_ret
    exact ⟨rfl, HR2.out, HG2.out⟩
  · rw [show kndE B At E = numE B At E 5 from if_neg h0]
    have k1 : (numV B At E 5 == 0) = false := by rw [beq_eq_false_iff_ne]; exact h0
    generalize numV B At E 5 = V at *
    go_enter Tryd.func66, Tryd.ntmps66
    go_wp2_with fail
    refine HU.out.mono ?_
    rintro x w1 ⟨rfl, hr, hgr⟩
    have HR := Lib.hid hr
    have HGR := Lib.hid hgr
    clear hr hgr HU
    go_wp2
    go_ret
    exact ⟨rfl, HR.out, HGR.out⟩
theorem szero (s : ByteArray) (h : s.size = 0) : s = ⟨#[]⟩ := by
  apply eq_of_byt
  · rw [h]; rfl
  · intro i hi; omega
set_option maxHeartbeats 400000 in
theorem key_any (B : ByteArray) (At : Nat) (E : Int) (b : Nat) (hA : At ≤ B.size) (hm : B.size ≤ 140737488355328) (w : World) (hd : Wd w) (h : Rd w b (rst B At E) E) :
    Calls Tryd.prog 67 #[.pointer (some ⟨b, 0, none⟩)] w fun x w' => x = .returned (.string (txtV B At E 16)) ∧ Rd w' b (rst B (txtA B At E 16) (keyE B At E)) (keyE B At E) ∧ w.grownBy w' (some b) := by
  have HU := Lib.hid (txt_any B At E 16 b hA hm (by decide) (by decide) w hd h)
  clear h
  by_cases h0 : (txtV B At E 16).size = 0
  · rw [show keyE B At E = failE (txtE B At E 16) 1 from if_pos h0]
    rw [szero _ h0] at HU ⊢
    go_enter Tryd.func67, Tryd.ntmps67
    go_wp2_with fail
    refine HU.out.mono ?_
    rintro x w1 ⟨rfl, hr, hgr⟩
    have HR := Lib.hid hr
    have HGR := Lib.hid hgr
    clear hr hgr HU
    go_wp2_with fail
    refine (fail_any B (txtA B At E 16) (txtE B At E 16) 1 b _ HR.out).mono ?_
    rintro x w2 ⟨rfl, hr, hgr⟩
    have HR2 := Lib.hid hr
    have HG2 := Lib.hid (grown_trans HGR.out hgr)
    clear hr hgr HR HGR
    go_wp2
    go_ret
    exact ⟨rfl, HR2.out, HG2.out⟩
  · rw [show keyE B At E = txtE B At E 16 from if_neg h0]
    have k1 := emp_no (txtV B At E 16) (by omega)
    generalize txtV B At E 16 = V at *
    go_enter Tryd.func67, Tryd.ntmps67
    go_wp2_with fail
    refine HU.out.mono ?_
    rintro x w1 ⟨rfl, hr, hgr⟩
    have HR := Lib.hid hr
    have HGR := Lib.hid hgr
    clear hr hgr HU
    go_wp2
    go_ret
    exact ⟨rfl, HR.out, HGR.out⟩
end Go.Proofs.YtcknklodnfabpaaDoor
