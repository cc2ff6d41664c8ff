/- The document's reader: Text, End. -/
import Derived.Test.YtcknklodnfabpaaDoorQU1
namespace Go.Proofs.YtcknklodnfabpaaDoor
open Go Go.RowKit
theorem Rm.step {w : World} {b : Nat} {B : ByteArray} {A : Nat} {E : Int} (h : Rm w b B A E) (k n : Nat) : Rm ((w.drewN k).setCell ⟨b, 1, none⟩ (.int .i64 ((A : Int) + (n : Int)))) b B (A + n) E := by
  have hs := Rm.set1 (w := w.drewN k) h (A + n)
  rw [Int.natCast_add] at hs
  exact hs
set_option maxHeartbeats 400000 in
theorem rtxt_e (B : ByteArray) (A : Nat) (most F V : Int) (b : Nat) (hF : F ≠ 0) (w : World)
    (HU : Hid (Calls Tryd.prog 36 #[.pointer (some ⟨b, 0, none⟩), .int .i64 most] w fun x w' => x = .returned (.int .i64 V) ∧ Rm w' b B A F ∧ w.grownBy w' (some b))) :
    Calls Tryd.prog 55 #[.pointer (some ⟨b, 0, none⟩), .int .i64 most] w fun x w' => x = .returned (.string ⟨#[]⟩) ∧ Rm w' b B A F ∧ w.grownBy w' (some b) := by
  have k1 : (F == 0) = false := by rw [beq_eq_false_iff_ne]; exact hF
  go_enter Tryd.func55, Tryd.ntmps55
  go_wp2_with fail
  refine HU.out.mono ?_
  rintro x w1 ⟨rfl, hr, hgr⟩
  have c2 := hr.c2
  have HR := Lib.hid hr
  have HGR := Lib.hid hgr
  clear hr hgr HU
  go_wp2
  go_ret
  exact ⟨rfl, HR.out, HGR.out⟩
set_option maxHeartbeats 400000 in
theorem rtxt_n (B : ByteArray) (A : Nat) (most V : Int) (b : Nat) (hA : A ≤ B.size) (hm : B.size ≤ maxLen) (hv : (B.size : Int) - A < V) (w : World)
    (HU : Hid (Calls Tryd.prog 36 #[.pointer (some ⟨b, 0, none⟩), .int .i64 most] w fun x w' => x = .returned (.int .i64 V) ∧ Rm w' b B A 0 ∧ w.grownBy w' (some b))) :
    Calls Tryd.prog 55 #[.pointer (some ⟨b, 0, none⟩), .int .i64 most] w fun x w' => x = .returned (.string ⟨#[]⟩) ∧ Rm w' b B A 2 ∧ w.grownBy w' (some b) := by
  have hw : IntKind.i64.wrap ((B.size : Int) - A) = (B.size : Int) - A := by unfold maxLen at hm; rw [IntKind.wrap_i64]; omega
  go_enter Tryd.func55, Tryd.ntmps55
  go_wp2_with fail
  refine HU.out.mono ?_
  rintro x w1 ⟨rfl, hr, hgr⟩
  have c0 := hr.c0
  have c1 := hr.c1
  have c2 := hr.c2
  have f2 := hr.f0 2
  have HR := Lib.hid hr
  have HGR := Lib.hid hgr
  clear hr hgr HU
  go_wp2_with fail
  go_quiet (fail)
  go_wp2
  go_ret
  exact ⟨rfl, Rm.set2 (w := w1.drewN nq) HR.out _, grown_trans HGR.out (grown_trans (grown_drewN w1 nq _) (grown_set _ _ _ _))⟩
set_option maxHeartbeats 400000 in
theorem rtxt_v (B : ByteArray) (A n : Nat) (most : Int) (b : Nat) (hm : B.size ≤ maxLen) (hv : A + n ≤ B.size) (w : World)
    (HU : Hid (Calls Tryd.prog 36 #[.pointer (some ⟨b, 0, none⟩), .int .i64 most] w fun x w' => x = .returned (.int .i64 (n : Int)) ∧ Rm w' b B A 0 ∧ w.grownBy w' (some b))) :
    Calls Tryd.prog 55 #[.pointer (some ⟨b, 0, none⟩), .int .i64 most] w fun x w' => x = .returned (.string (B.extract A (A + n))) ∧ Rm w' b B (A + n) 0 ∧ w.grownBy w' (some b) := by
  have hw : IntKind.i64.wrap ((B.size : Int) - A) = (B.size : Int) - A := by unfold maxLen at hm; rw [IntKind.wrap_i64]; omega
  have hw2 : IntKind.i64.wrap ((A : Int) + n) = ((A + n : Nat) : Int) := by unfold maxLen at hm; rw [IntKind.wrap_i64]; omega
  have hlt : ¬ ((B.size : Int) - A < n) := by omega
  have i1 : (A : Int) + (n : Int) ≤ (B.size : Int) := by omega
  have i2 : (0 : Int) ≤ (A : Int) + (n : Int) := by omega
  have i3 : (A : Int) ≤ (A : Int) + (n : Int) := by omega
  have i4 : ((A : Int) + (n : Int)).toNat = A + n := by omega
  go_enter Tryd.func55, Tryd.ntmps55
  go_wp2_with fail
  refine HU.out.mono ?_
  rintro x w1 ⟨rfl, hr, hgr⟩
  have c0 := hr.c0
  have c1 := hr.c1
  have c2 := hr.c2
  have f1 := hr.f0 1
  have HR := Lib.hid hr
  have HGR := Lib.hid hgr
  clear hr hgr HU
  go_wp2_with fail
  go_quiet (fail)
  go_wp2_with fail
  go_quiet (fail)
  go_wp2
  go_ret
  exact ⟨rfl, HR.out.step _ n, grown_trans HGR.out (grown_trans (grown_drewN w1 _ _) (grown_set _ _ _ _))⟩
theorem rtxt_any (B : ByteArray) (At : Nat) (E most : Int) (b : Nat) (hA : At ≤ B.size) (hm : B.size ≤ maxLen) (m1 : -9223372036854775808 ≤ most) (m2 : most ≤ 9223372036854775807) (w : World) (h : Rm w b B At E) :
    Calls Tryd.prog 55 #[.pointer (some ⟨b, 0, none⟩), .int .i64 most] w fun x w' => x = .returned (.string (txtV B At E most)) ∧ Rm w' b B (txtA B At E most) (txtE B At E most) ∧ w.grownBy w' (some b) := by
  have HU := rnum_any B At E most b hA hm m1 m2 w h
  have hAA := rawA_le B At E hA
  rcases txt3 B At E most hA with ⟨h1, h2, h3, h4, h5⟩ | ⟨h1, h2, h3, h4, h5⟩ | ⟨h1, n, h2, h3, h4, h5, h6⟩
  · rw [h3, h4, h5]
    exact rtxt_e B _ most _ _ b h1 w HU
  · rw [h3, h4, h5]
    rw [h1] at HU
    exact rtxt_n B _ most _ b hAA hm h2 w HU
  · rw [h4, h5, h6]
    rw [h1, h2] at HU
    exact rtxt_v B _ n most b hm h3 w HU
set_option maxHeartbeats 400000 in
theorem rend_dead (B : ByteArray) (At : Nat) (E : Int) (b : Nat) (hE : E ≠ 0) (w : World) (h : Rm w b B At E) :
    Calls Tryd.prog 38 #[.pointer (some ⟨b, 0, none⟩)] w fun x w' => x = .returned (.int .i64 E) ∧ Rm w' b B At E ∧ w.grownBy w' (some b) := by
  have c2 := h.c2
  have k1 : (E == 0) = false := by rw [beq_eq_false_iff_ne]; exact hE
  have H := Lib.hid h
  clear h
  go_enter Tryd.func38, Tryd.ntmps38
  go_wp2_with fail
  go_quiet (fail)
  go_wp2
  go_ret
  exact ⟨rfl, H.out, grown_drewN w _ _⟩
set_option maxHeartbeats 400000 in
theorem rend_more (B : ByteArray) (At : Nat) (b : Nat) (hA : At < B.size) (w : World) (h : Rm w b B At 0) :
    Calls Tryd.prog 38 #[.pointer (some ⟨b, 0, none⟩)] w fun x w' => x = .returned (.int .i64 4) ∧ Rm w' b B At 4 ∧ w.grownBy w' (some b) := by
  have c0 := h.c0
  have c1 := h.c1
  have c2 := h.c2
  have f2 := h.f0 2
  have i1 : (At : Int) < (B.size : Int) := by omega
  have H := Lib.hid h
  clear h
  go_enter Tryd.func38, Tryd.ntmps38
  go_wp2_with fail
  go_quiet (fail)
  go_wp2
  go_ret
  exact ⟨rfl, Rm.set2 (w := w.drewN _) H.out _, grown_trans (grown_drewN w _ _) (grown_set _ _ _ _)⟩
set_option maxHeartbeats 400000 in
theorem rend_none (B : ByteArray) (At : Nat) (b : Nat) (hA : ¬ At < B.size) (w : World) (h : Rm w b B At 0) :
    Calls Tryd.prog 38 #[.pointer (some ⟨b, 0, none⟩)] w fun x w' => x = .returned (.int .i64 0) ∧ Rm w' b B At 0 ∧ w.grownBy w' (some b) := by
  have c0 := h.c0
  have c1 := h.c1
  have c2 := h.c2
  have i1 : ¬ (At : Int) < (B.size : Int) := by omega
  have H := Lib.hid h
  clear h
  go_enter Tryd.func38, Tryd.ntmps38
  go_wp2_with fail
  go_quiet (fail)
  go_wp2
  go_ret
  exact ⟨rfl, H.out, grown_drewN w _ _⟩
theorem rend_any (B : ByteArray) (At : Nat) (E : Int) (b : Nat) (w : World) (h : Rm w b B At E) :
    Calls Tryd.prog 38 #[.pointer (some ⟨b, 0, none⟩)] w fun x w' => x = .returned (.int .i64 (endE B At E)) ∧ Rm w' b B At (endE B At E) ∧ w.grownBy w' (some b) := by
  by_cases hE : E ≠ 0
  · rw [show endE B At E = E from if_pos hE]
    exact rend_dead B At E b hE w h
  · obtain rfl : E = 0 := by omega
    by_cases hA : At < B.size
    · rw [show endE B At 0 = 4 by unfold endE; rw [if_neg (by simp), if_pos hA]]
      exact rend_more B At b hA w h
    · rw [show endE B At 0 = 0 by unfold endE; rw [if_neg (by simp), if_neg hA]]
      exact rend_none B At b hA w h
end Go.Proofs.YtcknklodnfabpaaDoor
