/- The document's reader: its block, Fail, raw, Number, Signed, End. -/
import Derived.Test.YtcknklodnfabpaaDoorR4
import Derived.Deep.QuietTactic
import Derived.BigQuiet
namespace Go.Proofs.YtcknklodnfabpaaDoor
open Go Go.RowKit
/-- In block b lies the document's reader with that text, that place and that error. -/
def Rm (w : World) (b : Nat) (B : ByteArray) (At : Nat) (E : Int) : Prop := w.heap[b]? = some (.cells #[.string B, .int .i64 (At : Int), .int .i64 E] 69 (0, 0))
theorem Rm.c0 {w b B At E} (h : Rm w b B At E) : w.cell? ⟨b, 0, none⟩ = some (.string B) := by unfold Rm at h; simp [World.cell?, h]
theorem Rm.c1 {w b B At E} (h : Rm w b B At E) : w.cell? ⟨b, 1, none⟩ = some (.int .i64 (At : Int)) := by unfold Rm at h; simp [World.cell?, h]
theorem Rm.c2 {w b B At E} (h : Rm w b B At E) : w.cell? ⟨b, 2, none⟩ = some (.int .i64 E) := by unfold Rm at h; simp [World.cell?, h]
theorem Rm.f0 {w b B At E} (h : Rm w b B At E) (i : Nat) : w.frozen? ⟨b, i, none⟩ = false := by unfold Rm at h; simp [World.frozen?, h]
theorem Rm.lt {w b B At E} (h : Rm w b B At E) : b < w.heap.size := (Array.getElem?_eq_some_iff.1 h).1
theorem Rm.kept {w w' : World} {b B At E} {row : Option Nat} (h : Rm w b B At E) (hg : w.grownBy w' row) (hne : some b ≠ row) : Rm w' b B At E := (hg.block b h.lt hne).trans h
theorem Rm.set1 {w b B At E} (h : Rm w b B At E) (A : Nat) : Rm (w.setCell ⟨b, 1, none⟩ (.int .i64 (A : Int))) b B A E := by
  unfold Rm at *; simp [World.setCell, Array.getElem?_modify, h]
theorem Rm.set2 {w b B At E} (h : Rm w b B At E) (e : Int) : Rm (w.setCell ⟨b, 2, none⟩ (.int .i64 e)) b B At e := by
  unfold Rm at *; simp [World.setCell, Array.getElem?_modify, h]
theorem rget_is (s : ByteArray) (a x y z : Int) (hm : s.size ≤ maxLen) (hg : getS s a = (x, y, z)) (w : World) : Calls Tryd.prog 71 #[.string s, .int .i64 a] w fun e w' => e = .returned (.tuple #[.int .u64 x, .int .i64 y, .int .i64 z]) ∧ w = w' := by
  have := rget_any s a hm w
  rw [hg] at this
  exact this
theorem rget_q (s : ByteArray) (a x y z : Int) (hm : s.size ≤ maxLen) (hg : getS s a = (x, y, z)) (w : World) : Calls Tryd.prog 71 #[.string s, .int .i64 a] w fun e w' => e = .returned (.tuple #[.int .u64 x, .int .i64 y, .int .i64 z]) ∧ w' = w :=
  (rget_is s a x y z hm hg w).mono fun _ _ h => ⟨h.1, h.2.symm⟩
theorem grown_drewN (w : World) (n : Nat) (row : Option Nat) : w.grownBy (w.drewN n) row := ⟨rfl, rfl, rfl, Nat.le_refl _, fun _ _ _ => rfl⟩
set_option maxHeartbeats 400000 in
theorem rraw_dead (b : Nat) (B : ByteArray) (At : Nat) (E : Int) (hE : E ≠ 0) (w : World) (h : Rm w b B At E) : Calls Tryd.prog 54 #[.pointer (some ⟨b, 0, none⟩)] w fun x w' => x = .returned (.int .u64 0) ∧ w = w' := by
  have c2 := h.c2
  have k1 : (E == 0) = false := by rw [beq_eq_false_iff_ne]; exact hE
  go_enter Tryd.func54, Tryd.ntmps54
  go_wp2
  go_ret
  exact ⟨rfl, rfl⟩
set_option maxHeartbeats 400000 in
theorem rraw_err (b : Nat) (B : ByteArray) (At : Nat) (hm : B.size ≤ maxLen) (e : Int) (he : 1 ≤ e) (hg : getS B At = (0, 0, e)) (w : World) (h : Rm w b B At 0) : Calls Tryd.prog 54 #[.pointer (some ⟨b, 0, none⟩)] w fun x w' => x = .returned (.int .u64 0) ∧ Rm w' b B At e ∧ w.grownBy w' (some b) := by
  have c0 := h.c0
  have c1 := h.c1
  have c2 := h.c2
  have f2 := h.f0 2
  have k1 : (e == 0) = false := by rw [beq_eq_false_iff_ne]; omega
  have HG := Lib.hid hg
  have H := Lib.hid h
  clear hg h
  go_enter Tryd.func54, Tryd.ntmps54
  go_wp2_with fail
  go_quiet ((go_at_call 71; exact Calls.quiet_of_same (rget_q B At 0 0 e hm HG.out _)))
  go_wp2
  go_ret
  exact ⟨rfl, Rm.set2 (w := w.drewN nq) H.out _, grown_trans (grown_drewN w nq _) (grown_set _ _ _ _)⟩
set_option maxHeartbeats 400000 in
theorem rraw_ok (b : Nat) (B : ByteArray) (At next : Nat) (hm : B.size ≤ maxLen) (N : Int) (hg : getS B At = (N, (next : Int), 0)) (w : World) (h : Rm w b B At 0) : Calls Tryd.prog 54 #[.pointer (some ⟨b, 0, none⟩)] w fun x w' => x = .returned (.int .u64 N) ∧ Rm w' b B next 0 ∧ w.grownBy w' (some b) := by
  have c0 := h.c0
  have c1 := h.c1
  have c2 := h.c2
  have f1 := h.f0 1
  have HG := Lib.hid hg
  have H := Lib.hid h
  clear hg h
  go_enter Tryd.func54, Tryd.ntmps54
  go_wp2_with fail
  go_quiet ((go_at_call 71; exact Calls.quiet_of_same (rget_q B At N next 0 hm HG.out _)))
  go_wp2
  go_ret
  exact ⟨rfl, Rm.set1 (w := w.drewN nq) H.out _, grown_trans (grown_drewN w nq _) (grown_set _ _ _ _)⟩
theorem rraw_any (B : ByteArray) (At : Nat) (E : Int) (b : Nat) (hA : At ≤ B.size) (hm : B.size ≤ maxLen) (w : World) (h : Rm w b B At E) :
    Calls Tryd.prog 54 #[.pointer (some ⟨b, 0, none⟩)] w fun x w' => x = .returned (.int .u64 (rawV B At E)) ∧ Rm w' b B (rawA B At E) (rawE B At E) ∧ w.grownBy w' (some b) := by
  rcases raw3 B At E hA with ⟨hE, _, hV, hAA, hEE⟩ | ⟨rfl, e, h1, _, hg, _, _, hV, hAA, hEE⟩ | ⟨rfl, N, W, _, _, _, _, _, hg, _, _, hV, hAA, hEE⟩
  · rw [hV, hAA, hEE]
    refine (rraw_dead b B At E hE w h).mono ?_
    rintro x w1 ⟨rfl, rfl⟩
    exact ⟨rfl, h, grown_refl _ _⟩
  · rw [hV, hAA, hEE]
    exact rraw_err b B At hm e h1 hg w h
  · rw [hV, hAA, hEE]
    exact rraw_ok b B At (At + W) hm N hg w h
theorem bd_lo (most : Int) (h : most < 0) : bd most = 0 := if_pos h
theorem bd_hi (most : Int) (h : 1152921504606846976 < most) : bd most = 1152921504606846976 := by unfold bd; rw [if_neg (by omega), if_pos h]
theorem bd_in (most : Int) (h0 : 0 ≤ most) (h : most ≤ 1152921504606846976) : bd most = most := by unfold bd; rw [if_neg (by omega), if_neg (by omega)]
set_option maxHeartbeats 400000 in
theorem rnum_lo_e (B : ByteArray) (A : Nat) (most F V : Int) (b : Nat) (_ha : most < 0) (_m1 : -9223372036854775808 ≤ most) (_m2 : most ≤ 9223372036854775807) (hF : F ≠ 0) (w : World)
    (HU : Hid (Calls Tryd.prog 54 #[.pointer (some ⟨b, 0, none⟩)] w fun x w' => x = .returned (.int .u64 V) ∧ Rm w' b B A F ∧ w.grownBy w' (some b))) :
    Calls Tryd.prog 36 #[.pointer (some ⟨b, 0, none⟩), .int .i64 most] w fun x w' => x = .returned (.int .i64 0) ∧ Rm w' b B A F ∧ w.grownBy w' (some b) := by
  have k1 : (F == 0) = false := by rw [beq_eq_false_iff_ne]; exact hF
  go_enter Tryd.func36, Tryd.ntmps36
  go_wp2_with fail
  refine HU.out.mono ?_
  rintro x w1 ⟨rfl, hr, hgr⟩
  have c2 := hr.c2
  have HR := Lib.hid hr
  have HGR := Lib.hid hgr
  clear hr hgr HU
  go_wp2
  go_ret
  exact ⟨rfl, HR.out, HGR.out⟩
set_option maxHeartbeats 400000 in
theorem rnum_lo_n (B : ByteArray) (A : Nat) (most V : Int) (b : Nat) (_ha : most < 0) (_m1 : -9223372036854775808 ≤ most) (_m2 : most ≤ 9223372036854775807) (_hv : 0 < V) (_hvb : 0 ≤ V ∧ V < 4611686018427387904) (w : World)
    (HU : Hid (Calls Tryd.prog 54 #[.pointer (some ⟨b, 0, none⟩)] w fun x w' => x = .returned (.int .u64 V) ∧ Rm w' b B A 0 ∧ w.grownBy w' (some b))) :
    Calls Tryd.prog 36 #[.pointer (some ⟨b, 0, none⟩), .int .i64 most] w fun x w' => x = .returned (.int .i64 0) ∧ Rm w' b B A 1 ∧ w.grownBy w' (some b) := by
  go_enter Tryd.func36, Tryd.ntmps36
  go_wp2_with fail
  refine HU.out.mono ?_
  rintro x w1 ⟨rfl, hr, hgr⟩
  have c2 := hr.c2
  have f2 := hr.f0 2
  have HR := Lib.hid hr
  have HGR := Lib.hid hgr
  clear hr hgr HU
  go_wp2
  go_ret
  exact ⟨rfl, HR.out.set2 _, grown_trans HGR.out (grown_set _ _ _ _)⟩
set_option maxHeartbeats 400000 in
theorem rnum_lo_v (B : ByteArray) (A : Nat) (most V : Int) (b : Nat) (_ha : most < 0) (_m1 : -9223372036854775808 ≤ most) (_m2 : most ≤ 9223372036854775807) (_hv : V ≤ 0) (_hvb : 0 ≤ V ∧ V < 4611686018427387904) (w : World)
    (HU : Hid (Calls Tryd.prog 54 #[.pointer (some ⟨b, 0, none⟩)] w fun x w' => x = .returned (.int .u64 V) ∧ Rm w' b B A 0 ∧ w.grownBy w' (some b))) :
    Calls Tryd.prog 36 #[.pointer (some ⟨b, 0, none⟩), .int .i64 most] w fun x w' => x = .returned (.int .i64 V) ∧ Rm w' b B A 0 ∧ w.grownBy w' (some b) := by
  go_enter Tryd.func36, Tryd.ntmps36
  go_wp2_with fail
  refine HU.out.mono ?_
  rintro x w1 ⟨rfl, hr, hgr⟩
  have c2 := hr.c2
  have HR := Lib.hid hr
  have HGR := Lib.hid hgr
  clear hr hgr HU
  go_wp2
  go_ret
  exact ⟨rfl, HR.out, HGR.out⟩
set_option maxHeartbeats 400000 in
theorem rnum_hi_e (B : ByteArray) (A : Nat) (most F V : Int) (b : Nat) (_hc : 1152921504606846976 < most) (_m1 : -9223372036854775808 ≤ most) (_m2 : most ≤ 9223372036854775807) (hF : F ≠ 0) (w : World)
    (HU : Hid (Calls Tryd.prog 54 #[.pointer (some ⟨b, 0, none⟩)] w fun x w' => x = .returned (.int .u64 V) ∧ Rm w' b B A F ∧ w.grownBy w' (some b))) :
    Calls Tryd.prog 36 #[.pointer (some ⟨b, 0, none⟩), .int .i64 most] w fun x w' => x = .returned (.int .i64 0) ∧ Rm w' b B A F ∧ w.grownBy w' (some b) := by
  have k1 : (F == 0) = false := by rw [beq_eq_false_iff_ne]; exact hF
  go_enter Tryd.func36, Tryd.ntmps36
  go_wp2_with fail
  refine HU.out.mono ?_
  rintro x w1 ⟨rfl, hr, hgr⟩
  have c2 := hr.c2
  have HR := Lib.hid hr
  have HGR := Lib.hid hgr
  clear hr hgr HU
  go_wp2
  go_ret
  exact ⟨rfl, HR.out, HGR.out⟩
set_option maxHeartbeats 400000 in
theorem rnum_hi_n (B : ByteArray) (A : Nat) (most V : Int) (b : Nat) (_hc : 1152921504606846976 < most) (_m1 : -9223372036854775808 ≤ most) (_m2 : most ≤ 9223372036854775807) (_hv : 1152921504606846976 < V) (_hvb : 0 ≤ V ∧ V < 4611686018427387904) (w : World)
    (HU : Hid (Calls Tryd.prog 54 #[.pointer (some ⟨b, 0, none⟩)] w fun x w' => x = .returned (.int .u64 V) ∧ Rm w' b B A 0 ∧ w.grownBy w' (some b))) :
    Calls Tryd.prog 36 #[.pointer (some ⟨b, 0, none⟩), .int .i64 most] w fun x w' => x = .returned (.int .i64 0) ∧ Rm w' b B A 1 ∧ w.grownBy w' (some b) := by
  go_enter Tryd.func36, Tryd.ntmps36
  go_wp2_with fail
  refine HU.out.mono ?_
  rintro x w1 ⟨rfl, hr, hgr⟩
  have c2 := hr.c2
  have f2 := hr.f0 2
  have HR := Lib.hid hr
  have HGR := Lib.hid hgr
  clear hr hgr HU
  go_wp2
  go_ret
  exact ⟨rfl, HR.out.set2 _, grown_trans HGR.out (grown_set _ _ _ _)⟩
set_option maxHeartbeats 400000 in
theorem rnum_hi_v (B : ByteArray) (A : Nat) (most V : Int) (b : Nat) (_hc : 1152921504606846976 < most) (_m1 : -9223372036854775808 ≤ most) (_m2 : most ≤ 9223372036854775807) (_hv : V ≤ 1152921504606846976) (_hvb : 0 ≤ V ∧ V < 4611686018427387904) (w : World)
    (HU : Hid (Calls Tryd.prog 54 #[.pointer (some ⟨b, 0, none⟩)] w fun x w' => x = .returned (.int .u64 V) ∧ Rm w' b B A 0 ∧ w.grownBy w' (some b))) :
    Calls Tryd.prog 36 #[.pointer (some ⟨b, 0, none⟩), .int .i64 most] w fun x w' => x = .returned (.int .i64 V) ∧ Rm w' b B A 0 ∧ w.grownBy w' (some b) := by
  go_enter Tryd.func36, Tryd.ntmps36
  go_wp2_with fail
  refine HU.out.mono ?_
  rintro x w1 ⟨rfl, hr, hgr⟩
  have c2 := hr.c2
  have HR := Lib.hid hr
  have HGR := Lib.hid hgr
  clear hr hgr HU
  go_wp2
  go_ret
  exact ⟨rfl, HR.out, HGR.out⟩
set_option maxHeartbeats 400000 in
theorem rnum_in_e (B : ByteArray) (A : Nat) (most F V : Int) (b : Nat) (_ha : 0 ≤ most) (_hc : most ≤ 1152921504606846976) (_m1 : -9223372036854775808 ≤ most) (_m2 : most ≤ 9223372036854775807) (hF : F ≠ 0) (w : World)
    (HU : Hid (Calls Tryd.prog 54 #[.pointer (some ⟨b, 0, none⟩)] w fun x w' => x = .returned (.int .u64 V) ∧ Rm w' b B A F ∧ w.grownBy w' (some b))) :
    Calls Tryd.prog 36 #[.pointer (some ⟨b, 0, none⟩), .int .i64 most] w fun x w' => x = .returned (.int .i64 0) ∧ Rm w' b B A F ∧ w.grownBy w' (some b) := by
  have k1 : (F == 0) = false := by rw [beq_eq_false_iff_ne]; exact hF
  go_enter Tryd.func36, Tryd.ntmps36
  go_wp2_with fail
  refine HU.out.mono ?_
  rintro x w1 ⟨rfl, hr, hgr⟩
  have c2 := hr.c2
  have HR := Lib.hid hr
  have HGR := Lib.hid hgr
  clear hr hgr HU
  go_wp2
  go_ret
  exact ⟨rfl, HR.out, HGR.out⟩
set_option maxHeartbeats 400000 in
theorem rnum_in_n (B : ByteArray) (A : Nat) (most V : Int) (b : Nat) (_ha : 0 ≤ most) (_hc : most ≤ 1152921504606846976) (_m1 : -9223372036854775808 ≤ most) (_m2 : most ≤ 9223372036854775807) (_hv : most < V) (_hvb : 0 ≤ V ∧ V < 4611686018427387904) (w : World)
    (HU : Hid (Calls Tryd.prog 54 #[.pointer (some ⟨b, 0, none⟩)] w fun x w' => x = .returned (.int .u64 V) ∧ Rm w' b B A 0 ∧ w.grownBy w' (some b))) :
    Calls Tryd.prog 36 #[.pointer (some ⟨b, 0, none⟩), .int .i64 most] w fun x w' => x = .returned (.int .i64 0) ∧ Rm w' b B A 1 ∧ w.grownBy w' (some b) := by
  go_enter Tryd.func36, Tryd.ntmps36
  go_wp2_with fail
  refine HU.out.mono ?_
  rintro x w1 ⟨rfl, hr, hgr⟩
  have c2 := hr.c2
  have f2 := hr.f0 2
  have HR := Lib.hid hr
  have HGR := Lib.hid hgr
  clear hr hgr HU
  go_wp2
  go_ret
  exact ⟨rfl, HR.out.set2 _, grown_trans HGR.out (grown_set _ _ _ _)⟩
set_option maxHeartbeats 400000 in
theorem rnum_in_v (B : ByteArray) (A : Nat) (most V : Int) (b : Nat) (_ha : 0 ≤ most) (_hc : most ≤ 1152921504606846976) (_m1 : -9223372036854775808 ≤ most) (_m2 : most ≤ 9223372036854775807) (_hv : V ≤ most) (_hvb : 0 ≤ V ∧ V < 4611686018427387904) (w : World)
    (HU : Hid (Calls Tryd.prog 54 #[.pointer (some ⟨b, 0, none⟩)] w fun x w' => x = .returned (.int .u64 V) ∧ Rm w' b B A 0 ∧ w.grownBy w' (some b))) :
    Calls Tryd.prog 36 #[.pointer (some ⟨b, 0, none⟩), .int .i64 most] w fun x w' => x = .returned (.int .i64 V) ∧ Rm w' b B A 0 ∧ w.grownBy w' (some b) := by
  go_enter Tryd.func36, Tryd.ntmps36
  go_wp2_with fail
  refine HU.out.mono ?_
  rintro x w1 ⟨rfl, hr, hgr⟩
  have c2 := hr.c2
  have HR := Lib.hid hr
  have HGR := Lib.hid hgr
  clear hr hgr HU
  go_wp2
  go_ret
  exact ⟨rfl, HR.out, HGR.out⟩
theorem rnum_any (B : ByteArray) (At : Nat) (E most : Int) (b : Nat) (hA : At ≤ B.size) (hm : B.size ≤ maxLen) (m1 : -9223372036854775808 ≤ most) (m2 : most ≤ 9223372036854775807) (w : World) (h : Rm w b B At E) :
    Calls Tryd.prog 36 #[.pointer (some ⟨b, 0, none⟩), .int .i64 most] w fun x w' => x = .returned (.int .i64 (numV B At E most)) ∧ Rm w' b B (rawA B At E) (numE B At E most) ∧ w.grownBy w' (some b) := by
  have HU := rraw_any B At E b hA hm w h
  have hvb := rawV_bd B At E hA
  have hcl : (most < 0 ∧ bd most = 0) ∨ (1152921504606846976 < most ∧ bd most = 1152921504606846976) ∨ (0 ≤ most ∧ most ≤ 1152921504606846976 ∧ bd most = most) := by
    rcases Int.lt_or_le most 0 with ha | ha
    · exact .inl ⟨ha, bd_lo most ha⟩
    · rcases Int.lt_or_le 1152921504606846976 most with hc | hc
      · exact .inr (.inl ⟨hc, bd_hi most hc⟩)
      · exact .inr (.inr ⟨ha, hc, bd_in most ha hc⟩)
  rcases num3 B At E most hA with ⟨h1, h2, h3, h4⟩ | ⟨h1, h2, h3, h4⟩ | ⟨h1, h2, h3, h4⟩
  · rw [h3, h4]
    rcases hcl with ⟨ha, hb⟩ | ⟨ha, hb⟩ | ⟨ha, hc, hb⟩
    · exact rnum_lo_e B _ most _ _ b ha m1 m2 h1 w HU
    · exact rnum_hi_e B _ most _ _ b ha m1 m2 h1 w HU
    · exact rnum_in_e B _ most _ _ b ha hc m1 m2 h1 w HU
  · rw [h3, h4]
    rw [h1] at HU
    rcases hcl with ⟨ha, hb⟩ | ⟨ha, hb⟩ | ⟨ha, hc, hb⟩
    · exact rnum_lo_n B _ most _ b ha m1 m2 (by omega) hvb w HU
    · exact rnum_hi_n B _ most _ b ha m1 m2 (by omega) hvb w HU
    · exact rnum_in_n B _ most _ b ha hc m1 m2 (by omega) hvb w HU
  · rw [h3, h4]
    rw [h1] at HU
    rcases hcl with ⟨ha, hb⟩ | ⟨ha, hb⟩ | ⟨ha, hc, hb⟩
    · exact rnum_lo_v B _ most _ b ha m1 m2 (by omega) hvb w HU
    · exact rnum_hi_v B _ most _ b ha m1 m2 (by omega) hvb w HU
    · exact rnum_in_v B _ most _ b ha hc m1 m2 (by omega) hvb w HU
set_option maxHeartbeats 400000 in
theorem rsgn_e (B : ByteArray) (A : Nat) (F V : Int) (b : Nat) (hF : F ≠ 0) (w : World)
    (HU : Hid (Calls Tryd.prog 54 #[.pointer (some ⟨b, 0, none⟩)] w fun x w' => x = .returned (.int .u64 V) ∧ Rm w' b B A F ∧ w.grownBy w' (some b))) :
    Calls Tryd.prog 56 #[.pointer (some ⟨b, 0, none⟩)] w fun x w' => x = .returned (.int .i64 0) ∧ Rm w' b B A F ∧ w.grownBy w' (some b) := by
  have k1 : (F == 0) = false := by rw [beq_eq_false_iff_ne]; exact hF
  go_enter Tryd.func56, Tryd.ntmps56
  go_wp2_with fail
  refine HU.out.mono ?_
  rintro x w1 ⟨rfl, hr, hgr⟩
  have c2 := hr.c2
  have HR := Lib.hid hr
  have HGR := Lib.hid hgr
  clear hr hgr HU
  go_wp2
  go_ret
  exact ⟨rfl, HR.out, HGR.out⟩
set_option maxHeartbeats 400000 in
theorem rsgn_v (B : ByteArray) (A : Nat) (V Z : Int) (hZ : Hid (zagS V = Z)) (b : Nat) (hvb : 0 ≤ V ∧ V < 4611686018427387904) (w : World)
    (HU : Hid (Calls Tryd.prog 54 #[.pointer (some ⟨b, 0, none⟩)] w fun x w' => x = .returned (.int .u64 V) ∧ Rm w' b B A 0 ∧ w.grownBy w' (some b))) :
    Calls Tryd.prog 56 #[.pointer (some ⟨b, 0, none⟩)] w fun x w' => x = .returned (.int .i64 Z) ∧ Rm w' b B A 0 ∧ w.grownBy w' (some b) := by
  go_enter Tryd.func56, Tryd.ntmps56
  go_wp2_with fail
  refine HU.out.mono ?_
  rintro x w1 ⟨rfl, hr, hgr⟩
  have c2 := hr.c2
  have HR := Lib.hid hr
  have HGR := Lib.hid hgr
  clear hr hgr HU
  go_wp2_with fail
  refine (rzag_yes V hvb.1 hvb.2 _).mono ?_
  rintro x w2 ⟨rfl, rfl⟩
  rw [hZ.out]
  go_wp2
  go_ret
  exact ⟨rfl, HR.out, HGR.out⟩
theorem rsgn_any (B : ByteArray) (At : Nat) (E : Int) (b : Nat) (hA : At ≤ B.size) (hm : B.size ≤ maxLen) (w : World) (h : Rm w b B At E) :
    Calls Tryd.prog 56 #[.pointer (some ⟨b, 0, none⟩)] w fun x w' => x = .returned (.int .i64 (sgnV B At E)) ∧ Rm w' b B (rawA B At E) (rawE B At E) ∧ w.grownBy w' (some b) := by
  have HU := rraw_any B At E b hA hm w h
  by_cases hF : rawE B At E ≠ 0
  · rw [show sgnV B At E = 0 from if_pos hF]
    exact rsgn_e B _ _ _ b hF w HU
  · rw [show sgnV B At E = zagS (rawV B At E) from if_neg hF]
    have h0 : rawE B At E = 0 := by omega
    rw [h0] at HU ⊢
    exact rsgn_v B _ _ _ rfl b (rawV_bd B At E hA) w HU
end Go.Proofs.YtcknklodnfabpaaDoor
