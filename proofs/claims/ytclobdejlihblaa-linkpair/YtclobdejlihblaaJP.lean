/- LinkEpochs. -/
import Derived.Test.YtclobdejlihblaaJQ
namespace Go.Proofs.Ytclobdejlihblaa
open Go Go.RowKit
set_option maxRecDepth 20000
section
variable {B : Nat} {w0 w w' : World} {b bs br : Nat} {E : En}
theorem tu_hearE {f : Fra} {E' : En} {an : Bool} (hE : E.hear f = E') (ha : E.anew f = an) (hx : f.2.2.2.size ≤ 1000) (hq : E.q + E.ps.length ≤ 1000000) (h : Tu B w0 w b bs br E) :
    Calls Try.prog 16 #[.pointer (some ⟨b, 0, none⟩), fv f] w fun e w' => e = .returned (.bool an) ∧ (∃ bs' br', Tu B w0 w' b bs' br' E') ∧ OthL w w' := by
  subst hE ha
  exact tu_hear hx hq h
end
theorem hear_ep_same {E : En} {f : Fra} (h : f.1 = E.ep) : (E.hear f).ep = f.1 := by
  unfold En.hear
  rw [if_neg (by omega), if_neg (by omega), h]
  rfl
section
variable {ep x1 x2 fe fs fa : Int} {pas : Bool} {D : List ByteArray} {fd : ByteArray}
theorem hear_stays (h1 : fe ≠ ep) (h2 : fe < ep ∨ pas = false) : (⟨ep, x1, x2, pas, 0, D, 0, []⟩ : En).hear (fe, fs, fa, fd) = ⟨ep, x1, x2, pas, 0, D, 0, []⟩ ∧ (⟨ep, x1, x2, pas, 0, D, 0, []⟩ : En).anew (fe, fs, fa, fd) = false := by
  unfold En.hear En.anew
  simp only
  rcases h2 with h2 | rfl
  · rw [if_pos (.inl h2), decide_eq_false (by omega)]
    exact ⟨rfl, rfl⟩
  · rw [Bool.and_false]
    refine ⟨?_, rfl⟩
    by_cases h : fe < ep
    · rw [if_pos (.inl h)]
    · rw [if_pos (.inr ⟨by omega, rfl⟩)]
theorem anew_yes (h : ep < fe) : (⟨ep, x1, x2, true, 0, D, 0, []⟩ : En).anew (fe, fs, fa, fd) = true := by
  unfold En.anew
  simp only [decide_eq_true h]
  rfl
theorem room_pos (r : Int) : (0 : Int) < Rcv.roomOf r := by unfold Rcv.roomOf; omega
theorem hear_anew0 (h : ep < fe) (hk : okF (fe, fs, fa, fd)) (hs : fs ≠ 1) : (⟨ep, x1, x2, true, 0, D, 0, []⟩ : En).hear (fe, fs, fa, fd) = ⟨fe, x1, x2, true, 0 + ackM 0 0 fa, [], 0, []⟩ := by
  obtain ⟨k1, k2, _⟩ := hk
  simp only at k1 k2
  have e3 : clampE fe = fe := by unfold clampE; omega
  have e4 : Rcv.hearD (Rcv.roomOf x2) 0 [] fs fd = [] := by
    unfold Rcv.hearD
    rw [if_neg]
    rintro ⟨h, _⟩
    simp at h
    exact hs h
  unfold En.hear
  simp only
  rw [if_neg (by simp; omega), if_pos h]
  unfold En.fresh En.take
  simp only [e3, e4, List.length_nil, List.drop_nil]
theorem hear_anew1 (h : ep < fe) (hk : okF (fe, 1, fa, fd)) : (⟨ep, x1, x2, true, 0, D, 0, []⟩ : En).hear (fe, 1, fa, fd) = ⟨fe, x1, x2, true, 0 + ackM 0 0 fa, [], 0, [fd]⟩ := by
  obtain ⟨k1, k2, _⟩ := hk
  simp only at k1 k2
  have e3 : clampE fe = fe := by unfold clampE; omega
  have e4 : Rcv.hearD (Rcv.roomOf x2) 0 [] 1 fd = [fd] := by
    unfold Rcv.hearD
    rw [if_pos ⟨rfl, by simpa using room_pos x2⟩]
    rfl
  unfold En.hear
  simp only
  rw [if_neg (by simp; omega), if_pos h]
  unfold En.fresh En.take
  simp only [e3, e4, List.length_nil, List.drop_nil]
end
set_option maxHeartbeats 16000000 in
theorem epochs_any (x0 x1 x2 : Int) (pas : Bool) (f : Fra) (w : World) :
    Calls Try.prog 5 #[.agg #[.int .i64 x0, .int .i64 x1, .int .i64 x2], .bool pas, fv f] w fun e w' => e = .returned (.bool true) ∧ Below w.heap.size w w' := by
  obtain ⟨fe, fs, fa, fd⟩ := f
  unfold fv
  have HW := Lib.hid ((Joins.below_alloc1 w (.cells #[.int .i64 x0, .int .i64 x1, .int .i64 x2] 22)).alloc (by simp) (.cells #[.int .i64 fe, .int .i64 fs, .int .i64 fa, .string fd] 31))
  have HFA : Hid (Fb ((w.alloc (.cells #[.int .i64 x0, .int .i64 x1, .int .i64 x2] 22)).alloc (.cells #[.int .i64 fe, .int .i64 fs, .int .i64 fa, .string fd] 31)) (w.heap.size + 1) (fe, fs, fa, fd)) := Lib.hid (new_at (by simp))
  go_enter Try.func5, Try.ntmps5
  go_wp2_with fail
  refine (tu_new x0 x1 x2 pas HW.out (by simp; omega)).mono ?_
  rintro e w1 ⟨rfl, ⟨bs, br, h⟩, hb1⟩
  have HFB := Lib.hid (HFA.out.same (hb1.block _ HFA.out.lt))
  clear HFA
  have hsz : ((w.alloc (.cells #[.int .i64 x0, .int .i64 x1, .int .i64 x2] 22)).alloc (.cells #[.int .i64 fe, .int .i64 fs, .int .i64 fa, .string fd] 31)).heap.size = w.heap.size + 1 + 1 := by simp
  rw [hsz] at h ⊢
  obtain ⟨b, hb⟩ : ∃ n, w.heap.size + 1 + 1 = n := ⟨_, rfl⟩
  rw [hb] at h ⊢
  obtain ⟨H, hH⟩ : ∃ n, w.heap.size + 1 = n := ⟨_, rfl⟩
  rw [hH] at HFB ⊢
  generalize hB0 : w.heap.size = B0 at *
  have HB0 := Lib.hid hB0
  have H1 := Lib.hid h
  clear h hB0 HW hb hb1 hsz hH
  go_wp2_with fail
  refine (awake_yes _).mono ?_
  rintro e w2 ⟨rfl, hb⟩
  have H2 := Lib.hid (H1.out.next hb)
  have HF2 := Lib.hid (HFB.out.same (hb.block _ HFB.out.lt))
  clear hb H1 HFB
  have z0 := HF2.out.c0
  have z1 := HF2.out.c1
  have z2 := HF2.out.c2
  have z3 := HF2.out.c3
  simp only at z0 z1 z2 z3
  go_wp2_with fail
  refine (may_any (fe, fs, fa, fd) w2).mono ?_
  rintro e w3 ⟨⟨n, rfl, hok⟩, hb⟩
  have H3 := Lib.hid (H2.out.next hb)
  have HF3 := Lib.hid (HF2.out.same (hb.block _ HF2.out.lt))
  clear hb H2 HF2 z0 z1 z2 z3
  have z0 := HF3.out.c0
  have z1 := HF3.out.c1
  have z2 := HF3.out.c2
  have z3 := HF3.out.c3
  simp only at z0 z1 z2 z3
  by_cases hn : n ≠ 0
  · have k1 : (n != 0) = true := bne_iff_ne.2 hn
    have k2 : decide (n = 0) = false := decide_eq_false hn
    have k3 : (n == 0) = false := beq_eq_false_iff_ne.2 hn
    clear hok hn
    go_wp2_with fail
    refine (awake_yes _).mono ?_
    rintro e w4 ⟨rfl, hb⟩
    have H4 := Lib.hid (H3.out.next hb)
    clear hb H3
    go_wp2
    go_ret
    exact ⟨rfl, by rw [HB0.out]; exact H4.out.bel⟩
  obtain rfl : n = 0 := Decidable.not_not.1 hn
  clear hn
  have HOK := Lib.hid (hok rfl)
  clear hok
  by_cases hd : 100 < fd.size
  · have k1 : decide ((100 : Int) < (fd.size : Int)) = true := decide_eq_true (by omega)
    go_wp2_with fail
    refine (awake_yes _).mono ?_
    rintro e w4 ⟨rfl, hb⟩
    have H4 := Lib.hid (H3.out.next hb)
    clear hb H3
    go_wp2
    go_ret
    exact ⟨rfl, by rw [HB0.out]; exact H4.out.bel⟩
  have k1 : decide ((100 : Int) < (fd.size : Int)) = false := decide_eq_false (by omega)
  have HD : Hid (fd.size ≤ 1000) := Lib.hid (by omega)
  clear hd
  generalize hep : clampE x0 = ep at *
  clear hep
  go_wp2_with fail
  refine (tu_off ⟨#[120]⟩ (by decide) H3.out).mono ?_
  rintro e w4 ⟨rfl, h, ho⟩
  have HF4 := Lib.hid (HF3.out.oth ho)
  obtain ⟨D, hD⟩ : ∃ D, offD (winOf x1) (lastOf 1125899906842624) 0 [] ⟨#[120]⟩ = D := ⟨_, rfl⟩
  have H4 : Hid (Tu B0 w w4 b bs br ⟨ep, x1, x2, pas, 0, D, 0, []⟩) := Lib.hid (hD ▸ h)
  clear h ho hD H3 HF3 z0 z1 z2 z3
  generalize (⟨ep, x1, x2, pas, 0, [], 0, []⟩ : En).offe = oe at *
  go_wp2_with fail
  refine (tu_epoch (n := ep) rfl _ H4.out).mono ?_
  rintro e w5 ⟨rfl, rfl⟩
  obtain ⟨G, hG⟩ : ∃ G, (⟨ep, x1, x2, pas, 0, D, 0, []⟩ : En).frames = G := ⟨_, rfl⟩
  obtain ⟨n, hn⟩ : ∃ n, G.length = n := ⟨_, rfl⟩
  have HG := Lib.hid hG
  have HN := Lib.hid hn
  have HN1 : Hid (n ≤ 1000000) := Lib.hid (by
    obtain ⟨v, L, hx⟩ := H4.out.ex
    have hl : D.length ≤ 16 := by have := hx.sn.ok.len; have := hx.sn.ok.w2; simp only at *; omega
    have := frames_len (E := ⟨ep, x1, x2, pas, 0, D, 0, []⟩) hl
    rw [hG, hn] at this
    omega)
  clear hG hn
  go_wp2_with fail
  refine (tu_frames HG.out HN.out H4.out).mono ?_
  rintro e w6 ⟨al, cl, rfl, hr, hb, h⟩
  have H6 := Lib.hid h
  have HR6 := Lib.hid hr
  have HF6 := Lib.hid (HF4.out.same (hb.block _ HF4.out.lt))
  clear hr hb h H4 HF4
  have z0 := HF6.out.c0
  have z1 := HF6.out.c1
  have z2 := HF6.out.c2
  have z3 := HF6.out.c3
  simp only at z0 z1 z2 z3
  by_cases hc1 : fe = ep
  · subst hc1
    obtain ⟨E2, hE2⟩ : ∃ E2, (⟨fe, x1, x2, pas, 0, D, 0, []⟩ : En).hear (fe, fs, fa, fd) = E2 := ⟨_, rfl⟩
    have HE2 := Lib.hid hE2
    have HEP : Hid (E2.ep = fe) := Lib.hid (by rw [← hE2]; exact hear_ep_same rfl)
    clear hE2
    go_wp2_with fail
    refine (tu_hearE (f := (fe, fs, fa, fd)) (E' := E2) (an := false) HE2.out (by simp [En.anew]) HD.out (by simp) H6.out).mono ?_
    rintro e w7 ⟨rfl, ⟨bs2, br2, h⟩, ho⟩
    have H7 := Lib.hid h
    have HF7 := Lib.hid (HF6.out.oth ho)
    have HR7 := Lib.hid (HR6.out.oth ho)
    clear h ho H6 HF6 HR6 z0 z1 z2 z3
    have z0 := HF7.out.c0
    have z1 := HF7.out.c1
    simp only at z0 z1
    go_wp2_with fail
    refine (tu_epoch HEP.out _ H7.out).mono ?_
    rintro e w8 ⟨rfl, rfl⟩
    go_wp2
    go_ret
    exact ⟨rfl, by rw [HB0.out]; exact H7.out.bel⟩
  by_cases hc2 : fe < ep ∨ pas = false
  · have HE : Hid ((⟨ep, x1, x2, pas, 0, D, 0, []⟩ : En).hear (fe, fs, fa, fd) = ⟨ep, x1, x2, pas, 0, D, 0, []⟩ ∧ (⟨ep, x1, x2, pas, 0, D, 0, []⟩ : En).anew (fe, fs, fa, fd) = false) := Lib.hid (hear_stays hc1 hc2)
    have HAN := Lib.hid HE.out.2
    have k5 : decide (fe = ep) = false := decide_eq_false hc1
    have k6 : (fe == ep) = false := beq_eq_false_iff_ne.2 hc1
    by_cases hlt : fe < ep
    · have k4 : decide (fe < ep) = true := decide_eq_true hlt
      clear hc1 hc2
      go_wp2_with fail
      refine (tu_hearE (f := (fe, fs, fa, fd)) (E' := ⟨ep, x1, x2, pas, 0, D, 0, []⟩) (an := false) HE.out.1 HAN.out HD.out (by simp) H6.out).mono ?_
      rintro e w7 ⟨rfl, ⟨bs2, br2, h⟩, ho⟩
      have H7 := Lib.hid h
      have HF7 := Lib.hid (HF6.out.oth ho)
      have HR7 := Lib.hid (HR6.out.oth ho)
      clear h ho H6 HF6 HR6 z0 z1 z2 z3
      have z0 := HF7.out.c0
      have z1 := HF7.out.c1
      simp only at z0 z1
      have p5 := H7.out.c5
      go_wp2_with fail
      refine (tu_epoch (n := ep) rfl _ H7.out).mono ?_
      rintro e w8 ⟨rfl, rfl⟩
      go_wp2_with fail
      refine (tu_frames HG.out HN.out H7.out).mono ?_
      rintro e w9 ⟨a9, c9, rfl, hr, hb, h⟩
      have H9 := Lib.hid h
      have HR9 := Lib.hid hr
      have HS9 := Lib.hid (HR7.out.below hb)
      clear hr hb h H7 HR7 p5
      go_wp2_with fail
      refine (samef_yes _ _ _ _ _ G HN1.out _ (HR9.out.isF HN.out.symm).1 (HS9.out.isF HN.out.symm).1).mono ?_
      rintro e wa ⟨rfl, e1, e2, e3, e4⟩
      have HA := Lib.hid (H9.out.asit e1 e2 e3 e4)
      have p5 := HA.out.c5
      clear e1 e2 e3 e4 H9 HR9 HS9
      go_wp2_with fail
      refine (tu_wait (n := 0) rfl _ HA.out).mono ?_
      rintro e wb ⟨rfl, rfl⟩
      go_wp2
      go_ret
      exact ⟨rfl, by rw [HB0.out]; exact HA.out.bel⟩
    have k4 : decide (fe < ep) = false := decide_eq_false hlt
    have hp : pas = false := hc2.resolve_left hlt
    subst hp
    clear hc1 hc2 hlt
    go_wp2_with fail
    refine (tu_hearE (f := (fe, fs, fa, fd)) (E' := ⟨ep, x1, x2, false, 0, D, 0, []⟩) (an := false) HE.out.1 HAN.out HD.out (by simp) H6.out).mono ?_
    rintro e w7 ⟨rfl, ⟨bs2, br2, h⟩, ho⟩
    have H7 := Lib.hid h
    have HF7 := Lib.hid (HF6.out.oth ho)
    have HR7 := Lib.hid (HR6.out.oth ho)
    clear h ho H6 HF6 HR6 z0 z1 z2 z3
    have z0 := HF7.out.c0
    have z1 := HF7.out.c1
    simp only at z0 z1
    have p5 := H7.out.c5
    go_wp2_with fail
    refine (tu_epoch (n := ep) rfl _ H7.out).mono ?_
    rintro e w8 ⟨rfl, rfl⟩
    go_wp2_with fail
    refine (tu_frames HG.out HN.out H7.out).mono ?_
    rintro e w9 ⟨a9, c9, rfl, hr, hb, h⟩
    have H9 := Lib.hid h
    have HR9 := Lib.hid hr
    have HS9 := Lib.hid (HR7.out.below hb)
    clear hr hb h H7 HR7 p5
    go_wp2_with fail
    refine (samef_yes _ _ _ _ _ G HN1.out _ (HR9.out.isF HN.out.symm).1 (HS9.out.isF HN.out.symm).1).mono ?_
    rintro e wa ⟨rfl, e1, e2, e3, e4⟩
    have HA := Lib.hid (H9.out.asit e1 e2 e3 e4)
    have p5 := HA.out.c5
    clear e1 e2 e3 e4 H9 HR9 HS9
    go_wp2_with fail
    refine (tu_wait (n := 0) rfl _ HA.out).mono ?_
    rintro e wb ⟨rfl, rfl⟩
    go_wp2
    go_ret
    exact ⟨rfl, by rw [HB0.out]; exact HA.out.bel⟩
  have hp : pas = true := by cases pas with
    | true => rfl
    | false => exact absurd (.inr rfl) hc2
  subst hp
  have hlt : ¬ fe < ep := fun h => hc2 (.inl h)
  have k4 : decide (fe < ep) = false := decide_eq_false hlt
  have k5 : decide (fe = ep) = false := decide_eq_false hc1
  have k6 : (fe == ep) = false := beq_eq_false_iff_ne.2 hc1
  clear hc2
  by_cases hs : fs = 1
  · subst hs
    have HE : Hid ((⟨ep, x1, x2, true, 0, D, 0, []⟩ : En).hear (fe, 1, fa, fd) = ⟨fe, x1, x2, true, 0 + ackM 0 0 fa, [], 0, [fd]⟩) := Lib.hid (hear_anew1 (by omega) HOK.out)
    have HAN : Hid ((⟨ep, x1, x2, true, 0, D, 0, []⟩ : En).anew (fe, 1, fa, fd) = true) := Lib.hid (anew_yes (by omega))
    generalize 0 + ackM 0 0 fa = KK at HE
    clear hc1 hlt
    go_wp2_with fail
    refine (tu_hearE (f := (fe, 1, fa, fd)) (E' := ⟨fe, x1, x2, true, KK, [], 0, [fd]⟩) (an := true) HE.out HAN.out HD.out (by simp) H6.out).mono ?_
    rintro e w7 ⟨rfl, ⟨bs2, br2, h⟩, ho⟩
    have H7 := Lib.hid h
    have HF7 := Lib.hid (HF6.out.oth ho)
    have HR7 := Lib.hid (HR6.out.oth ho)
    clear h ho H6 HF6 HR6 z0 z1 z2 z3
    have z0 := HF7.out.c0
    have z1 := HF7.out.c1
    simp only at z0 z1
    have p4 := H7.out.c4
    have p5 := H7.out.c5
    go_wp2_with fail
    go_quiet (first | (go_at_call 20; exact Calls.quiet_of_same (tu_epoch (n := fe) rfl _ (H7.out.asit rfl rfl rfl rfl))) | (go_at_call 21; exact Calls.quiet_of_same (tu_unack (n := 0) rfl _ (H7.out.asit rfl rfl rfl rfl))) | (go_at_call 23; exact Calls.quiet_of_same (tu_wait (n := 1) rfl _ (H7.out.asit rfl rfl rfl rfl))))
    go_wp2
    go_ret
    exact ⟨rfl, by rw [HB0.out]; exact (H7.out.asit (w' := w7.drewN nq) rfl rfl rfl rfl).bel⟩
  have k7 : decide (fs = 1) = false := decide_eq_false hs
  have k8 : (fs == 1) = false := beq_eq_false_iff_ne.2 hs
  have HE : Hid ((⟨ep, x1, x2, true, 0, D, 0, []⟩ : En).hear (fe, fs, fa, fd) = ⟨fe, x1, x2, true, 0 + ackM 0 0 fa, [], 0, []⟩) := Lib.hid (hear_anew0 (by omega) HOK.out hs)
  have HAN : Hid ((⟨ep, x1, x2, true, 0, D, 0, []⟩ : En).anew (fe, fs, fa, fd) = true) := Lib.hid (anew_yes (by omega))
  generalize 0 + ackM 0 0 fa = KK at HE
  clear hc1 hlt
  go_wp2_with fail
  refine (tu_hearE (f := (fe, fs, fa, fd)) (E' := ⟨fe, x1, x2, true, KK, [], 0, []⟩) (an := true) HE.out HAN.out HD.out (by simp) H6.out).mono ?_
  rintro e w7 ⟨rfl, ⟨bs2, br2, h⟩, ho⟩
  have H7 := Lib.hid h
  have HF7 := Lib.hid (HF6.out.oth ho)
  have HR7 := Lib.hid (HR6.out.oth ho)
  clear h ho H6 HF6 HR6 z0 z1 z2 z3
  have z0 := HF7.out.c0
  have z1 := HF7.out.c1
  simp only at z0 z1
  have p4 := H7.out.c4
  have p5 := H7.out.c5
  go_wp2_with fail
  go_quiet (first | (go_at_call 20; exact Calls.quiet_of_same (tu_epoch (n := fe) rfl _ (H7.out.asit rfl rfl rfl rfl))) | (go_at_call 21; exact Calls.quiet_of_same (tu_unack (n := 0) rfl _ (H7.out.asit rfl rfl rfl rfl))) | (go_at_call 23; exact Calls.quiet_of_same (tu_wait (n := 0) rfl _ (H7.out.asit rfl rfl rfl rfl))))
  go_wp2
  go_ret
  exact ⟨rfl, by rw [HB0.out]; exact (H7.out.asit (w' := w7.drewN nq) rfl rfl rfl rfl).bel⟩
end Go.Proofs.Ytclobdejlihblaa
