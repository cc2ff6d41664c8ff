/- Get. -/
import Derived.Test.YtcknklodnfabpaaDoorXQ
namespace Go.Proofs.YtcknklodnfabpaaDoor
open Go Go.RowKit
theorem GS.num {w wr : World} {b : Nat} {o n : Int} {a : Option Addr} {len : Nat} {s : ByteArray} {A : Nat} {E : Int} (h : GS w wr b o n a len s A E) (m : Int) (hA : A ≤ s.size) (hm : s.size ≤ 140737488355328) (m1 : -9223372036854775808 ≤ m) (m2 : m ≤ 9223372036854775807) :
    Calls Tryd.prog 33 #[.pointer (some ⟨b, 0, none⟩), .int .i64 m] wr fun x w' => x = .returned (.int .i64 (numV s A E m)) ∧ GS w w' b o n a len s (rawA s A E) (hdE s A E m) := by
  refine (rdn_any s A E m b hA (by unfold maxLen; omega) m1 m2 wr h.d h.rd).mono ?_
  rintro x w' ⟨rfl, hr, hg⟩
  exact ⟨rfl, h.read hr hg⟩
theorem GS.ups {w wr : World} {b : Nat} {o n : Int} {a : Option Addr} {len : Nat} {s : ByteArray} {A : Nat} {E : Int} (h : GS w wr b o n a len s A E) (k : Nat) (hk : k ≤ 8) (hA : A ≤ s.size) (hm : s.size ≤ 140737488355328) :
    Calls Tryd.prog 34 #[.pointer (some ⟨b, 0, none⟩), .int .i64 (k : Int)] wr fun x w' => ∃ g, x = .returned (.slice (some ⟨g, 0, none⟩) k k) ∧ b < g ∧ GS w w' b o n a len s (updsR s k A E).2.1 (updsR s k A E).2.2 ∧ Rw w' g (updsR s k A E).1 := by
  have := h.lo
  refine (rdus_any s k A E b (by omega) hk hA hm wr h.d h.rd).mono ?_
  rintro x w' ⟨rfl, hr⟩
  exact ⟨wr.heap.size, rfl, h.rd.lt, h.read hr.rd hr.gr, hr.rw⟩
theorem below_set3 {w w1 : World} {b : Nat} (h : Below w.heap.size w w1) (hb : w.heap.size ≤ b) (v0 v1 v2 : Value) : Below w.heap.size w (((w1.setCell ⟨b, 0, none⟩ v0).setCell ⟨b, 1, none⟩ v1).setCell ⟨b, 2, none⟩ v2) := ((h.setCell hb _).setCell hb _).setCell hb _
theorem Rw.set3 {w1 : World} {g : Nat} {l : List Up} (h : Rw w1 g l) {b : Nat} (hb : g ≠ b) (v0 v1 v2 : Value) : Rw (((w1.setCell ⟨b, 0, none⟩ v0).setCell ⟨b, 1, none⟩ v1).setCell ⟨b, 2, none⟩ v2) g l := ((h.setnew hb _ _).setnew hb _ _).setnew hb _ _
set_option maxHeartbeats 2000000 in
theorem rndget_o (s : ByteArray) (hm : s.size ≤ 140737488355328) (hge : geE s = 0) (w : World) (hd : Wd w) :
    Calls Tryd.prog 16 #[.string s] w fun x w' => ∃ a cap, x = .returned (.tuple #[.agg #[.int .i64 (geO s), .int .i64 (geN s), .slice a (geL s).length cap], .int .i64 (geE s)]) ∧ IsUs w' a (geL s).length (geL s) ∧ Below w.heap.size w w' := by
  have hk8 := (k3_le s).2
  have r1 : geO s = numV s 0 0 64 := if_neg (by simp [hge])
  have r2 : geN s = numV s (a1 s) (e1 s) 1099511627776 := if_neg (by simp [hge])
  have r3 : geL s = (getUs s).1 := if_neg (by simp [hge])
  have r4 : (getUs s).1.length = k3 s := updsR_len _ _ _ _
  rw [r1, r2, r3, r4, hge]
  have HE : Hid (∀ b w, Rd w b (rst s (getUs s).2.1 (getUs s).2.2) (getUs s).2.2 → Calls Tryd.prog 35 #[.pointer (some ⟨b, 0, none⟩)] w fun x w' => x = .returned (.int .i64 0) ∧ Rd w' b (rst s (getUs s).2.1 (geE s)) (geE s) ∧ w.grownBy w' (some b)) := by
    intro b w h
    have := end_any s _ _ b w h
    rw [show endE s (getUs s).2.1 (getUs s).2.2 = geE s from rfl] at this
    have e := this
    refine this.mono ?_
    rintro x w' ⟨rfl, h1, h2⟩
    exact ⟨by rw [hge], h1, h2⟩
  clear r1 r2 r3 r4
  have HN1 : Hid (∀ wr b, GS w wr b 0 0 none 0 s 0 0 → Calls Tryd.prog 33 #[.pointer (some ⟨b, 0, none⟩), .int .i64 64] wr fun x w' => x = .returned (.int .i64 (numV s 0 0 64)) ∧ GS w w' b 0 0 none 0 s (a1 s) (e1 s)) := fun wr b h => h.num 64 (Nat.zero_le _) hm (by decide) (by decide)
  have HN2 : Hid (∀ wr b o, GS w wr b o 0 none 0 s (a1 s) (e1 s) → Calls Tryd.prog 33 #[.pointer (some ⟨b, 0, none⟩), .int .i64 1099511627776] wr fun x w' => x = .returned (.int .i64 (numV s (a1 s) (e1 s) 1099511627776)) ∧ GS w w' b o 0 none 0 s (a2 s) (e2 s)) := fun wr b o h => h.num 1099511627776 (a1_le s) hm (by decide) (by decide)
  have HN3 : Hid (∀ wr b o n, GS w wr b o n none 0 s (a2 s) (e2 s) → Calls Tryd.prog 33 #[.pointer (some ⟨b, 0, none⟩), .int .i64 8] wr fun x w' => x = .returned (.int .i64 (k3 s : Int)) ∧ GS w w' b o n none 0 s (a3 s) (e3 s)) := by
    intro wr b o n h
    rw [← (k3_le s).1]
    exact h.num 8 (a2_le s) hm (by decide) (by decide)
  have HU : Hid (∀ wr b o n, GS w wr b o n none 0 s (a3 s) (e3 s) → Calls Tryd.prog 34 #[.pointer (some ⟨b, 0, none⟩), .int .i64 (k3 s : Int)] wr fun x w' => ∃ g, x = .returned (.slice (some ⟨g, 0, none⟩) (k3 s) (k3 s)) ∧ b < g ∧ GS w w' b o n none 0 s (getUs s).2.1 (getUs s).2.2 ∧ Rw w' g (getUs s).1) := fun wr b o n h => h.ups (k3 s) hk8 (a3_le s) hm
  have HL := Lib.hid (updsR_len s (k3 s) (a3 s) (e3 s))
  rw [show (updsR s (k3 s) (a3 s) (e3 s)) = getUs s from rfl] at HL
  have HD := Lib.hid hd
  generalize numV s 0 0 64 = V1 at *
  generalize numV s (a1 s) (e1 s) 1099511627776 = V2 at *
  generalize geE s = gE at *
  generalize k3 s = k at *
  generalize getUs s = gu at *
  generalize a1 s = A1 at *
  generalize a2 s = A2 at *
  generalize a3 s = A3 at *
  generalize e1 s = E1 at *
  generalize e2 s = E2 at *
  generalize e3 s = E3 at *
  clear hge hd
  go_enter Tryd.func16, Tryd.ntmps16
  go_wp2_with fail
  refine (read_any s hm _).mono ?_
  rintro x w1 ⟨b, hb, rfl, hr, hbel⟩
  have HG := Lib.hid (GS.start w HD.out hb hr hbel)
  clear hb hr hbel
  go_wp2_with fail
  refine (HN1.out _ _ HG.out).mono ?_
  rintro x w2 ⟨rfl, hg⟩
  have c0 := hg.got.c0
  have f0 := hg.got.f0 0
  have HG2 := Lib.hid (hg.set0 V1)
  clear hg HG HN1
  go_wp2_with fail
  refine (HN2.out _ _ _ HG2.out).mono ?_
  rintro x w3 ⟨rfl, hg⟩
  have c1 := hg.got.c1
  have f1 := hg.got.f0 1
  have HG3 := Lib.hid (hg.set1 V2)
  clear hg HG2 HN2 c0 f0
  go_wp2_with fail
  refine (HN3.out _ _ _ _ HG3.out).mono ?_
  rintro x w4 ⟨rfl, hg⟩
  have HG4 := Lib.hid hg
  clear hg HG3 HN3 c1 f1
  go_wp2_with fail
  refine (HU.out _ _ _ _ HG4.out).mono ?_
  rintro x w5 ⟨g, rfl, hgb, hg, hrw⟩
  have c2 := hg.got.c2
  have f2 := hg.got.f0 2
  have hlo := hg.lo
  have HG5 := Lib.hid (hg.set2 (some ⟨g, 0, none⟩) k)
  have HW5 := Lib.hid (hrw.setnew (show g ≠ w.heap.size + 1 by omega) 2 (.slice (some ⟨g, 0, none⟩) k k))
  clear hg hrw HG4 HU
  go_wp2_with fail
  refine (HE.out _ _ HG5.out.rd).mono ?_
  rintro x w6 ⟨rfl, hr, hgr⟩
  have hg6 := HG5.out.read (A' := gu.2.1) hr hgr
  have hw6 := HW5.out.kept hgr (by simp; omega)
  have HB6 := Lib.hid hg6.bel
  have HW6 := Lib.hid hw6
  have d0 := hg6.got.c0
  have d1 := hg6.got.c1
  have d2 := hg6.got.c2
  have o0 := hg6.res.c0
  have o1 := hg6.res.c1
  have o2 := hg6.res.c2
  have g0 := hg6.res.f0 0
  have g1 := hg6.res.f0 1
  have g2 := hg6.res.f0 2
  clear hg6 hw6 hr hgr HG5 HW5 HE c2 f2
  go_wp2
  refine bodyPost_ret (v := .tuple #[.agg #[.int .i64 V1, .int .i64 V2, .slice (some ⟨g, 0, none⟩) k k], .int .i64 0]) (by simp [results, Tryd.results16, go_sem, o0, o1, o2]) rfl ⟨some ⟨g, 0, none⟩, k, rfl, ?_, below_set3 HB6.out (Nat.le_refl _) _ _ _⟩
  have h := (HW6.out.set3 (show g ≠ w.heap.size by omega) (.int .i64 V1) (.int .i64 V2) (.slice (some ⟨g, 0, none⟩) k k)).is
  rw [HL.out] at h
  exact h
set_option maxHeartbeats 2000000 in
theorem rndget_z (s : ByteArray) (hm : s.size ≤ 140737488355328) (ge : Int) (hge : geE s = ge) (hne : ge ≠ 0) (w : World) (hd : Wd w) :
    Calls Tryd.prog 16 #[.string s] w fun x w' => ∃ a cap, x = .returned (.tuple #[.agg #[.int .i64 (geO s), .int .i64 (geN s), .slice a (geL s).length cap], .int .i64 (geE s)]) ∧ IsUs w' a (geL s).length (geL s) ∧ Below w.heap.size w w' := by
  have hk8 := (k3_le s).2
  have r1 : geO s = 0 := if_pos (by rw [hge]; exact hne)
  have r2 : geN s = 0 := if_pos (by rw [hge]; exact hne)
  have r3 : geL s = [] := if_pos (by rw [hge]; exact hne)
  have r4 : (getUs s).1.length = k3 s := updsR_len _ _ _ _
  have k1 : (ge == 0) = false := by rw [beq_eq_false_iff_ne]; exact hne
  rw [r1, r2, r3, hge]
  have HE : Hid (∀ b w, Rd w b (rst s (getUs s).2.1 (getUs s).2.2) (getUs s).2.2 → Calls Tryd.prog 35 #[.pointer (some ⟨b, 0, none⟩)] w fun x w' => x = .returned (.int .i64 ge) ∧ Rd w' b (rst s (getUs s).2.1 (geE s)) (geE s) ∧ w.grownBy w' (some b)) := by
    intro b w h
    have := end_any s _ _ b w h
    rw [show endE s (getUs s).2.1 (getUs s).2.2 = geE s from rfl] at this
    refine this.mono ?_
    rintro x w' ⟨rfl, h1, h2⟩
    exact ⟨by rw [hge], h1, h2⟩
  clear r1 r2 r3 r4 hne
  have HN1 : Hid (∀ wr b, GS w wr b 0 0 none 0 s 0 0 → Calls Tryd.prog 33 #[.pointer (some ⟨b, 0, none⟩), .int .i64 64] wr fun x w' => x = .returned (.int .i64 (numV s 0 0 64)) ∧ GS w w' b 0 0 none 0 s (a1 s) (e1 s)) := fun wr b h => h.num 64 (Nat.zero_le _) hm (by decide) (by decide)
  have HN2 : Hid (∀ wr b o, GS w wr b o 0 none 0 s (a1 s) (e1 s) → Calls Tryd.prog 33 #[.pointer (some ⟨b, 0, none⟩), .int .i64 1099511627776] wr fun x w' => x = .returned (.int .i64 (numV s (a1 s) (e1 s) 1099511627776)) ∧ GS w w' b o 0 none 0 s (a2 s) (e2 s)) := fun wr b o h => h.num 1099511627776 (a1_le s) hm (by decide) (by decide)
  have HN3 : Hid (∀ wr b o n, GS w wr b o n none 0 s (a2 s) (e2 s) → Calls Tryd.prog 33 #[.pointer (some ⟨b, 0, none⟩), .int .i64 8] wr fun x w' => x = .returned (.int .i64 (k3 s : Int)) ∧ GS w w' b o n none 0 s (a3 s) (e3 s)) := by
    intro wr b o n h
    rw [← (k3_le s).1]
    exact h.num 8 (a2_le s) hm (by decide) (by decide)
  have HU : Hid (∀ wr b o n, GS w wr b o n none 0 s (a3 s) (e3 s) → Calls Tryd.prog 34 #[.pointer (some ⟨b, 0, none⟩), .int .i64 (k3 s : Int)] wr fun x w' => ∃ g, x = .returned (.slice (some ⟨g, 0, none⟩) (k3 s) (k3 s)) ∧ b < g ∧ GS w w' b o n none 0 s (getUs s).2.1 (getUs s).2.2 ∧ Rw w' g (getUs s).1) := fun wr b o n h => h.ups (k3 s) hk8 (a3_le s) hm
  have HL := Lib.hid (updsR_len s (k3 s) (a3 s) (e3 s))
  rw [show (updsR s (k3 s) (a3 s) (e3 s)) = getUs s from rfl] at HL
  have HD := Lib.hid hd
  generalize numV s 0 0 64 = V1 at *
  generalize numV s (a1 s) (e1 s) 1099511627776 = V2 at *
  generalize geE s = gE at *
  generalize k3 s = k at *
  generalize getUs s = gu at *
  generalize a1 s = A1 at *
  generalize a2 s = A2 at *
  generalize a3 s = A3 at *
  generalize e1 s = E1 at *
  generalize e2 s = E2 at *
  generalize e3 s = E3 at *
  clear hge hd
  go_enter Tryd.func16, Tryd.ntmps16
  go_wp2_with fail
  refine (read_any s hm _).mono ?_
  rintro x w1 ⟨b, hb, rfl, hr, hbel⟩
  have HG := Lib.hid (GS.start w HD.out hb hr hbel)
  clear hb hr hbel
  go_wp2_with fail
  refine (HN1.out _ _ HG.out).mono ?_
  rintro x w2 ⟨rfl, hg⟩
  have c0 := hg.got.c0
  have f0 := hg.got.f0 0
  have HG2 := Lib.hid (hg.set0 V1)
  clear hg HG HN1
  go_wp2_with fail
  refine (HN2.out _ _ _ HG2.out).mono ?_
  rintro x w3 ⟨rfl, hg⟩
  have c1 := hg.got.c1
  have f1 := hg.got.f0 1
  have HG3 := Lib.hid (hg.set1 V2)
  clear hg HG2 HN2 c0 f0
  go_wp2_with fail
  refine (HN3.out _ _ _ _ HG3.out).mono ?_
  rintro x w4 ⟨rfl, hg⟩
  have HG4 := Lib.hid hg
  clear hg HG3 HN3 c1 f1
  go_wp2_with fail
  refine (HU.out _ _ _ _ HG4.out).mono ?_
  rintro x w5 ⟨g, rfl, hgb, hg, hrw⟩
  have c2 := hg.got.c2
  have f2 := hg.got.f0 2
  have hlo := hg.lo
  have HG5 := Lib.hid (hg.set2 (some ⟨g, 0, none⟩) k)
  have HW5 := Lib.hid (hrw.setnew (show g ≠ w.heap.size + 1 by omega) 2 (.slice (some ⟨g, 0, none⟩) k k))
  clear hg hrw HG4 HU
  go_wp2_with fail
  refine (HE.out _ _ HG5.out.rd).mono ?_
  rintro x w6 ⟨rfl, hr, hgr⟩
  have hg6 := HG5.out.read (A' := gu.2.1) hr hgr
  have hw6 := HW5.out.kept hgr (by simp; omega)
  have HB6 := Lib.hid hg6.bel
  have HW6 := Lib.hid hw6
  have d0 := hg6.got.c0
  have d1 := hg6.got.c1
  have d2 := hg6.got.c2
  have o0 := hg6.res.c0
  have o1 := hg6.res.c1
  have o2 := hg6.res.c2
  have g0 := hg6.res.f0 0
  have g1 := hg6.res.f0 1
  have g2 := hg6.res.f0 2
  clear hg6 hw6 hr hgr HG5 HW5 HE c2 f2
  go_wp2
  refine bodyPost_ret (v := .tuple #[.agg #[.int .i64 0, .int .i64 0, .slice none 0 0], .int .i64 ge]) (by simp [results, Tryd.results16, go_sem, o0, o1, o2]) rfl ⟨none, 0, rfl, ⟨rfl, fun h => absurd h (Nat.lt_irrefl _)⟩, below_set3 HB6.out (Nat.le_refl _) _ _ _⟩
theorem rndget_any (s : ByteArray) (hm : s.size ≤ 140737488355328) (w : World) (hd : Wd w) :
    Calls Tryd.prog 16 #[.string s] w fun x w' => ∃ a cap, x = .returned (.tuple #[.agg #[.int .i64 (geO s), .int .i64 (geN s), .slice a (geL s).length cap], .int .i64 (geE s)]) ∧ IsUs w' a (geL s).length (geL s) ∧ Below w.heap.size w w' := by
  by_cases h : geE s = 0
  · exact rndget_o s hm h w hd
  · exact rndget_z s hm _ rfl h w hd
end Go.Proofs.YtcknklodnfabpaaDoor
