/- Get, both. -/
import Derived.Test.YtpdpmdbdnpemnaaDoorUR3
import Derived.Test.YtpdpmdbdnpemnaaDoorUQ2
namespace Go.Proofs.YtpdpmdbdnpemnaaDoor
open Go Go.RowKit
/-- What Get tells, and which update it gives. -/
def getE (s : ByteArray) : Int := endE s (updR s 0 0).2.1 (updR s 0 0).2.2
def getU (s : ByteArray) : Up := if getE s ≠ 0 then up0 else (updR s 0 0).1
theorem below_set4 {w w1 : World} {b : Nat} (h : Below w.heap.size w w1) (hb : w.heap.size ≤ b) (v0 v1 v2 v3 : Value) : Below w.heap.size w ((((w1.setCell ⟨b, 0, none⟩ v0).setCell ⟨b, 1, none⟩ v1).setCell ⟨b, 2, none⟩ v2).setCell ⟨b, 3, none⟩ v3) := (((h.setCell hb _).setCell hb _).setCell hb _).setCell hb _
set_option maxHeartbeats 1000000 in
theorem get_o (s : ByteArray) (hm : s.size ≤ 140737488355328) (rk rs R : ByteArray) (rx rn rE : Int) (w : World) (hd : Wd w)
    (HR : Hid (∀ b, 0 < b → ∀ w, Wd w → Rd w b (rst s 0 0) 0 → Calls Tryd.prog 20 #[.pointer (some ⟨b, 0, none⟩)] w fun x w' => x = .returned (.agg #[.string rk, .int .i64 rx, .int .i64 rn, .string rs]) ∧ Rd w' b R rE ∧ w.grownBy w' (some b)))
    (HE : Hid (∀ b w, Rd w b R rE → Calls Tryd.prog 23 #[.pointer (some ⟨b, 0, none⟩)] w fun x w' => x = .returned (.int .i64 0) ∧ w.grownBy w' (some b))) :
    Calls Tryd.prog 13 #[.string s] w fun x w' => x = .returned (.tuple #[.agg #[.string rk, .int .i64 rx, .int .i64 rn, .string rs], .int .i64 0]) ∧ Below w.heap.size w w' := by
  have hpos := hd.pos
  have hd0 := hd.alloc (.cells #[.string ⟨#[]⟩, .int .i64 0, .int .i64 0, .string ⟨#[]⟩] 23)
  have HB0 := Lib.hid (Joins.below_alloc1 w (.cells #[.string ⟨#[]⟩, .int .i64 0, .int .i64 0, .string ⟨#[]⟩] 23))
  go_enter Tryd.func13, Tryd.ntmps13
  go_wp2_with fail
  refine (read_any s hm _).mono ?_
  rintro x w1 ⟨b, hb, rfl, hr, hbel⟩
  have hb1 : w.heap.size < b := by simp at hb; omega
  have hd1 := hd0.below hbel
  have ho1 := (Ub.new w up0).below hbel (by simp)
  have HB1 := Lib.hid (HB0.out.trans (hbel.mono (by simp)))
  have HO1 := Lib.hid ho1
  have HD1 := Lib.hid hd1
  have HR1 := Lib.hid hr
  clear hb hr hbel hd1 ho1 hd0 HB0
  go_wp2_with fail
  refine (HR.out b (by omega) _ HD1.out HR1.out).mono ?_
  rintro x w2 ⟨rfl, hr, hgr⟩
  have hblt := hr.lt
  have HR2 := Lib.hid (hr.alloc (.cells #[.string rk, .int .i64 rx, .int .i64 rn, .string rs] 23))
  have HO2 := Lib.hid ((HO1.out.kept hgr (by simp; omega)).alloc (.cells #[.string rk, .int .i64 rx, .int .i64 rn, .string rs] 23))
  have hB2 := HB1.out.grown hgr HB1.out.size (fun k e => by simp at e; omega)
  have HU2 := Lib.hid (Ub.new w2 (rk, rx, rn, rs))
  have HB2 := Lib.hid (hB2.alloc hB2.size (.cells #[.string rk, .int .i64 rx, .int .i64 rn, .string rs] 23))
  have hsz := hB2.size
  clear hr hgr hB2 HR1 HD1 HO1 HB1 HR
  go_wp2_with fail
  refine (HE.out b _ HR2.out).mono ?_
  rintro x w3 ⟨rfl, hgr⟩
  have hU3 := HU2.out.kept hgr (by simp; omega)
  have hO3 := HO2.out.kept hgr (by simp; omega)
  have HB3 := Lib.hid (HB2.out.grown hgr HB2.out.size (fun k e => by simp at e; omega))
  have d0 := hU3.c0
  have d1 := hU3.c1
  have d2 := hU3.c2
  have d3 := hU3.c3
  have o0 := hO3.c0
  have o1 := hO3.c1
  have o2 := hO3.c2
  have o3 := hO3.c3
  have g0 := hO3.f0 0
  have g1 := hO3.f0 1
  have g2 := hO3.f0 2
  have g3 := hO3.f0 3
  simp only [up0] at o0 o1 o2 o3
  clear hgr hU3 hO3 HR2 HO2 HU2 HB2 HE
  go_wp2
  refine bodyPost_ret (v := .tuple #[.agg #[.string rk, .int .i64 rx, .int .i64 rn, .string rs], .int .i64 0]) (by simp [results, Tryd.results13, go_sem, o0, o1, o2, o3]) rfl ⟨rfl, below_set4 HB3.out (Nat.le_refl _) _ _ _ _⟩
set_option maxHeartbeats 1000000 in
theorem get_z (s : ByteArray) (hm : s.size ≤ 140737488355328) (rk rs R : ByteArray) (rx rn rE : Int) (ge : Int) (hge : ge ≠ 0) (w : World) (hd : Wd w)
    (HR : Hid (∀ b, 0 < b → ∀ w, Wd w → Rd w b (rst s 0 0) 0 → Calls Tryd.prog 20 #[.pointer (some ⟨b, 0, none⟩)] w fun x w' => x = .returned (.agg #[.string rk, .int .i64 rx, .int .i64 rn, .string rs]) ∧ Rd w' b R rE ∧ w.grownBy w' (some b)))
    (HE : Hid (∀ b w, Rd w b R rE → Calls Tryd.prog 23 #[.pointer (some ⟨b, 0, none⟩)] w fun x w' => x = .returned (.int .i64 ge) ∧ w.grownBy w' (some b))) :
    Calls Tryd.prog 13 #[.string s] w fun x w' => x = .returned (.tuple #[.agg #[.string ⟨#[]⟩, .int .i64 0, .int .i64 0, .string ⟨#[]⟩], .int .i64 ge]) ∧ Below w.heap.size w w' := by
  have hpos := hd.pos
  have k1 : (ge == 0) = false := by rw [beq_eq_false_iff_ne]; exact hge
  have hd0 := hd.alloc (.cells #[.string ⟨#[]⟩, .int .i64 0, .int .i64 0, .string ⟨#[]⟩] 23)
  have HB0 := Lib.hid (Joins.below_alloc1 w (.cells #[.string ⟨#[]⟩, .int .i64 0, .int .i64 0, .string ⟨#[]⟩] 23))
  go_enter Tryd.func13, Tryd.ntmps13
  go_wp2_with fail
  refine (read_any s hm _).mono ?_
  rintro x w1 ⟨b, hb, rfl, hr, hbel⟩
  have hb1 : w.heap.size < b := by simp at hb; omega
  have hd1 := hd0.below hbel
  have ho1 := (Ub.new w up0).below hbel (by simp)
  have HB1 := Lib.hid (HB0.out.trans (hbel.mono (by simp)))
  have HO1 := Lib.hid ho1
  have HD1 := Lib.hid hd1
  have HR1 := Lib.hid hr
  clear hb hr hbel hd1 ho1 hd0 HB0
  go_wp2_with fail
  refine (HR.out b (by omega) _ HD1.out HR1.out).mono ?_
  rintro x w2 ⟨rfl, hr, hgr⟩
  have hblt := hr.lt
  have HR2 := Lib.hid (hr.alloc (.cells #[.string rk, .int .i64 rx, .int .i64 rn, .string rs] 23))
  have HO2 := Lib.hid ((HO1.out.kept hgr (by simp; omega)).alloc (.cells #[.string rk, .int .i64 rx, .int .i64 rn, .string rs] 23))
  have hB2 := HB1.out.grown hgr HB1.out.size (fun k e => by simp at e; omega)
  have HU2 := Lib.hid (Ub.new w2 (rk, rx, rn, rs))
  have HB2 := Lib.hid (hB2.alloc hB2.size (.cells #[.string rk, .int .i64 rx, .int .i64 rn, .string rs] 23))
  have hsz := hB2.size
  clear hr hgr hB2 HR1 HD1 HO1 HB1 HR
  go_wp2_with fail
  refine (HE.out b _ HR2.out).mono ?_
  rintro x w3 ⟨rfl, hgr⟩
  have hU3 := HU2.out.kept hgr (by simp; omega)
  have hO3 := HO2.out.kept hgr (by simp; omega)
  have HB3 := Lib.hid (HB2.out.grown hgr HB2.out.size (fun k e => by simp at e; omega))
  have d0 := hU3.c0
  have d1 := hU3.c1
  have d2 := hU3.c2
  have d3 := hU3.c3
  have o0 := hO3.c0
  have o1 := hO3.c1
  have o2 := hO3.c2
  have o3 := hO3.c3
  have g0 := hO3.f0 0
  have g1 := hO3.f0 1
  have g2 := hO3.f0 2
  have g3 := hO3.f0 3
  simp only [up0] at o0 o1 o2 o3
  clear hgr hU3 hO3 HR2 HO2 HU2 HB2 HE
  go_wp2
  refine bodyPost_ret (v := .tuple #[.agg #[.string ⟨#[]⟩, .int .i64 0, .int .i64 0, .string ⟨#[]⟩], .int .i64 ge]) (by simp [results, Tryd.results13, go_sem, o0, o1, o2, o3]) rfl ⟨rfl, below_set4 HB3.out (Nat.le_refl _) _ _ _ _⟩
set_option maxHeartbeats 1000000 in
theorem rget_o (s : ByteArray) (rk rs : ByteArray) (rA : Nat) (rx rn rE : Int) (w : World)
    (HR : Hid (∀ b w, Rm w b s 0 0 → Calls Tryd.prog 21 #[.pointer (some ⟨b, 0, none⟩)] w fun x w' => x = .returned (.agg #[.string rk, .int .i64 rx, .int .i64 rn, .string rs]) ∧ Rm w' b s rA rE ∧ w.grownBy w' (some b)))
    (HE : Hid (∀ b w, Rm w b s rA rE → Calls Tryd.prog 24 #[.pointer (some ⟨b, 0, none⟩)] w fun x w' => x = .returned (.int .i64 0) ∧ w.grownBy w' (some b))) :
    Calls Tryd.prog 14 #[.string s] w fun x w' => x = .returned (.tuple #[.agg #[.string rk, .int .i64 rx, .int .i64 rn, .string rs], .int .i64 0]) ∧ Below w.heap.size w w' := by
  have hsw : (w.alloc (.cells #[.string ⟨#[]⟩, .int .i64 0, .int .i64 0, .string ⟨#[]⟩] 23)).heap.size = w.heap.size + 1 := by simp
  have hr1 : Rm ((w.alloc (.cells #[.string ⟨#[]⟩, .int .i64 0, .int .i64 0, .string ⟨#[]⟩] 23)).alloc (.cells #[.string s, .int .i64 0, .int .i64 0] 51)) (w.heap.size + 1) s 0 0 := by
    have h := heap_alloc_new (w.alloc (.cells #[.string ⟨#[]⟩, .int .i64 0, .int .i64 0, .string ⟨#[]⟩] 23)) (.cells #[.string s, .int .i64 0, .int .i64 0] 51)
    rw [hsw] at h
    exact h
  have HR1 := Lib.hid hr1
  have HO1 := Lib.hid ((Ub.new w up0).alloc (.cells #[.string s, .int .i64 0, .int .i64 0] 51))
  have HB1 := Lib.hid (Joins.below_alloc2 w (.cells #[.string ⟨#[]⟩, .int .i64 0, .int .i64 0, .string ⟨#[]⟩] 23) (.cells #[.string s, .int .i64 0, .int .i64 0] 51))
  clear hr1 hsw
  go_enter Tryd.func14, Tryd.ntmps14
  go_wp2_with fail
  refine (HR.out (w.heap.size + 1) _ HR1.out).mono ?_
  rintro x w2 ⟨rfl, hr, hgr⟩
  have hblt := hr.lt
  have HR2 := Lib.hid (hr.alloc (.cells #[.string rk, .int .i64 rx, .int .i64 rn, .string rs] 23))
  have HO2 := Lib.hid ((HO1.out.kept hgr (by simp)).alloc (.cells #[.string rk, .int .i64 rx, .int .i64 rn, .string rs] 23))
  have hB2 := HB1.out.grown hgr HB1.out.size (fun k e => by simp at e; omega)
  have HU2 := Lib.hid (Ub.new w2 (rk, rx, rn, rs))
  have HB2 := Lib.hid (hB2.alloc hB2.size (.cells #[.string rk, .int .i64 rx, .int .i64 rn, .string rs] 23))
  have hsz := hB2.size
  clear hr hgr hB2 HR1 HO1 HB1 HR
  go_wp2_with fail
  refine (HE.out (w.heap.size + 1) _ HR2.out).mono ?_
  rintro x w3 ⟨rfl, hgr⟩
  have hU3 := HU2.out.kept hgr (by simp; omega)
  have hO3 := HO2.out.kept hgr (by simp)
  have HB3 := Lib.hid (HB2.out.grown hgr HB2.out.size (fun k e => by simp at e; omega))
  have d0 := hU3.c0
  have d1 := hU3.c1
  have d2 := hU3.c2
  have d3 := hU3.c3
  have o0 := hO3.c0
  have o1 := hO3.c1
  have o2 := hO3.c2
  have o3 := hO3.c3
  have g0 := hO3.f0 0
  have g1 := hO3.f0 1
  have g2 := hO3.f0 2
  have g3 := hO3.f0 3
  simp only [up0] at o0 o1 o2 o3
  clear hgr hU3 hO3 HR2 HO2 HU2 HB2 HE
  go_wp2
  refine bodyPost_ret (v := .tuple #[.agg #[.string rk, .int .i64 rx, .int .i64 rn, .string rs], .int .i64 0]) (by simp [results, Tryd.results14, go_sem, o0, o1, o2, o3]) rfl ⟨rfl, below_set4 HB3.out (Nat.le_refl _) _ _ _ _⟩
set_option maxHeartbeats 1000000 in
theorem rget_z (s : ByteArray) (rk rs : ByteArray) (rA : Nat) (rx rn rE : Int) (ge : Int) (hge : ge ≠ 0) (w : World)
    (HR : Hid (∀ b w, Rm w b s 0 0 → Calls Tryd.prog 21 #[.pointer (some ⟨b, 0, none⟩)] w fun x w' => x = .returned (.agg #[.string rk, .int .i64 rx, .int .i64 rn, .string rs]) ∧ Rm w' b s rA rE ∧ w.grownBy w' (some b)))
    (HE : Hid (∀ b w, Rm w b s rA rE → Calls Tryd.prog 24 #[.pointer (some ⟨b, 0, none⟩)] w fun x w' => x = .returned (.int .i64 ge) ∧ w.grownBy w' (some b))) :
    Calls Tryd.prog 14 #[.string s] w fun x w' => x = .returned (.tuple #[.agg #[.string ⟨#[]⟩, .int .i64 0, .int .i64 0, .string ⟨#[]⟩], .int .i64 ge]) ∧ Below w.heap.size w w' := by
  have k1 : (ge == 0) = false := by rw [beq_eq_false_iff_ne]; exact hge
  have hsw : (w.alloc (.cells #[.string ⟨#[]⟩, .int .i64 0, .int .i64 0, .string ⟨#[]⟩] 23)).heap.size = w.heap.size + 1 := by simp
  have hr1 : Rm ((w.alloc (.cells #[.string ⟨#[]⟩, .int .i64 0, .int .i64 0, .string ⟨#[]⟩] 23)).alloc (.cells #[.string s, .int .i64 0, .int .i64 0] 51)) (w.heap.size + 1) s 0 0 := by
    have h := heap_alloc_new (w.alloc (.cells #[.string ⟨#[]⟩, .int .i64 0, .int .i64 0, .string ⟨#[]⟩] 23)) (.cells #[.string s, .int .i64 0, .int .i64 0] 51)
    rw [hsw] at h
    exact h
  have HR1 := Lib.hid hr1
  have HO1 := Lib.hid ((Ub.new w up0).alloc (.cells #[.string s, .int .i64 0, .int .i64 0] 51))
  have HB1 := Lib.hid (Joins.below_alloc2 w (.cells #[.string ⟨#[]⟩, .int .i64 0, .int .i64 0, .string ⟨#[]⟩] 23) (.cells #[.string s, .int .i64 0, .int .i64 0] 51))
  clear hr1 hsw
  go_enter Tryd.func14, Tryd.ntmps14
  go_wp2_with fail
  refine (HR.out (w.heap.size + 1) _ HR1.out).mono ?_
  rintro x w2 ⟨rfl, hr, hgr⟩
  have hblt := hr.lt
  have HR2 := Lib.hid (hr.alloc (.cells #[.string rk, .int .i64 rx, .int .i64 rn, .string rs] 23))
  have HO2 := Lib.hid ((HO1.out.kept hgr (by simp)).alloc (.cells #[.string rk, .int .i64 rx, .int .i64 rn, .string rs] 23))
  have hB2 := HB1.out.grown hgr HB1.out.size (fun k e => by simp at e; omega)
  have HU2 := Lib.hid (Ub.new w2 (rk, rx, rn, rs))
  have HB2 := Lib.hid (hB2.alloc hB2.size (.cells #[.string rk, .int .i64 rx, .int .i64 rn, .string rs] 23))
  have hsz := hB2.size
  clear hr hgr hB2 HR1 HO1 HB1 HR
  go_wp2_with fail
  refine (HE.out (w.heap.size + 1) _ HR2.out).mono ?_
  rintro x w3 ⟨rfl, hgr⟩
  have hU3 := HU2.out.kept hgr (by simp; omega)
  have hO3 := HO2.out.kept hgr (by simp)
  have HB3 := Lib.hid (HB2.out.grown hgr HB2.out.size (fun k e => by simp at e; omega))
  have d0 := hU3.c0
  have d1 := hU3.c1
  have d2 := hU3.c2
  have d3 := hU3.c3
  have o0 := hO3.c0
  have o1 := hO3.c1
  have o2 := hO3.c2
  have o3 := hO3.c3
  have g0 := hO3.f0 0
  have g1 := hO3.f0 1
  have g2 := hO3.f0 2
  have g3 := hO3.f0 3
  simp only [up0] at o0 o1 o2 o3
  clear hgr hU3 hO3 HR2 HO2 HU2 HB2 HE
  go_wp2
  refine bodyPost_ret (v := .tuple #[.agg #[.string ⟨#[]⟩, .int .i64 0, .int .i64 0, .string ⟨#[]⟩], .int .i64 ge]) (by simp [results, Tryd.results14, go_sem, o0, o1, o2, o3]) rfl ⟨rfl, below_set4 HB3.out (Nat.le_refl _) _ _ _ _⟩
theorem uget_any (s : ByteArray) (hm : s.size ≤ 140737488355328) (w : World) (hd : Wd w) :
    Calls Tryd.prog 13 #[.string s] w fun x w' => x = .returned (.tuple #[uu (getU s), .int .i64 (getE s)]) ∧ Below w.heap.size w w' := by
  have HR := Lib.hid (fun b hb w hd h => uread_any s 0 0 b hb (Nat.zero_le _) hm w hd h)
  have HE : Hid (∀ b w, Rd w b (rst s (updR s 0 0).2.1 (updR s 0 0).2.2) (updR s 0 0).2.2 → Calls Tryd.prog 23 #[.pointer (some ⟨b, 0, none⟩)] w fun x w' => x = .returned (.int .i64 (getE s)) ∧ w.grownBy w' (some b)) :=
    fun b w h => (end_any s _ _ b w h).mono fun x w' hx => ⟨hx.1, hx.2.2⟩
  by_cases hg : getE s = 0
  · rw [show getU s = (updR s 0 0).1 by unfold getU; rw [if_neg (by simp [hg])], hg]
    rw [hg] at HE
    exact get_o s hm _ _ _ _ _ _ w hd HR HE
  · rw [show getU s = up0 by unfold getU; rw [if_pos hg]]
    exact get_z s hm _ _ _ _ _ _ _ hg w hd HR HE
theorem rget_u (s : ByteArray) (hm : s.size ≤ maxLen) (w : World) :
    Calls Tryd.prog 14 #[.string s] w fun x w' => x = .returned (.tuple #[uu (getU s), .int .i64 (getE s)]) ∧ Below w.heap.size w w' := by
  have HR := Lib.hid (fun b w h => rread_any s 0 0 b (Nat.zero_le _) hm w h)
  have HE : Hid (∀ b w, Rm w b s (updR s 0 0).2.1 (updR s 0 0).2.2 → Calls Tryd.prog 24 #[.pointer (some ⟨b, 0, none⟩)] w fun x w' => x = .returned (.int .i64 (getE s)) ∧ w.grownBy w' (some b)) :=
    fun b w h => (rend_any s _ _ b w h).mono fun x w' hx => ⟨hx.1, hx.2.2⟩
  by_cases hg : getE s = 0
  · rw [show getU s = (updR s 0 0).1 by unfold getU; rw [if_neg (by simp [hg])], hg]
    rw [hg] at HE
    exact rget_o s _ _ _ _ _ _ w HR HE
  · rw [show getU s = up0 by unfold getU; rw [if_pos hg]]
    exact rget_z s _ _ _ _ _ _ _ hg w HR HE
end Go.Proofs.YtpdpmdbdnpemnaaDoor
