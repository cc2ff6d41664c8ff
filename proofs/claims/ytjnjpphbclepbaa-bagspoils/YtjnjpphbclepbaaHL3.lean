/- BagSpoils. -/
import Derived.Test.YtjnjpphbclepbaaHO
import Derived.Deep.RegionHeld3
namespace Go.Proofs.Ytjnjpphbclepbaa
open Go Go.RowKit
set_option maxRecDepth 20000
/-- The four boxes of the law. -/
structure Bx (w : World) (gp gx gy gz : Nat) (pf pt : Int) (pd pd' : ByteArray) : Prop where
  p : w.heap[gp]? = some (.cells #[.int .i64 pf, .int .i64 pt, .string pd] 39 (0, 0))
  x : w.heap[gx]? = some (.cells #[.int .i64 pf, .int .i64 pt, .string pd'] 39 (0, 0))
  y : w.heap[gy]? = some (.cells #[.int .i64 pf, .int .i64 pt, .string pd] 39 (0, 0))
  z : w.heap[gz]? = some (.cells #[.int .i64 pf, .int .i64 pt, .string pd'] 39 (0, 0))
section
variable {w w' : World} {gp gx gy gz : Nat} {pf pt : Int} {pd pd' : ByteArray}
theorem Bx.bk {B : Nat} (h : Bx w gp gx gy gz pf pt pd pd') (hw : BkW B w w') : Bx w' gp gx gy gz pf pt pd pd' := ⟨hw.cells h.p (by decide) (by decide), hw.cells h.x (by decide) (by decide), hw.cells h.y (by decide) (by decide), hw.cells h.z (by decide) (by decide)⟩
theorem Bx.below (h : Bx w gp gx gy gz pf pt pd pd') (hb : Below w.heap.size w w') : Bx w' gp gx gy gz pf pt pd pd' := ⟨kept_at h.p hb, kept_at h.x hb, kept_at h.y hb, kept_at h.z hb⟩
theorem Bx.cells (h : Bx w gp gx gy gz pf pt pd pd') : w.cell? ⟨gp, 0, none⟩ = some (.int .i64 pf) ∧ w.cell? ⟨gp, 1, none⟩ = some (.int .i64 pt) ∧ w.cell? ⟨gp, 2, none⟩ = some (.string pd) ∧ w.cell? ⟨gx, 0, none⟩ = some (.int .i64 pf) ∧ w.cell? ⟨gx, 1, none⟩ = some (.int .i64 pt) ∧ w.cell? ⟨gx, 2, none⟩ = some (.string pd') ∧ w.cell? ⟨gy, 0, none⟩ = some (.int .i64 pf) ∧ w.cell? ⟨gy, 1, none⟩ = some (.int .i64 pt) ∧ w.cell? ⟨gy, 2, none⟩ = some (.string pd) ∧ w.cell? ⟨gz, 0, none⟩ = some (.int .i64 pf) ∧ w.cell? ⟨gz, 1, none⟩ = some (.int .i64 pt) ∧ w.cell? ⟨gz, 2, none⟩ = some (.string pd') :=
  ⟨cell_at h.p 0 _ rfl, cell_at h.p 1 _ rfl, cell_at h.p 2 _ rfl, cell_at h.x 0 _ rfl, cell_at h.x 1 _ rfl, cell_at h.x 2 _ rfl, cell_at h.y 0 _ rfl, cell_at h.y 1 _ rfl, cell_at h.y 2 _ rfl, cell_at h.z 0 _ rfl, cell_at h.z 1 _ rfl, cell_at h.z 2 _ rfl⟩
end
set_option maxHeartbeats 1600000 in
theorem second_any {B b : Nat} {l : List Pk} {p : Pkt} (hp : atP l 1 = p) (w : World) (h : Ck B w b l) : Calls Try.prog 19 #[.pointer (some ⟨b, 0, none⟩)] w fun x w' => x = .returned (pv p) ∧ Below w.heap.size w w' := by
  have HA := fun (B b : Nat) (w : World) (h : Ck B w b l) => Lib.hid (ck_at 1 h)
  rw [hp] at HA
  obtain ⟨ok, hok⟩ : ∃ ok, decide (inb l 1) = ok := ⟨_, rfl⟩
  rw [hok] at HA
  obtain ⟨pf, pt, pd⟩ := p
  unfold pv at *
  simp only at HA ⊢
  have HK := fun o => Lib.hid (h.next (Joins.below_alloc1 w o))
  clear h hp hok
  go_enter Try.func19, Try.ntmps19
  go_wp2_with fail
  refine (HA _ _ _ (HK _).out).out.mono ?_
  rintro e w1 ⟨rfl, hb⟩
  have hr := kept_at (new_at (n := w.heap.size) rfl) hb
  have HB := Lib.hid ((Joins.below_alloc1 w _).trans (hb.mono (by simp)))
  have e0 := fun o => cell_at (old_at (o := o) hr) 0 (.int .i64 0) rfl
  have e1 := fun o => cell_at (old_at (o := o) hr) 1 (.int .i64 0) rfl
  have e2 := fun o => cell_at (old_at (o := o) hr) 2 (.string ⟨#[]⟩) rfl
  have f0 := fun o => unfrozen_at (old_at (o := o) hr) 0
  have f1 := fun o => unfrozen_at (old_at (o := o) hr) 1
  have f2 := fun o => unfrozen_at (old_at (o := o) hr) 2
  have hbs := HB.out.size
  clear hb hr HA HK
  go_wp2
  refine bodyPost_ret (v := .agg #[.int .i64 pf, .int .i64 pt, .string pd]) (by simp [results, Try.results19, go_sem, e0, e1, e2]) rfl ⟨rfl, ?_⟩
  exact below_set3 (HB.out.alloc hbs _) (Nat.le_refl _) _ _ _
theorem sp_add (p : Pkt) : addL [] [p] = [newP p] ∧ addN [] [p] = 1 := ⟨rfl, rfl⟩
theorem sp_tw (p : Pk) : twL [p] 0 = [p, p] ∧ twE [p] 0 = 0 := ⟨rfl, rfl⟩
theorem sp_tw2 (p q : Pk) : twL [q, p] 0 = [q, p, q] ∧ twE [q, p] 0 = 0 := ⟨rfl, rfl⟩
theorem sp_sp (f t : Int) (s : ByteArray) (q : Pk) (bit : Int) (m : Nat) : spL [(f, t, s, false), q] 0 bit m = [(f, t, flp s bit m, true), q] ∧ spE [(f, t, s, false), q] 0 = 0 := ⟨rfl, rfl⟩
theorem sp_1 (f t : Int) (s : ByteArray) (p q : Pk) : spL [(f, t, s, true), p, q] 0 0 1 = [(f, t, s, true), p, q] ∧ spE [(f, t, s, true), p, q] 0 = 12 := ⟨rfl, rfl⟩
theorem sp_2 (f t : Int) (s : ByteArray) (p q : Pk) : spL [p, q, (f, t, s, true)] 2 0 1 = [p, q, (f, t, s, true)] ∧ spE [p, q, (f, t, s, true)] 2 = 12 := ⟨rfl, rfl⟩
theorem sp_3 (f t : Int) (s : ByteArray) (p q : Pk) (bit : Int) (m : Nat) : spL [p, (f, t, s, false), q] 1 bit m = [p, (f, t, flp s bit m, true), q] ∧ spE [p, (f, t, s, false), q] 1 = 0 := ⟨rfl, rfl⟩
theorem sp_at (p q r : Pk) : (atP [p, q, r] 0 = pktOf p ∧ decide (inb [p, q, r] 0) = true) ∧ (atP [p, q, r] 1 = pktOf q ∧ decide (inb [p, q, r] 1) = true) ∧ (atP [p, q, r] 2 = pktOf r ∧ decide (inb [p, q, r] 2) = true) := ⟨⟨rfl, rfl⟩, ⟨rfl, rfl⟩, ⟨rfl, rfl⟩⟩
set_option maxHeartbeats 16000000 in
theorem walkSpoils (p : Pkt) (bit : Int) (hbw : (Lit.int .i64 bit).wf = true) (mi : Int) (hmw : (Lit.int .u32 mi).wf = true) (w : World) :
    Calls Try.prog 5 #[pv p, .int .i64 bit, .int .u32 mi] w fun e w' => e = .returned (.bool true) ∧ Below w.heap.size w w' := by
  obtain ⟨m, rfl, hm⟩ := u32_bd hmw
  obtain ⟨b1, b2⟩ := i64_bd hbw
  obtain ⟨pf, pt, pd⟩ := p
  unfold pv
  simp only
  clear hmw hbw
  have HB0 : Hid (Below w.heap.size w (w.alloc (.cells #[.int .i64 pf, .int .i64 pt, .string pd] 39))) := Lib.hid (Joins.below_alloc1 _ _)
  have HP0 : Hid ((w.alloc (.cells #[.int .i64 pf, .int .i64 pt, .string pd] 39)).heap[w.heap.size]? = some (.cells #[.int .i64 pf, .int .i64 pt, .string pd] 39 (0, 0))) := Lib.hid (new_at rfl)
  by_cases h60 : 60 < pd.size
  · have q : (60 : Int) < (pd.size : Int) := by omega
    go_enter Try.func5, Try.ntmps5
    go_wp2_with fail
    refine (ck_new _).mono ?_
    rintro e w1 ⟨rfl, hk, hb, hsz⟩
    have HB1 := Lib.hid (Below.next HB0.out hb)
    have HP1 := Lib.hid (kept_at HP0.out hb)
    clear hk hb hsz
    go_wp2_with fail
    refine (awake_any _).mono ?_
    rintro e w2 ⟨rfl, hb⟩
    have HB2 := Lib.hid (Below.next HB1.out hb)
    have c2 := cell_at (kept_at HP1.out hb) 2 (.string pd) rfl
    clear hb
    go_wp2_with fail
    refine (awake_any _).mono ?_
    rintro e w3 ⟨rfl, hb⟩
    have HB3 := Lib.hid (Below.next HB2.out hb)
    clear hb
    go_wp2
    go_ret
    exact ⟨rfl, HB3.out⟩
  have q : ¬ (60 : Int) < (pd.size : Int) := by omega
  have HSM : Hid (∀ p ∈ [((pf, pt, pd) : Pkt)], p.2.2.size ≤ 1000) := Lib.hid fun p hp => by
    have e : p = (pf, pt, pd) := by simpa using hp
    rw [e]
    show pd.size ≤ 1000
    omega
  have h11 : 1 ≤ 1000 := by omega
  have D1 := fun (B b : Nat) (w : World) (h : Ck B w b [newP (pf, pt, pd)]) => Lib.hid (ck_twice 0 h)
  rw [(sp_tw _).1, (sp_tw _).2] at D1
  have D2 := fun (B b : Nat) (w : World) (h : Ck B w b [newP (pf, pt, pd), newP (pf, pt, pd)]) => Lib.hid (ck_spoil 0 bit b1 b2 m hm h)
  rw [show [newP (pf, pt, pd), newP (pf, pt, pd)] = [((pf, pt, pd, false) : Pk), newP (pf, pt, pd)] from rfl, (sp_sp _ _ _ _ _ _).1, (sp_sp _ _ _ _ bit m).2] at D2
  have E3 := fun (B b : Nat) (w : World) (q1 q2 : Pk) (h : Ck B w b [q1, (pf, pt, pd, false), q2]) => Lib.hid (ck_spoil 1 bit b1 b2 m hm h)
  simp only [(sp_3 _ _ _ _ _ _ _).1] at E3
  simp only [(sp_3 _ _ _ _ _ 0 0).2] at E3
  generalize flp pd bit m = pd' at *
  have E3 := fun B b w => E3 B b w ((pf, pt, pd', true) : Pk) ((pf, pt, pd', true) : Pk)
  have D3 := fun (B b : Nat) (w : World) (h : Ck B w b [((pf, pt, pd', true) : Pk), newP (pf, pt, pd)]) => Lib.hid (ck_twice 0 h)
  rw [(sp_tw2 _ _).1, (sp_tw2 _ _).2] at D3
  have A0 := fun (B b : Nat) (w : World) (h : Ck B w b [((pf, pt, pd', true) : Pk), newP (pf, pt, pd), ((pf, pt, pd', true) : Pk)]) => Lib.hid (ck_at 0 h)
  have A1 := fun (B b : Nat) (w : World) (h : Ck B w b [((pf, pt, pd', true) : Pk), newP (pf, pt, pd), ((pf, pt, pd', true) : Pk)]) => Lib.hid (ck_at 1 h)
  have A2 := fun (B b : Nat) (w : World) (h : Ck B w b [((pf, pt, pd', true) : Pk), newP (pf, pt, pd), ((pf, pt, pd', true) : Pk)]) => Lib.hid (ck_at 2 h)
  rw [(sp_at _ _ _).1.1, (sp_at _ _ _).1.2] at A0
  rw [(sp_at _ _ _).2.1.1, (sp_at _ _ _).2.1.2] at A1
  rw [(sp_at _ _ _).2.2.1, (sp_at _ _ _).2.2.2] at A2
  unfold pv pktOf newP at A0 A1 A2
  simp only at A0 A1 A2
  have E1 := fun (B b : Nat) (w : World) (h : Ck B w b [((pf, pt, pd', true) : Pk), (pf, pt, pd, false), ((pf, pt, pd', true) : Pk)]) => Lib.hid (ck_spoil 0 0 (by decide) (by decide) 1 (by decide) h)
  rw [(sp_1 _ _ _ _ _).1, (sp_1 _ _ _ _ _).2] at E1
  have E2 := fun (B b : Nat) (w : World) (h : Ck B w b [((pf, pt, pd', true) : Pk), (pf, pt, pd, false), ((pf, pt, pd', true) : Pk)]) => Lib.hid (ck_spoil 2 0 (by decide) (by decide) 1 (by decide) h)
  rw [(sp_2 _ _ _ _ _).1, (sp_2 _ _ _ _ _).2] at E2
  have E4 := fun (B b : Nat) (w : World) (h : Ck B w b [((pf, pt, pd', true) : Pk), ((pf, pt, pd', true) : Pk), ((pf, pt, pd', true) : Pk)]) => Lib.hid (second_any (p := (pf, pt, pd')) rfl w h)
  unfold pv at E4
  simp only at E4
  have QP := eq_yes pd
  have QX := eq_yes pd'
  clear b1 b2 hm
  go_enter Try.func5, Try.ntmps5
  go_wp2_with fail
  refine (ck_new _).mono ?_
  rintro e w1 ⟨rfl, hk, hb, hsz⟩
  have HB1 := Lib.hid (Below.next HB0.out hb)
  have HP1 := Lib.hid (kept_at HP0.out hb)
  rw [show (w.alloc (.cells #[.int .i64 pf, .int .i64 pt, .string pd] 39)).heap.size = w.heap.size + 1 by simp] at hk
  have HK1 := Lib.hid (hk.lower (B' := w.heap.size) (by omega))
  clear hk hb hsz
  go_wp2_with fail
  refine (awake_any _).mono ?_
  rintro e w2 ⟨rfl, hb⟩
  have HB2 := Lib.hid (Below.next HB1.out hb)
  have HP2 := Lib.hid (kept_at HP1.out hb)
  have HK2 := Lib.hid (HK1.out.next hb)
  have c0 := cell_at HP2.out 0 (.int .i64 pf) rfl
  have c1 := cell_at HP2.out 1 (.int .i64 pt) rfl
  have c2 := cell_at HP2.out 2 (.string pd) rfl
  clear hb HK1
  obtain ⟨b, hb0⟩ : ∃ b, w.heap.size + 1 = b := ⟨_, rfl⟩
  rw [hb0] at HK2
  go_wp2_with fail

  have HTY : Hid (∀ g off, (some ⟨w2.heap.size, 0, none⟩ : Option Addr) = some ⟨g, off, none⟩ → ∃ cur fr, (w2.alloc (.cells #[.int .i64 pf, .int .i64 pt, .string pd] 39)).heap[g]? = some (.cells cur 39 fr)) := Lib.hid (fun g off e => by
    have e1 : w2.heap.size = g := by simpa using congrArg (fun a => a.map (·.block)) e
    rw [← e1]
    exact ⟨_, _, heap_alloc_new w2 _⟩)
  have HB2a := Lib.hid (HB2.out.alloc HB2.out.size (.cells #[.int .i64 pf, .int .i64 pt, .string pd] 39))
  refine (ck_add (l := []) (some ⟨w2.heap.size, 0, none⟩) 1 1 [(pf, pt, pd)] (HK2.out.next (Joins.below_alloc1 w2 (.cells #[.int .i64 pf, .int .i64 pt, .string pd] 39))) (psAt_one w2 pf pt pd) (Nat.le_refl _) HTY.out HSM.out h11).mono ?_
  rw [(sp_add _).1, (sp_add _).2]
  rintro e w3 ⟨rfl, hk, hw⟩
  have HK3 := Lib.hid hk
  have HB3 := Lib.hid (HB2a.out.trans (hw.below HB2a.out.size))
  have HP3 := Lib.hid (hw.cells (old_at (o := (.cells #[.int .i64 pf, .int .i64 pt, .string pd] 39)) HP2.out) (by decide) (by decide))
  clear hk hw c0 c1 c2
  go_wp2_with fail
  refine ((D1 _ _ _ HK3.out).out).mono ?_
  rintro e w4 ⟨rfl, hk, hw⟩
  have HK4 := Lib.hid hk
  have HB4 := Lib.hid (HB3.out.trans (hw.below HB3.out.size))
  have HP4 := Lib.hid (hw.cells HP3.out (by decide) (by decide))
  clear hk hw
  go_wp2_with fail
  refine ((D2 _ _ _ HK4.out).out).mono ?_
  rintro e w5 ⟨rfl, hk, hw⟩
  have HK5 := Lib.hid hk
  have HB5 := Lib.hid (HB4.out.trans (hw.below HB4.out.size))
  have HP5 := Lib.hid (hw.cells HP4.out (by decide) (by decide))
  clear hk hw
  go_wp2_with fail
  refine ((D3 _ _ _ HK5.out).out).mono ?_
  rintro e w6 ⟨rfl, hk, hw⟩
  have HK6 := Lib.hid hk
  have HB6 := Lib.hid (HB5.out.trans (hw.below HB5.out.size))
  have HP6 := Lib.hid (hw.cells HP5.out (by decide) (by decide))
  clear hk hw
  go_wp2_with fail
  refine (A0 _ _ _ HK6.out).out.mono ?_
  rintro e w7 ⟨rfl, hb⟩
  have hb7 := hb.trans ((Joins.below_alloc1 w7 (.cells #[.int .i64 pf, .int .i64 pt, .string pd'] 39)).mono hb.size)
  have HK7 := Lib.hid (HK6.out.next hb7)
  have HB7 := Lib.hid (HB6.out.trans (hb7.mono HB6.out.size))
  have HP7 := Lib.hid (kept_at HP6.out hb7)
  have HX7 : Hid ((w7.alloc (.cells #[.int .i64 pf, .int .i64 pt, .string pd'] 39)).heap[w7.heap.size]? = some (.cells #[.int .i64 pf, .int .i64 pt, .string pd'] 39 (0, 0))) := Lib.hid (new_at rfl)
  clear hb hb7
  go_wp2_with fail
  refine (A1 _ _ _ HK7.out).out.mono ?_
  rintro e w8 ⟨rfl, hb⟩
  have hb8 := hb.trans ((Joins.below_alloc1 w8 (.cells #[.int .i64 pf, .int .i64 pt, .string pd] 39)).mono hb.size)
  have HK8 := Lib.hid (HK7.out.next hb8)
  have HB8 := Lib.hid (HB7.out.trans (hb8.mono HB7.out.size))
  have HP8 := Lib.hid (kept_at HP7.out hb8)
  have HX8 := Lib.hid (kept_at HX7.out hb8)
  have HY8 : Hid ((w8.alloc (.cells #[.int .i64 pf, .int .i64 pt, .string pd] 39)).heap[w8.heap.size]? = some (.cells #[.int .i64 pf, .int .i64 pt, .string pd] 39 (0, 0))) := Lib.hid (new_at rfl)
  clear hb hb8
  go_wp2_with fail
  refine (A2 _ _ _ HK8.out).out.mono ?_
  rintro e w9 ⟨rfl, hb⟩
  have hb9 := hb.trans ((Joins.below_alloc1 w9 (.cells #[.int .i64 pf, .int .i64 pt, .string pd'] 39)).mono hb.size)
  have HK9 := Lib.hid (HK8.out.next hb9)
  have HB9 := Lib.hid (HB8.out.trans (hb9.mono HB8.out.size))
  have HXX : Hid (Bx (w9.alloc (.cells #[.int .i64 pf, .int .i64 pt, .string pd'] 39)) w.heap.size w7.heap.size w8.heap.size w9.heap.size pf pt pd pd') := Lib.hid ⟨kept_at HP8.out hb9, kept_at HX8.out hb9, kept_at HY8.out hb9, new_at rfl⟩
  clear hb hb9
  go_upto_region 11 with fail
  generalize w9.alloc (.cells #[.int .i64 pf, .int .i64 pt, .string pd'] 39) = w0 at *
  generalize w7.heap.size = gx at *
  generalize w8.heap.size = gy at *
  generalize w9.heap.size = gz at *
  have HKS : Hid (Ck w.heap.size w0.drew b [((pf, pt, pd', true) : Pk), newP (pf, pt, pd), ((pf, pt, pd', true) : Pk)]) := Lib.hid (HK9.out.asit rfl)
  have HBS : Hid (Below w.heap.size w w0.drew) := Lib.hid (HB9.out.trans ((Below.refl w0.heap.size w0).drew.mono HB9.out.size))
  have HXS : Hid (Bx w0.drew w.heap.size gx gy gz pf pt pd pd') := Lib.hid (HXX.out.below (Below.refl w0.heap.size w0).drew)
  have s0 := HXS.out.cells
  refine wp_region_held_drew (S := fun w' => w'.cell? ⟨w.heap.size, 0, none⟩ = some (.int .i64 pf) ∧ w'.cell? ⟨w.heap.size, 1, none⟩ = some (.int .i64 pt) ∧ w'.cell? ⟨w.heap.size, 2, none⟩ = some (.string pd) ∧ w'.cell? ⟨gx, 0, none⟩ = some (.int .i64 pf) ∧ w'.cell? ⟨gx, 1, none⟩ = some (.int .i64 pt) ∧ w'.cell? ⟨gx, 2, none⟩ = some (.string pd') ∧ w'.cell? ⟨gy, 0, none⟩ = some (.int .i64 pf) ∧ w'.cell? ⟨gy, 1, none⟩ = some (.int .i64 pt) ∧ w'.cell? ⟨gy, 2, none⟩ = some (.string pd) ∧ w'.cell? ⟨gz, 0, none⟩ = some (.int .i64 pf) ∧ w'.cell? ⟨gz, 1, none⟩ = some (.int .i64 pt) ∧ w'.cell? ⟨gz, 2, none⟩ = some (.string pd')) (by kernel_rfl) ?_ (fun hH => ?_)
  · exact s0
  refine wpAnyH_take (i := 0) (oi := { dst := some 56, op := Go.Op.move (Go.Operand.tmp 8), type := 45, pos := "law.go:143", after := #[], guard := none }) (v := ?_) rfl (by kernel_rfl) (by kernel_rfl) (by kernel_rfl) (fun _ _ _ h => h) (Or.inl ⟨by rfl, ?_⟩) (by assumption) ?_
  rotate_left
  · intro w hSw
    try dsimp only at hSw
    obtain ⟨k0, k1, k2, k3, k4, k5, k6, k7, k8, k9, k10, k11⟩ := hSw
    go_simp
    all_goals with_reducible rfl
  try simp only [Act.put, List.setIfInBounds_toArray, List.set_cons_zero, List.set_cons_succ]
  refine wpAnyH_take (i := 1) (oi := { dst := some 57, op := Go.Op.binOp Go.BinOp.eql 45 (Go.Operand.tmp 56) (Go.Operand.const (Go.Value.int Go.IntKind.i64 0)) 45, type := 4, pos := "law.go:143", after := #[{ on := 0, ground := Go.Ground.data }], guard := none }) (v := ?_) rfl (by kernel_rfl) (by kernel_rfl) (by kernel_rfl) (fun _ _ _ h => h) (Or.inl ⟨by rfl, ?_⟩) (by assumption) ?_
  rotate_left
  · intro w hSw
    try dsimp only at hSw
    obtain ⟨k0, k1, k2, k3, k4, k5, k6, k7, k8, k9, k10, k11⟩ := hSw
    go_simp
    all_goals with_reducible rfl
  try simp only [Act.put, List.setIfInBounds_toArray, List.set_cons_zero, List.set_cons_succ]
  refine wpAnyH_take (i := 2) (oi := { dst := some 58, op := Go.Op.move (Go.Operand.tmp 57), type := 4, pos := "law.go:143", after := #[{ on := 1, ground := Go.Ground.data }], guard := none }) (v := ?_) rfl (by kernel_rfl) (by kernel_rfl) (by kernel_rfl) (fun _ _ _ h => h) (Or.inl ⟨by rfl, ?_⟩) (by assumption) ?_
  rotate_left
  · intro w hSw
    try dsimp only at hSw
    obtain ⟨k0, k1, k2, k3, k4, k5, k6, k7, k8, k9, k10, k11⟩ := hSw
    go_simp
    all_goals with_reducible rfl
  try simp only [Act.put, List.setIfInBounds_toArray, List.set_cons_zero, List.set_cons_succ]
  refine wpAnyH_take (i := 3) (oi := { dst := some 59, op := Go.Op.load 39 (Go.Operand.tmp 11), type := 39, pos := "law.go:143", after := #[{ on := 2, ground := Go.Ground.guard }], guard := some (2, true) }) (v := ?_) rfl (by kernel_rfl) (by kernel_rfl) (by kernel_rfl) (fun _ _ _ h => h) (Or.inl ⟨by rfl, ?_⟩) (by assumption) ?_
  rotate_left
  · intro w hSw
    try dsimp only at hSw
    obtain ⟨k0, k1, k2, k3, k4, k5, k6, k7, k8, k9, k10, k11⟩ := hSw
    go_simp
    all_goals with_reducible rfl
  try simp only [Act.put, List.setIfInBounds_toArray, List.set_cons_zero, List.set_cons_succ]
  refine wpAnyH_take (i := 4) (oi := { dst := some 60, op := Go.Op.load 39 (Go.Operand.tmp 3), type := 39, pos := "law.go:143", after := #[{ on := 2, ground := Go.Ground.guard }], guard := some (2, true) }) (v := ?_) rfl (by kernel_rfl) (by kernel_rfl) (by kernel_rfl) (fun _ _ _ h => h) (Or.inl ⟨by rfl, ?_⟩) (by assumption) ?_
  rotate_left
  · intro w hSw
    try dsimp only at hSw
    obtain ⟨k0, k1, k2, k3, k4, k5, k6, k7, k8, k9, k10, k11⟩ := hSw
    go_simp
    all_goals with_reducible rfl
  try simp only [Act.put, List.setIfInBounds_toArray, List.set_cons_zero, List.set_cons_succ]
  refine wpAnyH_take (i := 5) (oi := { dst := some 61, op := Go.Op.binOp Go.BinOp.eql 39 (Go.Operand.tmp 59) (Go.Operand.tmp 60) 39, type := 4, pos := "law.go:143", after := #[{ on := 3, ground := Go.Ground.data }, { on := 4, ground := Go.Ground.data }, { on := 2, ground := Go.Ground.guard }], guard := some (2, true) }) (v := ?_) rfl (by kernel_rfl) (by kernel_rfl) (by kernel_rfl) (fun _ _ _ h => h) (Or.inl ⟨by rfl, ?_⟩) (by assumption) ?_
  rotate_left
  · intro w hSw
    try dsimp only at hSw
    obtain ⟨k0, k1, k2, k3, k4, k5, k6, k7, k8, k9, k10, k11⟩ := hSw
    go_simp
    all_goals with_reducible rfl
  try simp only [Act.put, List.setIfInBounds_toArray, List.set_cons_zero, List.set_cons_succ]
  refine wpAnyH_take (i := 6) (oi := { dst := some 62, op := Go.Op.pick (Go.Operand.tmp 58) (Go.Operand.tmp 61) (Go.Operand.const (Go.Value.bool false)), type := 4, pos := "law.go:143", after := #[{ on := 2, ground := Go.Ground.data }, { on := 5, ground := Go.Ground.data }], guard := none }) (v := ?_) rfl (by kernel_rfl) (by kernel_rfl) (by kernel_rfl) (fun _ _ _ h => h) (Or.inl ⟨by rfl, ?_⟩) (by assumption) ?_
  rotate_left
  · intro w hSw
    try dsimp only at hSw
    obtain ⟨k0, k1, k2, k3, k4, k5, k6, k7, k8, k9, k10, k11⟩ := hSw
    go_simp
    all_goals with_reducible rfl
  try simp only [Act.put, List.setIfInBounds_toArray, List.set_cons_zero, List.set_cons_succ]
  refine wpAnyH_take (i := 7) (oi := { dst := some 63, op := Go.Op.move (Go.Operand.tmp 62), type := 4, pos := "law.go:143", after := #[{ on := 6, ground := Go.Ground.data }, { on := 2, ground := Go.Ground.chain }], guard := none }) (v := ?_) rfl (by kernel_rfl) (by kernel_rfl) (by kernel_rfl) (fun _ _ _ h => h) (Or.inl ⟨by rfl, ?_⟩) (by assumption) ?_
  rotate_left
  · intro w hSw
    try dsimp only at hSw
    obtain ⟨k0, k1, k2, k3, k4, k5, k6, k7, k8, k9, k10, k11⟩ := hSw
    go_simp
    all_goals with_reducible rfl
  try simp only [Act.put, List.setIfInBounds_toArray, List.set_cons_zero, List.set_cons_succ]
  refine wpAnyH_take (i := 8) (oi := { dst := some 64, op := Go.Op.load 39 (Go.Operand.tmp 13), type := 39, pos := "law.go:143", after := #[{ on := 7, ground := Go.Ground.guard }], guard := some (7, true) }) (v := ?_) rfl (by kernel_rfl) (by kernel_rfl) (by kernel_rfl) (fun _ _ _ h => h) (Or.inl ⟨by rfl, ?_⟩) (by assumption) ?_
  rotate_left
  · intro w hSw
    try dsimp only at hSw
    obtain ⟨k0, k1, k2, k3, k4, k5, k6, k7, k8, k9, k10, k11⟩ := hSw
    go_simp
    all_goals with_reducible rfl
  try simp only [Act.put, List.setIfInBounds_toArray, List.set_cons_zero, List.set_cons_succ]
  refine wpAnyH_take (i := 9) (oi := { dst := some 65, op := Go.Op.load 39 (Go.Operand.tmp 9), type := 39, pos := "law.go:143", after := #[{ on := 7, ground := Go.Ground.guard }], guard := some (7, true) }) (v := ?_) rfl (by kernel_rfl) (by kernel_rfl) (by kernel_rfl) (fun _ _ _ h => h) (Or.inl ⟨by rfl, ?_⟩) (by assumption) ?_
  rotate_left
  · intro w hSw
    try dsimp only at hSw
    obtain ⟨k0, k1, k2, k3, k4, k5, k6, k7, k8, k9, k10, k11⟩ := hSw
    go_simp
    all_goals with_reducible rfl
  try simp only [Act.put, List.setIfInBounds_toArray, List.set_cons_zero, List.set_cons_succ]
  refine wpAnyH_take (i := 10) (oi := { dst := some 66, op := Go.Op.binOp Go.BinOp.eql 39 (Go.Operand.tmp 64) (Go.Operand.tmp 65) 39, type := 4, pos := "law.go:143", after := #[{ on := 8, ground := Go.Ground.data }, { on := 9, ground := Go.Ground.data }, { on := 7, ground := Go.Ground.guard }], guard := some (7, true) }) (v := ?_) rfl (by kernel_rfl) (by kernel_rfl) (by kernel_rfl) (fun _ _ _ h => h) (Or.inl ⟨by rfl, ?_⟩) (by assumption) ?_
  rotate_left
  · intro w hSw
    try dsimp only at hSw
    obtain ⟨k0, k1, k2, k3, k4, k5, k6, k7, k8, k9, k10, k11⟩ := hSw
    go_simp
    all_goals with_reducible rfl
  try simp only [Act.put, List.setIfInBounds_toArray, List.set_cons_zero, List.set_cons_succ]
  refine wpAnyH_take (i := 11) (oi := { dst := some 67, op := Go.Op.pick (Go.Operand.tmp 63) (Go.Operand.tmp 66) (Go.Operand.const (Go.Value.bool false)), type := 4, pos := "law.go:143", after := #[{ on := 7, ground := Go.Ground.data }, { on := 10, ground := Go.Ground.data }], guard := none }) (v := ?_) rfl (by kernel_rfl) (by kernel_rfl) (by kernel_rfl) (fun _ _ _ h => h) (Or.inl ⟨by rfl, ?_⟩) (by assumption) ?_
  rotate_left
  · intro w hSw
    try dsimp only at hSw
    obtain ⟨k0, k1, k2, k3, k4, k5, k6, k7, k8, k9, k10, k11⟩ := hSw
    go_simp
    all_goals with_reducible rfl
  try simp only [Act.put, List.setIfInBounds_toArray, List.set_cons_zero, List.set_cons_succ]
  refine wpAnyH_take (i := 12) (oi := { dst := some 68, op := Go.Op.move (Go.Operand.tmp 67), type := 4, pos := "law.go:143", after := #[{ on := 11, ground := Go.Ground.data }, { on := 7, ground := Go.Ground.chain }], guard := none }) (v := ?_) rfl (by kernel_rfl) (by kernel_rfl) (by kernel_rfl) (fun _ _ _ h => h) (Or.inl ⟨by rfl, ?_⟩) (by assumption) ?_
  rotate_left
  · intro w hSw
    try dsimp only at hSw
    obtain ⟨k0, k1, k2, k3, k4, k5, k6, k7, k8, k9, k10, k11⟩ := hSw
    go_simp
    all_goals with_reducible rfl
  try simp only [Act.put, List.setIfInBounds_toArray, List.set_cons_zero, List.set_cons_succ]
  refine wpAnyH_take (i := 13) (oi := { dst := some 69, op := Go.Op.move (Go.Operand.tmp 7), type := 23, pos := "law.go:143", after := #[{ on := 12, ground := Go.Ground.guard }], guard := some (12, true) }) (v := ?_) rfl (by kernel_rfl) (by kernel_rfl) (by kernel_rfl) (fun _ _ _ h => h) (Or.inl ⟨by rfl, ?_⟩) (by assumption) ?_
  rotate_left
  · intro w hSw
    try dsimp only at hSw
    obtain ⟨k0, k1, k2, k3, k4, k5, k6, k7, k8, k9, k10, k11⟩ := hSw
    go_simp
    all_goals with_reducible rfl
  try simp only [Act.put, List.setIfInBounds_toArray, List.set_cons_zero, List.set_cons_succ]
  refine wpAnyH_ready (rs := [14]) (by kernel_rfl) (by simp) ?_
  refine AllReadyH.cons (o := { dst := some 70, op := Go.Op.call { callee := Go.Callee.value (Go.Operand.func 18), args := #[Go.Operand.tmp 69, Go.Operand.const (Go.Value.int Go.IntKind.i64 0), Go.Operand.const (Go.Value.int Go.IntKind.i64 0), Go.Operand.const (Go.Value.int Go.IntKind.u32 1)], argTypes := #[23, 3, 3, 32] }, type := 45, pos := "law.go:143", after := #[{ on := 13, ground := Go.Ground.data }, { on := 12, ground := Go.Ground.chain }, { on := 12, ground := Go.Ground.guard }], guard := some (12, true) }) rfl (fun K hK => ?_) ?_
  · go_simp
    refine ((E1 _ _ _ HKS.out).out).mono ?_
    rintro e y1 ⟨rfl, hk, hw⟩
    have HKS := Lib.hid hk
    have HBS := Lib.hid (HBS.out.trans (hw.below HBS.out.size))
    have HXS := Lib.hid (HXS.out.bk hw)
    have s1 := HXS.out.cells
    clear hk hw
    go_wp2_with fail
    refine hK.out _ _ ?_ (fun hH => ?_)
    · exact s1
    clear hK K
    try simp only [Act.put, List.setIfInBounds_toArray, List.set_cons_zero, List.set_cons_succ]
    refine wpAnyH_take (i := 15) (oi := { dst := some 71, op := Go.Op.binOp Go.BinOp.eql 45 (Go.Operand.tmp 70) (Go.Operand.const (Go.Value.int Go.IntKind.i64 12)) 45, type := 4, pos := "law.go:143", after := #[{ on := 14, ground := Go.Ground.data }, { on := 12, ground := Go.Ground.guard }], guard := some (12, true) }) (v := ?_) rfl (by kernel_rfl) (by kernel_rfl) (by kernel_rfl) (fun _ _ _ h => h) (Or.inl ⟨by rfl, ?_⟩) (by assumption) ?_
    rotate_left
    · intro w hSw
      try dsimp only at hSw
      obtain ⟨k0, k1, k2, k3, k4, k5, k6, k7, k8, k9, k10, k11⟩ := hSw
      go_simp
      all_goals with_reducible rfl
    try simp only [Act.put, List.setIfInBounds_toArray, List.set_cons_zero, List.set_cons_succ]
    refine wpAnyH_take (i := 16) (oi := { dst := some 72, op := Go.Op.pick (Go.Operand.tmp 68) (Go.Operand.tmp 71) (Go.Operand.const (Go.Value.bool false)), type := 4, pos := "law.go:143", after := #[{ on := 12, ground := Go.Ground.data }, { on := 15, ground := Go.Ground.data }], guard := none }) (v := ?_) rfl (by kernel_rfl) (by kernel_rfl) (by kernel_rfl) (fun _ _ _ h => h) (Or.inl ⟨by rfl, ?_⟩) (by assumption) ?_
    rotate_left
    · intro w hSw
      try dsimp only at hSw
      obtain ⟨k0, k1, k2, k3, k4, k5, k6, k7, k8, k9, k10, k11⟩ := hSw
      go_simp
      all_goals with_reducible rfl
    try simp only [Act.put, List.setIfInBounds_toArray, List.set_cons_zero, List.set_cons_succ]
    refine wpAnyH_take (i := 17) (oi := { dst := some 73, op := Go.Op.move (Go.Operand.tmp 72), type := 4, pos := "law.go:143", after := #[{ on := 16, ground := Go.Ground.data }, { on := 14, ground := Go.Ground.chain }], guard := none }) (v := ?_) rfl (by kernel_rfl) (by kernel_rfl) (by kernel_rfl) (fun _ _ _ h => h) (Or.inl ⟨by rfl, ?_⟩) (by assumption) ?_
    rotate_left
    · intro w hSw
      try dsimp only at hSw
      obtain ⟨k0, k1, k2, k3, k4, k5, k6, k7, k8, k9, k10, k11⟩ := hSw
      go_simp
      all_goals with_reducible rfl
    try simp only [Act.put, List.setIfInBounds_toArray, List.set_cons_zero, List.set_cons_succ]
    refine wpAnyH_take (i := 18) (oi := { dst := some 74, op := Go.Op.move (Go.Operand.tmp 7), type := 23, pos := "law.go:143", after := #[{ on := 17, ground := Go.Ground.guard }], guard := some (17, true) }) (v := ?_) rfl (by kernel_rfl) (by kernel_rfl) (by kernel_rfl) (fun _ _ _ h => h) (Or.inl ⟨by rfl, ?_⟩) (by assumption) ?_
    rotate_left
    · intro w hSw
      try dsimp only at hSw
      obtain ⟨k0, k1, k2, k3, k4, k5, k6, k7, k8, k9, k10, k11⟩ := hSw
      go_simp
      all_goals with_reducible rfl
    try simp only [Act.put, List.setIfInBounds_toArray, List.set_cons_zero, List.set_cons_succ]
    refine wpAnyH_ready (rs := [19]) (by kernel_rfl) (by simp) ?_
    refine AllReadyH.cons (o := { dst := some 75, op := Go.Op.call { callee := Go.Callee.value (Go.Operand.func 18), args := #[Go.Operand.tmp 74, Go.Operand.const (Go.Value.int Go.IntKind.i64 2), Go.Operand.const (Go.Value.int Go.IntKind.i64 0), Go.Operand.const (Go.Value.int Go.IntKind.u32 1)], argTypes := #[23, 3, 3, 32] }, type := 45, pos := "law.go:143", after := #[{ on := 18, ground := Go.Ground.data }, { on := 17, ground := Go.Ground.chain }, { on := 17, ground := Go.Ground.guard }], guard := some (17, true) }) rfl (fun K hK => ?_) ?_
    · go_simp
      refine ((E2 _ _ _ HKS.out).out).mono ?_
      rintro e y2 ⟨rfl, hk, hw⟩
      have HKS := Lib.hid hk
      have HBS := Lib.hid (HBS.out.trans (hw.below HBS.out.size))
      have HXS := Lib.hid (HXS.out.bk hw)
      have s2 := HXS.out.cells
      clear hk hw
      go_wp2_with fail
      refine hK.out _ _ ?_ (fun hH => ?_)
      · exact s2
      clear hK K
      try simp only [Act.put, List.setIfInBounds_toArray, List.set_cons_zero, List.set_cons_succ]
      refine wpAnyH_take (i := 20) (oi := { dst := some 76, op := Go.Op.binOp Go.BinOp.eql 45 (Go.Operand.tmp 75) (Go.Operand.const (Go.Value.int Go.IntKind.i64 12)) 45, type := 4, pos := "law.go:143", after := #[{ on := 19, ground := Go.Ground.data }, { on := 17, ground := Go.Ground.guard }], guard := some (17, true) }) (v := ?_) rfl (by kernel_rfl) (by kernel_rfl) (by kernel_rfl) (fun _ _ _ h => h) (Or.inl ⟨by rfl, ?_⟩) (by assumption) ?_
      rotate_left
      · intro w hSw
        try dsimp only at hSw
        obtain ⟨k0, k1, k2, k3, k4, k5, k6, k7, k8, k9, k10, k11⟩ := hSw
        go_simp
        all_goals with_reducible rfl
      try simp only [Act.put, List.setIfInBounds_toArray, List.set_cons_zero, List.set_cons_succ]
      refine wpAnyH_take (i := 21) (oi := { dst := some 77, op := Go.Op.pick (Go.Operand.tmp 73) (Go.Operand.tmp 76) (Go.Operand.const (Go.Value.bool false)), type := 4, pos := "law.go:143", after := #[{ on := 17, ground := Go.Ground.data }, { on := 20, ground := Go.Ground.data }], guard := none }) (v := ?_) rfl (by kernel_rfl) (by kernel_rfl) (by kernel_rfl) (fun _ _ _ h => h) (Or.inl ⟨by rfl, ?_⟩) (by assumption) ?_
      rotate_left
      · intro w hSw
        try dsimp only at hSw
        obtain ⟨k0, k1, k2, k3, k4, k5, k6, k7, k8, k9, k10, k11⟩ := hSw
        go_simp
        all_goals with_reducible rfl
      try simp only [Act.put, List.setIfInBounds_toArray, List.set_cons_zero, List.set_cons_succ]
      refine wpAnyH_take (i := 22) (oi := { dst := some 78, op := Go.Op.move (Go.Operand.tmp 77), type := 4, pos := "law.go:143", after := #[{ on := 21, ground := Go.Ground.data }, { on := 19, ground := Go.Ground.chain }], guard := none }) (v := ?_) rfl (by kernel_rfl) (by kernel_rfl) (by kernel_rfl) (fun _ _ _ h => h) (Or.inl ⟨by rfl, ?_⟩) (by assumption) ?_
      rotate_left
      · intro w hSw
        try dsimp only at hSw
        obtain ⟨k0, k1, k2, k3, k4, k5, k6, k7, k8, k9, k10, k11⟩ := hSw
        go_simp
        all_goals with_reducible rfl
      try simp only [Act.put, List.setIfInBounds_toArray, List.set_cons_zero, List.set_cons_succ]
      refine wpAnyH_take (i := 23) (oi := { dst := some 79, op := Go.Op.move (Go.Operand.tmp 7), type := 23, pos := "law.go:143", after := #[{ on := 22, ground := Go.Ground.guard }], guard := some (22, true) }) (v := ?_) rfl (by kernel_rfl) (by kernel_rfl) (by kernel_rfl) (fun _ _ _ h => h) (Or.inl ⟨by rfl, ?_⟩) (by assumption) ?_
      rotate_left
      · intro w hSw
        try dsimp only at hSw
        obtain ⟨k0, k1, k2, k3, k4, k5, k6, k7, k8, k9, k10, k11⟩ := hSw
        go_simp
        all_goals with_reducible rfl
      try simp only [Act.put, List.setIfInBounds_toArray, List.set_cons_zero, List.set_cons_succ]
      refine wpAnyH_take (i := 24) (oi := { dst := some 80, op := Go.Op.move (Go.Operand.tmp 1), type := 3, pos := "law.go:143", after := #[{ on := 22, ground := Go.Ground.guard }], guard := some (22, true) }) (v := ?_) rfl (by kernel_rfl) (by kernel_rfl) (by kernel_rfl) (fun _ _ _ h => h) (Or.inl ⟨by rfl, ?_⟩) (by assumption) ?_
      rotate_left
      · intro w hSw
        try dsimp only at hSw
        obtain ⟨k0, k1, k2, k3, k4, k5, k6, k7, k8, k9, k10, k11⟩ := hSw
        go_simp
        all_goals with_reducible rfl
      try simp only [Act.put, List.setIfInBounds_toArray, List.set_cons_zero, List.set_cons_succ]
      refine wpAnyH_take (i := 25) (oi := { dst := some 81, op := Go.Op.move (Go.Operand.tmp 2), type := 32, pos := "law.go:143", after := #[{ on := 22, ground := Go.Ground.guard }], guard := some (22, true) }) (v := ?_) rfl (by kernel_rfl) (by kernel_rfl) (by kernel_rfl) (fun _ _ _ h => h) (Or.inl ⟨by rfl, ?_⟩) (by assumption) ?_
      rotate_left
      · intro w hSw
        try dsimp only at hSw
        obtain ⟨k0, k1, k2, k3, k4, k5, k6, k7, k8, k9, k10, k11⟩ := hSw
        go_simp
        all_goals with_reducible rfl
      try simp only [Act.put, List.setIfInBounds_toArray, List.set_cons_zero, List.set_cons_succ]
      refine wpAnyH_ready (rs := [26]) (by kernel_rfl) (by simp) ?_
      refine AllReadyH.cons (o := { dst := some 82, op := Go.Op.call { callee := Go.Callee.value (Go.Operand.func 18), args := #[Go.Operand.tmp 79, Go.Operand.const (Go.Value.int Go.IntKind.i64 1), Go.Operand.tmp 80, Go.Operand.tmp 81], argTypes := #[23, 3, 3, 32] }, type := 45, pos := "law.go:143", after := #[{ on := 23, ground := Go.Ground.data }, { on := 24, ground := Go.Ground.data }, { on := 25, ground := Go.Ground.data }, { on := 22, ground := Go.Ground.chain }, { on := 22, ground := Go.Ground.guard }], guard := some (22, true) }) rfl (fun K hK => ?_) ?_
      · go_simp
        refine ((E3 _ _ _ HKS.out).out).mono ?_
        rintro e y3 ⟨rfl, hk, hw⟩
        have HKS := Lib.hid hk
        have HBS := Lib.hid (HBS.out.trans (hw.below HBS.out.size))
        have HXS := Lib.hid (HXS.out.bk hw)
        have s3 := HXS.out.cells
        clear hk hw
        go_wp2_with fail
        refine hK.out _ _ ?_ (fun hH => ?_)
        · exact s3
        clear hK K
        try simp only [Act.put, List.setIfInBounds_toArray, List.set_cons_zero, List.set_cons_succ]
        refine wpAnyH_take (i := 27) (oi := { dst := some 83, op := Go.Op.binOp Go.BinOp.eql 45 (Go.Operand.tmp 82) (Go.Operand.const (Go.Value.int Go.IntKind.i64 0)) 45, type := 4, pos := "law.go:143", after := #[{ on := 26, ground := Go.Ground.data }, { on := 22, ground := Go.Ground.guard }], guard := some (22, true) }) (v := ?_) rfl (by kernel_rfl) (by kernel_rfl) (by kernel_rfl) (fun _ _ _ h => h) (Or.inl ⟨by rfl, ?_⟩) (by assumption) ?_
        rotate_left
        · intro w hSw
          try dsimp only at hSw
          obtain ⟨k0, k1, k2, k3, k4, k5, k6, k7, k8, k9, k10, k11⟩ := hSw
          go_simp
          all_goals with_reducible rfl
        try simp only [Act.put, List.setIfInBounds_toArray, List.set_cons_zero, List.set_cons_succ]
        refine wpAnyH_take (i := 28) (oi := { dst := some 84, op := Go.Op.pick (Go.Operand.tmp 78) (Go.Operand.tmp 83) (Go.Operand.const (Go.Value.bool false)), type := 4, pos := "law.go:143", after := #[{ on := 22, ground := Go.Ground.data }, { on := 27, ground := Go.Ground.data }], guard := none }) (v := ?_) rfl (by kernel_rfl) (by kernel_rfl) (by kernel_rfl) (fun _ _ _ h => h) (Or.inl ⟨by rfl, ?_⟩) (by assumption) ?_
        rotate_left
        · intro w hSw
          try dsimp only at hSw
          obtain ⟨k0, k1, k2, k3, k4, k5, k6, k7, k8, k9, k10, k11⟩ := hSw
          go_simp
          all_goals with_reducible rfl
        try simp only [Act.put, List.setIfInBounds_toArray, List.set_cons_zero, List.set_cons_succ]
        refine wpAnyH_take (i := 29) (oi := { dst := some 85, op := Go.Op.move (Go.Operand.tmp 84), type := 4, pos := "law.go:143", after := #[{ on := 28, ground := Go.Ground.data }, { on := 26, ground := Go.Ground.chain }], guard := none }) (v := ?_) rfl (by kernel_rfl) (by kernel_rfl) (by kernel_rfl) (fun _ _ _ h => h) (Or.inl ⟨by rfl, ?_⟩) (by assumption) ?_
        rotate_left
        · intro w hSw
          try dsimp only at hSw
          obtain ⟨k0, k1, k2, k3, k4, k5, k6, k7, k8, k9, k10, k11⟩ := hSw
          go_simp
          all_goals with_reducible rfl
        try simp only [Act.put, List.setIfInBounds_toArray, List.set_cons_zero, List.set_cons_succ]
        refine wpAnyH_take (i := 30) (oi := { dst := some 86, op := Go.Op.move (Go.Operand.tmp 7), type := 23, pos := "law.go:143", after := #[{ on := 29, ground := Go.Ground.guard }], guard := some (29, true) }) (v := ?_) rfl (by kernel_rfl) (by kernel_rfl) (by kernel_rfl) (fun _ _ _ h => h) (Or.inl ⟨by rfl, ?_⟩) (by assumption) ?_
        rotate_left
        · intro w hSw
          try dsimp only at hSw
          obtain ⟨k0, k1, k2, k3, k4, k5, k6, k7, k8, k9, k10, k11⟩ := hSw
          go_simp
          all_goals with_reducible rfl
        try simp only [Act.put, List.setIfInBounds_toArray, List.set_cons_zero, List.set_cons_succ]
        refine wpAnyH_take (i := 32) (oi := { dst := some 88, op := Go.Op.load 39 (Go.Operand.tmp 9), type := 39, pos := "law.go:143", after := #[{ on := 29, ground := Go.Ground.guard }], guard := some (29, true) }) (v := ?_) rfl (by kernel_rfl) (by kernel_rfl) (by kernel_rfl) (fun _ _ _ h => h) (Or.inl ⟨by rfl, ?_⟩) (by assumption) ?_
        rotate_left
        · intro w hSw
          try dsimp only at hSw
          obtain ⟨k0, k1, k2, k3, k4, k5, k6, k7, k8, k9, k10, k11⟩ := hSw
          go_simp
          all_goals with_reducible rfl
        try simp only [Act.put, List.setIfInBounds_toArray, List.set_cons_zero, List.set_cons_succ]
        refine wpAnyH_ready (rs := [31]) (by kernel_rfl) (by simp) ?_
        refine AllReadyH.cons (o := { dst := some 87, op := Go.Op.call { callee := Go.Callee.value (Go.Operand.func 19), args := #[Go.Operand.tmp 86], argTypes := #[23] }, type := 39, pos := "law.go:143", after := #[{ on := 30, ground := Go.Ground.data }, { on := 29, ground := Go.Ground.chain }, { on := 29, ground := Go.Ground.guard }], guard := some (29, true) }) rfl (fun K hK => ?_) ?_
        · go_simp
          refine (E4 _ _ _ HKS.out).out.mono ?_
          rintro e y4 ⟨rfl, hb⟩
          have HBS := Lib.hid (HBS.out.trans (hb.mono HBS.out.size))
          have HXS := Lib.hid (HXS.out.below hb)
          have s4 := HXS.out.cells
          clear hb
          go_wp2_with fail
          refine hK.out _ _ ?_ (fun hH => ?_)
          · exact s4
          clear hK K
          try simp only [Act.put, List.setIfInBounds_toArray, List.set_cons_zero, List.set_cons_succ]
          refine wpAnyH_take (i := 33) (oi := { dst := some 89, op := Go.Op.binOp Go.BinOp.eql 39 (Go.Operand.tmp 87) (Go.Operand.tmp 88) 39, type := 4, pos := "law.go:143", after := #[{ on := 31, ground := Go.Ground.data }, { on := 32, ground := Go.Ground.data }, { on := 29, ground := Go.Ground.guard }], guard := some (29, true) }) (v := ?_) rfl (by kernel_rfl) (by kernel_rfl) (by kernel_rfl) (fun _ _ _ h => h) (Or.inl ⟨by rfl, ?_⟩) (by assumption) ?_
          rotate_left
          · intro w hSw
            try dsimp only at hSw
            obtain ⟨k0, k1, k2, k3, k4, k5, k6, k7, k8, k9, k10, k11⟩ := hSw
            go_simp
            all_goals with_reducible rfl
          try simp only [Act.put, List.setIfInBounds_toArray, List.set_cons_zero, List.set_cons_succ]
          refine wpAnyH_take (i := 34) (oi := { dst := some 90, op := Go.Op.pick (Go.Operand.tmp 85) (Go.Operand.tmp 89) (Go.Operand.const (Go.Value.bool false)), type := 4, pos := "law.go:143", after := #[{ on := 29, ground := Go.Ground.data }, { on := 33, ground := Go.Ground.data }], guard := none }) (v := ?_) rfl (by kernel_rfl) (by kernel_rfl) (by kernel_rfl) (fun _ _ _ h => h) (Or.inl ⟨by rfl, ?_⟩) (by assumption) ?_
          rotate_left
          · intro w hSw
            try dsimp only at hSw
            obtain ⟨k0, k1, k2, k3, k4, k5, k6, k7, k8, k9, k10, k11⟩ := hSw
            go_simp
            all_goals with_reducible rfl
          try simp only [Act.put, List.setIfInBounds_toArray, List.set_cons_zero, List.set_cons_succ]
          refine wpAnyH_take (i := 35) (oi := { dst := some 6, op := Go.Op.assign (Go.Operand.tmp 90), type := 4, pos := "law.go:143", after := #[{ on := 34, ground := Go.Ground.data }, { on := 31, ground := Go.Ground.chain }, { on := 0, ground := Go.Ground.phase }, { on := 1, ground := Go.Ground.phase }, { on := 2, ground := Go.Ground.phase }, { on := 3, ground := Go.Ground.phase }, { on := 4, ground := Go.Ground.phase }, { on := 5, ground := Go.Ground.phase }, { on := 6, ground := Go.Ground.phase }, { on := 7, ground := Go.Ground.phase }, { on := 8, ground := Go.Ground.phase }, { on := 9, ground := Go.Ground.phase }, { on := 10, ground := Go.Ground.phase }, { on := 11, ground := Go.Ground.phase }, { on := 12, ground := Go.Ground.phase }, { on := 13, ground := Go.Ground.phase }, { on := 14, ground := Go.Ground.phase }, { on := 15, ground := Go.Ground.phase }, { on := 16, ground := Go.Ground.phase }, { on := 17, ground := Go.Ground.phase }, { on := 18, ground := Go.Ground.phase }, { on := 19, ground := Go.Ground.phase }, { on := 20, ground := Go.Ground.phase }, { on := 21, ground := Go.Ground.phase }, { on := 22, ground := Go.Ground.phase }, { on := 23, ground := Go.Ground.phase }, { on := 24, ground := Go.Ground.phase }, { on := 25, ground := Go.Ground.phase }, { on := 26, ground := Go.Ground.phase }, { on := 27, ground := Go.Ground.phase }, { on := 28, ground := Go.Ground.phase }, { on := 29, ground := Go.Ground.phase }, { on := 30, ground := Go.Ground.phase }, { on := 31, ground := Go.Ground.phase }, { on := 32, ground := Go.Ground.phase }, { on := 33, ground := Go.Ground.phase }, { on := 34, ground := Go.Ground.phase }], guard := none }) (v := ?_) rfl (by kernel_rfl) (by kernel_rfl) (by kernel_rfl) (fun _ _ _ h => h) (Or.inl ⟨by rfl, ?_⟩) (by assumption) ?_
          rotate_left
          · intro w hSw
            try dsimp only at hSw
            obtain ⟨k0, k1, k2, k3, k4, k5, k6, k7, k8, k9, k10, k11⟩ := hSw
            go_simp
            all_goals with_reducible rfl
          try simp only [Act.put, List.setIfInBounds_toArray, List.set_cons_zero, List.set_cons_succ]
          refine wpAnyH_done (by kernel_rfl) ?_ _
          clear s0 s1 s2 s3 s4
          go_wp2
          go_ret
          exact ⟨rfl, HBS.out⟩
        exact AllReadyH.nil
      exact AllReadyH.nil
    exact AllReadyH.nil
  exact AllReadyH.nil
end Go.Proofs.Ytjnjpphbclepbaa
