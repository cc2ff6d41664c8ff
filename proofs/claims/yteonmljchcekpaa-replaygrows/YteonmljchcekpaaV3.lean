/- All: the loop over updates. -/
import Derived.Test.YteonmljchcekpaaV2
import Derived.Test.YteonmljchcekpaaVC
import Derived.Deep.RegionWith
namespace Go.Proofs.Yteonmljchcekpaa
open Go Go.RowKit
def up0 : Up := (emp, 0, 0, emp)
/-- From the place off of block b on lie these updates. -/
structure Us (w : World) (b off : Nat) (us : List Up) : Prop where
  key : ∀ i, i < us.length → w.cell? ⟨b, off + i * 4, none⟩ = some (.string (us.getD i up0).1)
  k : ∀ i, i < us.length → w.cell? ⟨b, off + i * 4 + 1, none⟩ = some (.int .i64 (us.getD i up0).2.1)
  n : ∀ i, i < us.length → w.cell? ⟨b, off + i * 4 + 2, none⟩ = some (.int .i64 (us.getD i up0).2.2.1)
  t : ∀ i, i < us.length → w.cell? ⟨b, off + i * 4 + 3, none⟩ = some (.string (us.getD i up0).2.2.2)
theorem Us.lt {w b off us} (h : Us w b off us) (h0 : 0 < us.length) : b < w.heap.size := block_lt_of_cell (h.k 0 h0)
/-- What the walk is told of updates. -/
structure IsUs (w : World) (a : Option Addr) (len : Nat) (us : List Up) : Prop where
  size : us.length = len
  lies : 0 < len → ∃ b off, a = some ⟨b, off, none⟩ ∧ Us w b off us
theorem Us.below {w w' : World} {B b off : Nat} {us : List Up} (hf : Us w b off us) (hb : Below B w w') (hl : b < B) : Us w' b off us :=
  ⟨fun i hi => (hb.cell hl).trans (hf.key i hi), fun i hi => (hb.cell hl).trans (hf.k i hi), fun i hi => (hb.cell hl).trans (hf.n i hi), fun i hi => (hb.cell hl).trans (hf.t i hi)⟩
theorem isUs_below {w w' : World} {B : Nat} {a : Option Addr} {len : Nat} {us : List Up} (h : IsUs w a len us) (hb : Below B w w') (hB : w.heap.size ≤ B := by exact Nat.le_refl _) : IsUs w' a len us :=
  ⟨h.size, fun h0 => by
    obtain ⟨b, off, e, hf⟩ := h.lies h0
    have hl := hf.lt (by rw [h.size]; exact h0)
    exact ⟨b, off, e, hf.below hb (by omega)⟩⟩
/-- A value lies in block b. -/
def Vb (w : World) (b : Nat) (v : Vl) : Prop := w.heap[b]? = some (.cells #[.int .i64 v.1, .int .i64 v.2.1, .string v.2.2] 27 (0, 0))
/-- An update lies in block b. -/
def Ub (w : World) (b : Nat) (u : Up) : Prop := w.heap[b]? = some (.cells #[.string u.1, .int .i64 u.2.1, .int .i64 u.2.2.1, .string u.2.2.2] 42 (0, 0))
theorem Vb.below {w w' : World} {B b v} (h : Vb w b v) (hb : Below B w w') (hl : b < B) : Vb w' b v := (hb.block b hl).trans h
theorem Ub.below {w w' : World} {B b v} (h : Ub w b v) (hb : Below B w w') (hl : b < B) : Ub w' b v := (hb.block b hl).trans h
theorem Vb.lt {w : World} {b v} (h : Vb w b v) : b < w.heap.size := (Array.getElem?_eq_some_iff.1 h).1
theorem Vb.other {w : World} {b b' v} (h : Vb w b v) (hne : b ≠ b') (x0 x1 x2 : Value) : Vb (((w.setCell ⟨b', 0, none⟩ x0).setCell ⟨b', 1, none⟩ x1).setCell ⟨b', 2, none⟩ x2) b v := by
  unfold Vb
  rw [Below.heap_setCell _ _ _ _ hne, Below.heap_setCell _ _ _ _ hne, Below.heap_setCell _ _ _ _ hne]
  exact h
theorem Vb.set {w : World} {b v} (h : Vb w b v) (k n : Int) (s : ByteArray) : Vb (((w.setCell ⟨b, 0, none⟩ (.int .i64 k)).setCell ⟨b, 1, none⟩ (.int .i64 n)).setCell ⟨b, 2, none⟩ (.string s)) b (k, n, s) := by
  unfold Vb at *; simp [World.setCell, Array.getElem?_modify, h]
theorem Vb.kept {w0 W w1 : World} {b v} (h : Vb w0 b v) (hb : Below W.heap.size W w1) (he : W.heap = w0.heap) : Vb w1 b v :=
  (hb.block b (by rw [he]; exact h.lt)).trans (by rw [he]; exact h)
theorem Ub.lt {w : World} {b v} (h : Ub w b v) : b < w.heap.size := (Array.getElem?_eq_some_iff.1 h).1
theorem Ub.kept {w0 W w1 : World} {b v} (h : Ub w0 b v) (hb : Below W.heap.size W w1) (he : W.heap = w0.heap) : Ub w1 b v :=
  (hb.block b (by rw [he]; exact h.lt)).trans (by rw [he]; exact h)
theorem Vb.alloc {w : World} {b v} (h : Vb w b v) (o : Obj) : Vb (w.alloc o) b v := (Below.heap_alloc _ _ _ h.lt).trans h
theorem arm1 {w wr w1 : World} {v x : Vl} {key : ByteArray} {ux um : Int} {ut : ByteArray} {b r : Nat} (hv : Vb wr b v) (hr : Vb wr r x) (hbel : Below w.heap.size w wr)
    (hb1 : Below (wr.alloc (.cells #[.string key, .int .i64 ux, .int .i64 um, .string ut] 42)).drew.heap.size (wr.alloc (.cells #[.string key, .int .i64 ux, .int .i64 um, .string ut] 42)).drew w1) :
    Vb w1 b v ∧ Vb w1 r x ∧ Ub w1 wr.heap.size (key, ux, um, ut) ∧ Below w.heap.size w w1 := by
  have hs : (wr.alloc (.cells #[.string key, .int .i64 ux, .int .i64 um, .string ut] 42)).drew.heap.size = wr.heap.size + 1 := by simp
  refine ⟨(hv.alloc _).kept hb1 rfl, (hr.alloc _).kept hb1 rfl, Ub.kept (heap_alloc_new wr _) hb1 rfl, ?_⟩
  have := hbel.size
  exact ((hbel.alloc hbel.size _).drew).trans (hb1.mono (by rw [hs]; omega))
theorem arm2 {w w1 w2 : World} {v x : Vl} {b r : Nat} (hv : Vb w1 b v) (hr : Vb w1 r x) (hbel : Below w.heap.size w w1) (hb2 : Below w1.heap.size w1 w2) :
    Vb w2 b v ∧ Vb w2 r x ∧ Below w.heap.size w w2 :=
  ⟨hv.kept hb2 rfl, hr.kept hb2 rfl, hbel.trans (hb2.mono hbel.size)⟩
set_option maxHeartbeats 4000000 in
theorem all_any (v : Vl) (a : Option Addr) (len cap : Nat) (us : List Up) (hv : Sh v.2.2) (hu : ∀ u ∈ us, Sh u.2.2.2) (hl : len ≤ 1000) (w : World) (h : IsUs w a len us) :
    Calls Try.prog 47 #[vv v, .slice a len cap] w fun e w' => e = .returned (vv (allV v us)) ∧ Below w.heap.size w w' := by
  have H := Lib.hid h
  have HU := Lib.hid hu
  have HV := Lib.hid hv
  clear h hu hv
  obtain ⟨k0, n0, s0⟩ := v
  rw [vv_eq]
  go_enter Try.func47, Try.ntmps47
  go_wp2_with fail
  go_loopw [9] (fun v9 wr => ∃ k : Nat, k ≤ len ∧ v9 = .int .i64 k ∧ Vb wr w.heap.size (allV (k0, n0, s0) (us.take k)) ∧ Vb wr (w.heap.size + 1) (0, 0, ⟨#[]⟩) ∧ Below w.heap.size w wr) (fun v9 _ => len - (intOf v9).toNat)
  case atStart =>
    refine ⟨0, Nat.zero_le _, rfl, ?_, ?_, Joins.below_alloc2 _ _ _⟩
    · exact (Below.heap_alloc _ _ _ (by simp)).trans (heap_alloc_new _ _)
    · have e := heap_alloc_new (w.alloc (.cells #[.int .i64 k0, .int .i64 n0, .string s0] 27)) (.cells #[.int .i64 0, .int .i64 0, .string ⟨#[]⟩] 27)
      have hs : (w.alloc (.cells #[.int .i64 k0, .int .i64 n0, .string s0] 27)).heap.size = w.heap.size + 1 := by simp
      rw [hs] at e
      exact e
  case round =>
    obtain ⟨k, hk, rfl, hvb, hrb, hbel⟩ := hrel
    have hH : w.heap.size + 1 < wr.heap.size := hrb.lt
    have hvs : Sh (allV (k0, n0, s0) (us.take k)).2.2 := allV_sh _ (fun u hx => HU.out u (List.mem_of_mem_take hx)) _ HV.out
    by_cases hlt : k < len
    · have hfl := H.out.size
      have HNX := Lib.hid (allV_step (k0, n0, s0) us k (by omega) up0)
      have hus : Sh (us.getD k up0).2.2.2 := HU.out _ (by
        have hkl : k < us.length := by omega
        have e : us.getD k up0 = us[k] := by simp [List.getD_eq_getElem?_getD, hkl]
        rw [e]; exact List.getElem_mem _)
      have HBA := fun w => Lib.hid (bare_any (allV (k0, n0, s0) (us.take k)) w)
      have HMA := fun w => Lib.hid (made_any (bareV (allV (k0, n0, s0) (us.take k))) (us.getD k up0) (bare_sh _ hvs) hus w)
      obtain ⟨b, off, rfl, hf⟩ := H.out.lies (by omega)
      have hb := hf.lt (by omega)
      have c0 : wr.cell? ⟨b, off + k * 4, none⟩ = some (.string (us.getD k up0).1) := (hbel.cell hb).trans (hf.key k (by omega))
      have c1 : wr.cell? ⟨b, off + k * 4 + 1, none⟩ = some (.int .i64 (us.getD k up0).2.1) := (hbel.cell hb).trans (hf.k k (by omega))
      have c2 : wr.cell? ⟨b, off + k * 4 + 2, none⟩ = some (.int .i64 (us.getD k up0).2.2.1) := (hbel.cell hb).trans (hf.n k (by omega))
      have c3 : wr.cell? ⟨b, off + k * 4 + 3, none⟩ = some (.string (us.getD k up0).2.2.2) := (hbel.cell hb).trans (hf.t k (by omega))
      clear hf hb hfl hvs hus H
      have hone : oneV (allV (k0, n0, s0) (us.take k)) (us.getD k up0) = madeV (bareV (allV (k0, n0, s0) (us.take k))) (us.getD k up0) := rfl
      rw [hone] at HNX
      clear hone
      generalize madeV (bareV (allV (k0, n0, s0) (us.take k))) (us.getD k up0) = r at *
      generalize bareV (allV (k0, n0, s0) (us.take k)) = y at *
      generalize allV (k0, n0, s0) (us.take k) = v at *
      generalize us.getD k up0 = u at *
      obtain ⟨rk, rn, rs⟩ := r
      obtain ⟨yk, yn, ys⟩ := y
      obtain ⟨vk, vn, vs⟩ := v
      obtain ⟨key, ux, um, ut⟩ := u
      simp only [vv_eq, uu] at HBA HMA c0 c1 c2 c3
      have d0 := cell_at hvb 0 (.int .i64 vk) rfl
      have d1 := cell_at hvb 1 (.int .i64 vn) rfl
      have d2 := cell_at hvb 2 (.string vs) rfl
      have HVB := Lib.hid hvb
      have HRB := Lib.hid hrb
      have HBEL := Lib.hid hbel
      clear hvb hrb hbel
      have hH0 : w.heap.size < wr.heap.size := by omega
      go_wp2_with fail
      go_region_with (first
        | (go_at_call 60
           refine (HBA _).out.mono ?_
           rintro e w1 ⟨rfl, hb1⟩
           obtain ⟨hv1, hr1, hu1, hB1⟩ := arm1 HVB.out HRB.out HBEL.out hb1
           have e0 := cell_at hu1 0 (.string key) rfl
           have e1 := cell_at hu1 1 (.int .i64 ux) rfl
           have e2 := cell_at hu1 2 (.int .i64 um) rfl
           have e3 := cell_at hu1 3 (.string ut) rfl
           have HB1 := Lib.hid hB1
           have HV1 := Lib.hid hv1
           have HR1 := Lib.hid hr1
           clear hb1 hv1 hr1 hu1 hB1)
        | (go_at_call 59
           refine (HMA _).out.mono ?_
           rintro e w2 ⟨rfl, hb2⟩
           obtain ⟨hv2, hr2, hB2⟩ := arm2 HV1.out HR1.out HB1.out hb2
           have g0 := cell_at hv2 0 (.int .i64 vk) rfl
           have g1 := cell_at hv2 1 (.int .i64 vn) rfl
           have g2 := cell_at hv2 2 (.string vs) rfl
           have f0 := unfrozen_at hv2 0
           have f1 := unfrozen_at hv2 1
           have f2 := unfrozen_at hv2 2
           have HV2 := Lib.hid hv2
           have HR2 := Lib.hid hr2
           have HB2 := Lib.hid hB2
           clear hb2 hv2 hr2 hB2))
      all_goals (
        go_wp2_with fail
        go_roundw
        case rel =>
          refine ⟨k + 1, by omega, by go_num, ?_, HR2.out.other (by omega) _ _ _, below_set3 HB2.out (Nat.le_refl _) _ _ _⟩
          rw [HNX.out]; exact HV2.out.set _ _ _
        case measure => simp [intOf]; omega)
    · obtain rfl : k = len := by omega
      have e : us.take k = us := List.take_of_length_le (by rw [H.out.size]; exact Nat.le_refl _)
      rw [e] at hvb hvs
      clear e H HU HV
      obtain ⟨⟨rk, rn, rs⟩, HEQ⟩ : ∃ r, Hid (allV (k0, n0, s0) us = r) := ⟨_, Lib.hid rfl⟩
      rw [HEQ.out] at hvb hvs
      have d2 := cell_at hvb 2 (.string rs) rfl
      have HVB := Lib.hid hvb
      have HRB := Lib.hid hrb
      have HBEL := Lib.hid hbel
      have HC := fun w => Lib.hid (clone_any rs (by have : rs.size ≤ 100000 := hvs; omega) w)
      clear hvb hrb hbel hvs
      go_wp2_with fail
      refine (HC _).out.mono ?_
      rintro e w1 ⟨rfl, hb1⟩
      obtain ⟨hv2, hr2, hB2⟩ := arm2 HVB.out HRB.out HBEL.out hb1
      have g0 := cell_at hv2 0 (.int .i64 rk) rfl
      have g1 := cell_at hv2 1 (.int .i64 rn) rfl
      have g2 := cell_at hv2 2 (.string rs) rfl
      have f2 := unfrozen_at hv2 2
      have j0 := cell_at hr2 0 (.int .i64 0) rfl
      have j1 := cell_at hr2 1 (.int .i64 0) rfl
      have j2 := cell_at hr2 2 (.string ⟨#[]⟩) rfl
      have p0 := unfrozen_at hr2 0
      have p1 := unfrozen_at hr2 1
      have p2 := unfrozen_at hr2 2
      have HB2 := Lib.hid hB2
      clear hv2 hr2 hB2 hb1 HC HVB HRB HBEL d2
      go_wp2
      refine bodyPost_ret (v := .agg #[.int .i64 rk, .int .i64 rn, .string rs]) (by simp [results, Try.results47, go_sem, j0, j1, j2]) rfl ⟨by rw [HEQ.out]; rfl, ?_⟩
      exact below_set3 (HB2.out.setCell (Nat.le_refl _) _) (by omega) _ _ _
end Go.Proofs.Yteonmljchcekpaa
