/- The document's Spoil. -/
import Derived.Test.YtjnjpphbclepbaaHB
namespace Go.Proofs.Ytjnjpphbclepbaa
open Go Go.RowKit
set_option maxRecDepth 20000
theorem RowP.put {B : Nat} {w : World} {g n c : Nat} {l : List Pkt} (h : RowP B w (.slice (some ⟨g, 0, none⟩) n c) l) (hn : n = l.length) {k r : Nat} (hk : k < l.length) (hr : r < 3) (v : Value) (f : Pkt) (hf : c4P f = (c4P (l.getD k pk0)).set r v) :
    RowP B (w.setCell ⟨g, k * 3 + r, none⟩ v) (.slice (some ⟨g, 0, none⟩) n c) (l.set k f) := by
  subst hn
  have h2 := (World.ownsRow.stored h (k * 3 + r) v).1
  rw [flP_set l k r hk hr v f hf] at h2
  unfold RowP
  rw [List.length_set]
  exact h2
theorem RowB.put {B : Nat} {w : World} {g n c : Nat} {l : List Bool} (h : RowB B w (.slice (some ⟨g, 0, none⟩) n c) l) (hn : n = l.length) {k : Nat} (hk : k < l.length) (f : Bool) :
    RowB B (w.setCell ⟨g, k, none⟩ (.bool f)) (.slice (some ⟨g, 0, none⟩) n c) (l.set k f) := by
  subst hn
  have h2 := (World.ownsRow.stored h (k * 1 + 0) (.bool f)).1
  rw [flB_set l k 0 hk (by decide) (.bool f) f rfl, Nat.mul_one, Nat.add_zero] at h2
  unfold RowB
  rw [List.length_set]
  exact h2
/-- Where the mask lies outside the text nothing turns. -/
theorem flN_out {bit : Int} {m : Nat} {l : List UInt8} (h : bit < -32 ∨ 8 * (l.length : Int) ≤ bit) : ∀ k, k ≤ 32 → flN bit m k l = l
  | 0, _ => rfl
  | k + 1, hk => by
    rw [fl_no, flN_out h k (by omega)]
    rintro ⟨_, h2, h3⟩
    omega
theorem flp_out {s : ByteArray} {bit : Int} {m : Nat} (h : bit < -32 ∨ 8 * (s.size : Int) ≤ bit) : flp s bit m = s := by
  have hl : (s.data.toList.length : Int) = (s.size : Int) := congrArg Int.ofNat (show s.data.toList.length = s.data.size from Array.length_toList)
  unfold flp
  rw [flN_out (by rw [hl]; exact h) 32 (Nat.le_refl _)]
section
variable {B b : Nat} {v u : Value} {ps : List Pkt} {ms : List Bool}
set_option maxHeartbeats 1600000 in
theorem dspoil_none (i : Int) (hi : ¬ (0 ≤ i ∧ i < (ps.length : Int))) (bit m : Int) (w : World) (h : Bd B w b v u ps ms) : Calls Try.prog 23 #[.pointer (some ⟨b, 0, none⟩), .int .i64 i, .int .i64 bit, .int .u32 m] w fun x w' => x = .returned (.int .i64 11) ∧ w' = w := by
  have HH := fun W hW => Lib.hid (there_any (B := B) (b := b) (v := v) (u := u) (ps := ps) (ms := ms) i false (by simpa using hi) W hW)
  have HQ := Lib.hid h
  clear h hi
  go_enter Try.func23, Try.ntmps23
  go_wp2_with fail
  refine (HH _ HQ.out).out.mono ?_
  rintro e w1 ⟨rfl, hw⟩
  obtain rfl := hw.symm
  go_wp2
  go_ret
  exact ⟨rfl, rfl⟩
set_option maxHeartbeats 1600000 in
theorem dspoil_twice (k : Nat) (hk : k < ps.length) (hms : ms.length = ps.length) (hm : ms.getD k bo0 = true) (bit m : Int) (w : World) (h : Bd B w b v u ps ms) : Calls Try.prog 23 #[.pointer (some ⟨b, 0, none⟩), .int .i64 (k : Int), .int .i64 bit, .int .u32 m] w fun x w' => x = .returned (.int .i64 12) ∧ w' = w := by
  have HH := fun W hW => Lib.hid (there_any (B := B) (b := b) (v := v) (u := u) (ps := ps) (ms := ms) (k : Int) true (by simp; omega) W hW)
  have HQ := Lib.hid h
  obtain ⟨a, c, rfl, hx, _⟩ := h.mks.is
  obtain ⟨g, off, rfl, _, hf⟩ := hx.lies (by omega)
  have x0 := (hf k (by omega)).m
  rw [hm] at x0
  simp only [Nat.mul_one] at x0
  have c1 := h.c1
  rw [hms] at c1
  generalize ps.length = n at *
  clear h hf hm hx
  go_enter Try.func23, Try.ntmps23
  go_wp2_with fail
  refine (HH _ HQ.out).out.mono ?_
  rintro e w1 ⟨rfl, hw⟩
  obtain rfl := hw.symm
  go_wp2
  go_ret
  exact ⟨rfl, rfl⟩
set_option maxHeartbeats 8000000 in
theorem dspoil_flip (k : Nat) (hk : k < ps.length) (hlen : ps.length ≤ 4096) (hms : ms.length = ps.length) (hm : ms.getD k bo0 = false) (pf pt : Int) (pd : ByteArray) (hp : ps.getD k pk0 = (pf, pt, pd)) (hsz : pd.size ≤ 1000) (bit : Int) (m : Nat) (hm32 : m < 4294967296) (b1 : -32 ≤ bit) (b2 : bit < 8 * (pd.size : Int)) (w : World) (h : Bd B w b v u ps ms) :
    Calls Try.prog 23 #[.pointer (some ⟨b, 0, none⟩), .int .i64 (k : Int), .int .i64 bit, .int .u32 (m : Int)] w fun x w' => x = .returned (.int .i64 0) ∧ (∃ v' u', Bd B w' b v' u' (ps.set k (pf, pt, (flp pd bit m))) (ms.set k true)) ∧ w.grownBy w' (some b) := by
  have HH := fun W hW => Lib.hid (there_any (B := B) (b := b) (v := v) (u := u) (ps := ps) (ms := ms) (k : Int) true (by simp; omega) W hW)
  have HQ0 := Lib.hid h
  obtain ⟨n, hn⟩ : ∃ n, ps.length = n := ⟨_, rfl⟩
  obtain ⟨a, c, rfl, hx, hcx⟩ := h.row.is
  obtain ⟨a', c', rfl, hy, hcy⟩ := h.mks.is
  obtain ⟨g2, off2, rfl, _, hf⟩ := hy.lies (by omega)
  have x0 := (hf k (by omega)).m
  rw [hm] at x0
  simp only [Nat.mul_one] at x0
  rw [hms] at hy hcy
  have hq := h
  rw [hms] at hq
  rw [hn] at hq hx hcx hy hcy hk hlen hms
  have HX := Lib.hid hx
  have HC := Lib.hid hcx
  have HY := Lib.hid hy
  have HCY := Lib.hid hcy
  have HQ := Lib.hid hq
  have HN := Lib.hid hn
  have HMS := Lib.hid hms
  have HP := Lib.hid hp
  have HK := Lib.hid hk
  have HLE := Lib.hid hlen
  have HGB : Hid (∀ g (w4 : World) v4, Below w.heap.size w w4 → RowP w.heap.size w4 v4 ps → v4.ownBlock = some g → g ≠ b) := Lib.hid fun g w4 v4 hb hr he => by
    have h1 := (hr.lt g he).1
    have h2 := HQ0.out.lt
    omega
  have c1 := HQ.out.c1
  have ck1 : (w.alloc (.cells #[] 39)).cell? ⟨b, 0, none⟩ = some (.slice a n c) := (HQ.out.next (Joins.below_alloc1 _ _)).c0
  have HFL := fun w => Lib.hid (dflip_any pd hsz bit b1 (by omega) m hm32 w)
  generalize flp pd bit m = pd' at *
  have q1 : decide (-32 ≤ bit) = true := by simpa using b1
  clear h hx hcx hy hcy hq hn hms hp hf hm
  go_enter Try.func23, Try.ntmps23
  go_wp2_with fail
  refine (HH _ HQ0.out).out.mono ?_
  rintro e w1 ⟨rfl, hw⟩
  obtain rfl := hw.symm
  clear HH
  go_wp2_with (at_builtin; refine wpList_appP0 rfl (.tmp 22) (.tmp 26) rfl rfl a n c rfl ps HX.out HC.out.1 HC.out.2 (by have := HLE.out; omega) ?_)
  intro a1 c1' w4 hr4 hb4
  obtain ⟨g, rfl⟩ := hr4.spot (by omega)
  have hgb := HGB.out g w4 _ hb4 hr4 rfl
  have hf4 := (hr4.isP HN.out.symm).1
  obtain ⟨g', off', e', hgl, hf5⟩ := hf4.lies (by omega)
  obtain ⟨rfl, rfl⟩ : g = g' ∧ 0 = off' := by cases e'; exact ⟨rfl, rfl⟩
  have hfk := hf5 k HK.out
  rw [HP.out] at hfk
  have y2 := hfk.d
  simp only [Nat.zero_add] at y2
  have hglo : w.heap.size ≤ g := (hr4.lt g rfl).1
  have HR4 := Lib.hid hr4
  have HB4 := Lib.hid hb4
  clear hf4 hf5 hfk e' hr4 hb4 ck1 c1 x0
  go_wp2_with fail
  refine (HFL _).out.mono ?_
  rintro e w5 ⟨rfl, hb5⟩
  have hr5 := HR4.out.below hb5
  have hb45 := Below.next HB4.out hb5
  obtain ⟨g', off', e', _, hf5⟩ := (hr5.isP HN.out.symm).1.lies (by omega)
  obtain ⟨rfl, rfl⟩ : g = g' ∧ 0 = off' := by cases e'; exact ⟨rfl, rfl⟩
  have hfk := hf5 k HK.out
  rw [HP.out] at hfk
  have z2 := hfk.d
  simp only [Nat.zero_add] at z2
  have zf : w5.frozen? ⟨g, k * 3 + 2, none⟩ = false := by
    obtain ⟨cur, hc⟩ := hr5.typ g rfl
    exact unfrozen_at hc _
  have HB6 : Hid (Below w.heap.size w (w5.setCell ⟨g, k * 3 + 2, none⟩ (.string pd'))) := Lib.hid (hb45.setCell hglo _)
  have HR6 : Hid (RowP w.heap.size (w5.setCell ⟨g, k * 3 + 2, none⟩ (.string pd')) (.slice (some ⟨g, 0, none⟩) n c1') (ps.set k (pf, pt, pd'))) := Lib.hid (hr5.put HN.out.symm (by rw [HN.out]; exact HK.out) (by decide) _ _ (by rw [HP.out]; rfl))
  have e0 := (HQ.out.next HB6.out).c0
  have ef := (HQ.out.next HB6.out).f0 0
  clear hr5 hb45 e' hf5 hfk hb5 HR4 HB4
  go_upto_region 9 with fail
  have h7 := bd_put0 HQ.out HB6.out HR6.out
  generalize (w5.setCell ⟨g, k * 3 + 2, none⟩ (.string pd')).setCell ⟨b, 0, none⟩ (.slice (some ⟨g, 0, none⟩) n c1') = w7 at *
  have HQ7 := Lib.hid h7.1
  have HG7 := Lib.hid h7.2
  have hyy := (h7.1.mks.isB HMS.out.symm).1
  have HYY := Lib.hid hyy
  have ck7 : (w7.alloc (.cells #[] 4)).cell? ⟨b, 1, none⟩ = some (.slice (some ⟨g2, off2, none⟩) n c') := (HQ7.out.next (Joins.below_alloc1 _ _)).c1
  clear h7 hyy e0 ef z2 zf y2 HFL HB6 HR6
  go_wp2_with (at_builtin; refine wpList_appB0 rfl (.tmp 57) (.tmp 61) rfl rfl (some ⟨g2, off2, none⟩) n c' rfl ms HYY.out HCY.out.1 HCY.out.2 (by have := HLE.out; omega) ?_)
  intro a8 c8 w8 hr8 hb8
  obtain ⟨g3, rfl⟩ := hr8.spot (by omega)
  obtain ⟨g', off', e', hgl3, hf8⟩ := (hr8.isB HMS.out.symm).1.lies (by omega)
  obtain ⟨rfl, rfl⟩ : g3 = g' ∧ 0 = off' := by cases e'; exact ⟨rfl, rfl⟩
  have s0 := (hf8 k HK.out).m
  simp only [Nat.zero_add, Nat.mul_one] at s0
  have sf : w8.frozen? ⟨g3, k, none⟩ = false := by
    obtain ⟨cur, hc⟩ := hr8.typ g3 rfl
    exact unfrozen_at hc _
  have hg3 : w7.heap.size ≤ g3 := (hr8.lt g3 rfl).1
  have HB9 : Hid (Below w7.heap.size w7 (w8.setCell ⟨g3, k, none⟩ (.bool true))) := Lib.hid (hb8.setCell hg3 _)
  have HR9 : Hid (RowB w7.heap.size (w8.setCell ⟨g3, k, none⟩ (.bool true)) (.slice (some ⟨g3, 0, none⟩) n c8) (ms.set k true)) := Lib.hid (hr8.put HMS.out.symm (by rw [HMS.out]; exact HK.out) true)
  have t1 := (HQ7.out.next HB9.out).c1
  have tf := (HQ7.out.next HB9.out).f0 1
  have HFIN := Lib.hid (bd_put1 HQ7.out HB9.out HR9.out)
  have HGF := Lib.hid (World.grownBy.trans HG7.out HFIN.out.2)
  clear hr8 hb8 e' hf8 ck7
  go_wp2
  go_ret
  exact ⟨rfl, ⟨_, _, HFIN.out.1⟩, HGF.out⟩
set_option maxHeartbeats 8000000 in
theorem dspoil_low (k : Nat) (hk : k < ps.length) (hlen : ps.length ≤ 4096) (hms : ms.length = ps.length) (hm : ms.getD k bo0 = false) (pf pt : Int) (pd : ByteArray) (hp : ps.getD k pk0 = (pf, pt, pd)) (bit : Int) (m : Nat) (b1 : ¬ -32 ≤ bit) (w : World) (h : Bd B w b v u ps ms) :
    Calls Try.prog 23 #[.pointer (some ⟨b, 0, none⟩), .int .i64 (k : Int), .int .i64 bit, .int .u32 (m : Int)] w fun x w' => x = .returned (.int .i64 0) ∧ (∃ v' u', Bd B w' b v' u' (ps.set k (pf, pt, pd)) (ms.set k true)) ∧ w.grownBy w' (some b) := by
  have HH := fun W hW => Lib.hid (there_any (B := B) (b := b) (v := v) (u := u) (ps := ps) (ms := ms) (k : Int) true (by simp; omega) W hW)
  have HQ0 := Lib.hid h
  obtain ⟨n, hn⟩ : ∃ n, ps.length = n := ⟨_, rfl⟩
  obtain ⟨a, c, rfl, hx, hcx⟩ := h.row.is
  obtain ⟨a', c', rfl, hy, hcy⟩ := h.mks.is
  obtain ⟨g2, off2, rfl, _, hf⟩ := hy.lies (by omega)
  have x0 := (hf k (by omega)).m
  rw [hm] at x0
  simp only [Nat.mul_one] at x0
  rw [hms] at hy hcy
  have hq := h
  rw [hms] at hq
  rw [hn] at hq hx hcx hy hcy hk hlen hms
  have HX := Lib.hid hx
  have HC := Lib.hid hcx
  have HY := Lib.hid hy
  have HCY := Lib.hid hcy
  have HQ := Lib.hid hq
  have HN := Lib.hid hn
  have HMS := Lib.hid hms
  have HP := Lib.hid hp
  have HK := Lib.hid hk
  have HLE := Lib.hid hlen
  have HGB : Hid (∀ g (w4 : World) v4, Below w.heap.size w w4 → RowP w.heap.size w4 v4 ps → v4.ownBlock = some g → g ≠ b) := Lib.hid fun g w4 v4 hb hr he => by
    have h1 := (hr.lt g he).1
    have h2 := HQ0.out.lt
    omega
  have c1 := HQ.out.c1
  have ck1 : (w.alloc (.cells #[] 39)).cell? ⟨b, 0, none⟩ = some (.slice a n c) := (HQ.out.next (Joins.below_alloc1 _ _)).c0
  have q1 : decide (-32 ≤ bit) = false := by simpa using b1
  clear h hx hcx hy hcy hq hn hms hp hf hm
  go_enter Try.func23, Try.ntmps23
  go_wp2_with fail
  refine (HH _ HQ0.out).out.mono ?_
  rintro e w1 ⟨rfl, hw⟩
  obtain rfl := hw.symm
  clear HH
  go_wp2_with (at_builtin; refine wpList_appP0 rfl (.tmp 22) (.tmp 26) rfl rfl a n c rfl ps HX.out HC.out.1 HC.out.2 (by have := HLE.out; omega) ?_)
  intro a1 c1' w4 hr4 hb4
  obtain ⟨g, rfl⟩ := hr4.spot (by omega)
  have hgb := HGB.out g w4 _ hb4 hr4 rfl
  have hf4 := (hr4.isP HN.out.symm).1
  obtain ⟨g', off', e', hgl, hf5⟩ := hf4.lies (by omega)
  obtain ⟨rfl, rfl⟩ : g = g' ∧ 0 = off' := by cases e'; exact ⟨rfl, rfl⟩
  have hfk := hf5 k HK.out
  rw [HP.out] at hfk
  have y2 := hfk.d
  simp only [Nat.zero_add] at y2
  have hglo : w.heap.size ≤ g := (hr4.lt g rfl).1
  have HB6 := Lib.hid hb4
  have e0 := (HQ.out.next HB6.out).c0
  have ef := (HQ.out.next HB6.out).f0 0
  have HR6 : Hid (RowP w.heap.size w4 (.slice (some ⟨g, 0, none⟩) n c1') (ps.set k (pf, pt, pd))) := Lib.hid (by
    have e : ps.set k (pf, pt, pd) = ps := by
      rw [← HP.out]
      apply List.ext_getElem?
      intro j
      have := HN.out
      have := HK.out
      by_cases hj : k = j
      · subst hj
        simp [List.getD_eq_getElem?_getD, show k < ps.length by omega]
      · simp [List.getElem?_set_ne hj]
    rw [e]; exact hr4)
  clear hf4 hf5 hfk e' hr4 hb4 ck1 c1 x0
  go_upto_region 9 with fail
  have h7 := bd_put0 HQ.out HB6.out HR6.out
  generalize w4.setCell ⟨b, 0, none⟩ (.slice (some ⟨g, 0, none⟩) n c1') = w7 at *
  have HQ7 := Lib.hid h7.1
  have HG7 := Lib.hid h7.2
  have hyy := (h7.1.mks.isB HMS.out.symm).1
  have HYY := Lib.hid hyy
  have ck7 : (w7.alloc (.cells #[] 4)).cell? ⟨b, 1, none⟩ = some (.slice (some ⟨g2, off2, none⟩) n c') := (HQ7.out.next (Joins.below_alloc1 _ _)).c1
  clear h7 hyy e0 ef y2 HB6 HR6
  go_wp2_with (at_builtin; refine wpList_appB0 rfl (.tmp 57) (.tmp 61) rfl rfl (some ⟨g2, off2, none⟩) n c' rfl ms HYY.out HCY.out.1 HCY.out.2 (by have := HLE.out; omega) ?_)
  intro a8 c8 w8 hr8 hb8
  obtain ⟨g3, rfl⟩ := hr8.spot (by omega)
  obtain ⟨g', off', e', hgl3, hf8⟩ := (hr8.isB HMS.out.symm).1.lies (by omega)
  obtain ⟨rfl, rfl⟩ : g3 = g' ∧ 0 = off' := by cases e'; exact ⟨rfl, rfl⟩
  have s0 := (hf8 k HK.out).m
  simp only [Nat.zero_add, Nat.mul_one] at s0
  have sf : w8.frozen? ⟨g3, k, none⟩ = false := by
    obtain ⟨cur, hc⟩ := hr8.typ g3 rfl
    exact unfrozen_at hc _
  have hg3 : w7.heap.size ≤ g3 := (hr8.lt g3 rfl).1
  have HB9 : Hid (Below w7.heap.size w7 (w8.setCell ⟨g3, k, none⟩ (.bool true))) := Lib.hid (hb8.setCell hg3 _)
  have HR9 : Hid (RowB w7.heap.size (w8.setCell ⟨g3, k, none⟩ (.bool true)) (.slice (some ⟨g3, 0, none⟩) n c8) (ms.set k true)) := Lib.hid (hr8.put HMS.out.symm (by rw [HMS.out]; exact HK.out) true)
  have t1 := (HQ7.out.next HB9.out).c1
  have tf := (HQ7.out.next HB9.out).f0 1
  have HFIN := Lib.hid (bd_put1 HQ7.out HB9.out HR9.out)
  have HGF := Lib.hid (World.grownBy.trans HG7.out HFIN.out.2)
  clear hr8 hb8 e' hf8 ck7
  go_wp2
  go_ret
  exact ⟨rfl, ⟨_, _, HFIN.out.1⟩, HGF.out⟩
set_option maxHeartbeats 8000000 in
theorem dspoil_high (k : Nat) (hk : k < ps.length) (hlen : ps.length ≤ 4096) (hms : ms.length = ps.length) (hm : ms.getD k bo0 = false) (pf pt : Int) (pd : ByteArray) (hp : ps.getD k pk0 = (pf, pt, pd)) (hsz : pd.size ≤ 1000) (bit : Int) (m : Nat) (b1 : -32 ≤ bit) (b2 : ¬ bit < 8 * (pd.size : Int)) (w : World) (h : Bd B w b v u ps ms) :
    Calls Try.prog 23 #[.pointer (some ⟨b, 0, none⟩), .int .i64 (k : Int), .int .i64 bit, .int .u32 (m : Int)] w fun x w' => x = .returned (.int .i64 0) ∧ (∃ v' u', Bd B w' b v' u' (ps.set k (pf, pt, pd)) (ms.set k true)) ∧ w.grownBy w' (some b) := by
  have HH := fun W hW => Lib.hid (there_any (B := B) (b := b) (v := v) (u := u) (ps := ps) (ms := ms) (k : Int) true (by simp; omega) W hW)
  have HQ0 := Lib.hid h
  obtain ⟨n, hn⟩ : ∃ n, ps.length = n := ⟨_, rfl⟩
  obtain ⟨a, c, rfl, hx, hcx⟩ := h.row.is
  obtain ⟨a', c', rfl, hy, hcy⟩ := h.mks.is
  obtain ⟨g2, off2, rfl, _, hf⟩ := hy.lies (by omega)
  have x0 := (hf k (by omega)).m
  rw [hm] at x0
  simp only [Nat.mul_one] at x0
  rw [hms] at hy hcy
  have hq := h
  rw [hms] at hq
  rw [hn] at hq hx hcx hy hcy hk hlen hms
  have HX := Lib.hid hx
  have HC := Lib.hid hcx
  have HY := Lib.hid hy
  have HCY := Lib.hid hcy
  have HQ := Lib.hid hq
  have HN := Lib.hid hn
  have HMS := Lib.hid hms
  have HP := Lib.hid hp
  have HK := Lib.hid hk
  have HLE := Lib.hid hlen
  have HGB : Hid (∀ g (w4 : World) v4, Below w.heap.size w w4 → RowP w.heap.size w4 v4 ps → v4.ownBlock = some g → g ≠ b) := Lib.hid fun g w4 v4 hb hr he => by
    have h1 := (hr.lt g he).1
    have h2 := HQ0.out.lt
    omega
  have c1 := HQ.out.c1
  have ck1 : (w.alloc (.cells #[] 39)).cell? ⟨b, 0, none⟩ = some (.slice a n c) := (HQ.out.next (Joins.below_alloc1 _ _)).c0
  have q1 : decide (-32 ≤ bit) = true := by simpa using b1
  clear h hx hcx hy hcy hq hn hms hp hf hm
  go_enter Try.func23, Try.ntmps23
  go_wp2_with fail
  refine (HH _ HQ0.out).out.mono ?_
  rintro e w1 ⟨rfl, hw⟩
  obtain rfl := hw.symm
  clear HH
  go_wp2_with (at_builtin; refine wpList_appP0 rfl (.tmp 22) (.tmp 26) rfl rfl a n c rfl ps HX.out HC.out.1 HC.out.2 (by have := HLE.out; omega) ?_)
  intro a1 c1' w4 hr4 hb4
  obtain ⟨g, rfl⟩ := hr4.spot (by omega)
  have hgb := HGB.out g w4 _ hb4 hr4 rfl
  have hf4 := (hr4.isP HN.out.symm).1
  obtain ⟨g', off', e', hgl, hf5⟩ := hf4.lies (by omega)
  obtain ⟨rfl, rfl⟩ : g = g' ∧ 0 = off' := by cases e'; exact ⟨rfl, rfl⟩
  have hfk := hf5 k HK.out
  rw [HP.out] at hfk
  have y2 := hfk.d
  simp only [Nat.zero_add] at y2
  have hglo : w.heap.size ≤ g := (hr4.lt g rfl).1
  have HB6 := Lib.hid hb4
  have e0 := (HQ.out.next HB6.out).c0
  have ef := (HQ.out.next HB6.out).f0 0
  have HR6 : Hid (RowP w.heap.size w4 (.slice (some ⟨g, 0, none⟩) n c1') (ps.set k (pf, pt, pd))) := Lib.hid (by
    have e : ps.set k (pf, pt, pd) = ps := by
      rw [← HP.out]
      apply List.ext_getElem?
      intro j
      have := HN.out
      have := HK.out
      by_cases hj : k = j
      · subst hj
        simp [List.getD_eq_getElem?_getD, show k < ps.length by omega]
      · simp [List.getElem?_set_ne hj]
    rw [e]; exact hr4)
  clear hf4 hf5 hfk e' hr4 hb4 ck1 c1 x0
  go_upto_region 9 with fail
  have h7 := bd_put0 HQ.out HB6.out HR6.out
  generalize w4.setCell ⟨b, 0, none⟩ (.slice (some ⟨g, 0, none⟩) n c1') = w7 at *
  have HQ7 := Lib.hid h7.1
  have HG7 := Lib.hid h7.2
  have hyy := (h7.1.mks.isB HMS.out.symm).1
  have HYY := Lib.hid hyy
  have ck7 : (w7.alloc (.cells #[] 4)).cell? ⟨b, 1, none⟩ = some (.slice (some ⟨g2, off2, none⟩) n c') := (HQ7.out.next (Joins.below_alloc1 _ _)).c1
  clear h7 hyy e0 ef y2 HB6 HR6
  go_wp2_with (at_builtin; refine wpList_appB0 rfl (.tmp 57) (.tmp 61) rfl rfl (some ⟨g2, off2, none⟩) n c' rfl ms HYY.out HCY.out.1 HCY.out.2 (by have := HLE.out; omega) ?_)
  intro a8 c8 w8 hr8 hb8
  obtain ⟨g3, rfl⟩ := hr8.spot (by omega)
  obtain ⟨g', off', e', hgl3, hf8⟩ := (hr8.isB HMS.out.symm).1.lies (by omega)
  obtain ⟨rfl, rfl⟩ : g3 = g' ∧ 0 = off' := by cases e'; exact ⟨rfl, rfl⟩
  have s0 := (hf8 k HK.out).m
  simp only [Nat.zero_add, Nat.mul_one] at s0
  have sf : w8.frozen? ⟨g3, k, none⟩ = false := by
    obtain ⟨cur, hc⟩ := hr8.typ g3 rfl
    exact unfrozen_at hc _
  have hg3 : w7.heap.size ≤ g3 := (hr8.lt g3 rfl).1
  have HB9 : Hid (Below w7.heap.size w7 (w8.setCell ⟨g3, k, none⟩ (.bool true))) := Lib.hid (hb8.setCell hg3 _)
  have HR9 : Hid (RowB w7.heap.size (w8.setCell ⟨g3, k, none⟩ (.bool true)) (.slice (some ⟨g3, 0, none⟩) n c8) (ms.set k true)) := Lib.hid (hr8.put HMS.out.symm (by rw [HMS.out]; exact HK.out) true)
  have t1 := (HQ7.out.next HB9.out).c1
  have tf := (HQ7.out.next HB9.out).f0 1
  have HFIN := Lib.hid (bd_put1 HQ7.out HB9.out HR9.out)
  have HGF := Lib.hid (World.grownBy.trans HG7.out HFIN.out.2)
  clear hr8 hb8 e' hf8 ck7
  go_wp2
  go_ret
  exact ⟨rfl, ⟨_, _, HFIN.out.1⟩, HGF.out⟩
end
end Go.Proofs.Ytjnjpphbclepbaa
