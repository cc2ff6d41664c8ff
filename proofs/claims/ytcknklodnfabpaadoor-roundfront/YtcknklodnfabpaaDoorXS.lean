/- Rows of updates that are the same or not; Same, both. -/
import Derived.Test.YtcknklodnfabpaaDoorXD0
import Derived.Deep.QuietTactic
import Derived.BigQuiet
namespace Go.Proofs.YtcknklodnfabpaaDoor
open Go Go.RowKit
theorem eq_yes (s : ByteArray) : (s.toList == s.toList) = true := by simp
theorem eq_no {s t : ByteArray} (h : ¬ s = t) : (s.toList == t.toList) = false := by
  refine beq_false_of_ne fun e => h ?_
  rw [ByteArray.toList_eq, ByteArray.toList_eq] at e
  exact ByteArray.ext (Array.ext' e)
/-- Two rows that are not the same differ first at some place. -/
theorem first_diff : ∀ (us vs : List Up), us.length = vs.length → ¬ us = vs → ∃ i, i < us.length ∧ (∀ j, j < i → us.getD j up0 = vs.getD j up0) ∧ ¬ us.getD i up0 = vs.getD i up0
  | [], [], _, h => absurd rfl h
  | [], _ :: _, h, _ => by simp at h
  | _ :: _, [], h, _ => by simp at h
  | u :: us, v :: vs, hl, h => by
    by_cases he : u = v
    · subst he
      obtain ⟨i, h1, h2, h3⟩ := first_diff us vs (by simpa using hl) (fun e => h (by rw [e]))
      refine ⟨i + 1, by simpa using h1, fun j hj => ?_, h3⟩
      match j, hj with
      | 0, _ => rfl
      | j + 1, hj => exact h2 j (by omega)
    · exact ⟨0, by simp, fun j hj => absurd hj (by omega), he⟩
/-- The ways in which two updates differ. -/
theorem up_diff {u v : Up} (h : ¬ u = v) : ¬ u.1 = v.1 ∨ (u.1 = v.1 ∧ ¬ u.2.1 = v.2.1) ∨ (u.1 = v.1 ∧ u.2.1 = v.2.1 ∧ ¬ u.2.2.1 = v.2.2.1) ∨ (u.1 = v.1 ∧ u.2.1 = v.2.1 ∧ u.2.2.1 = v.2.2.1 ∧ ¬ u.2.2.2 = v.2.2.2) := by
  obtain ⟨a, b, c, d⟩ := u
  obtain ⟨a', b', c', d'⟩ := v
  simp only [Prod.mk.injEq] at h
  by_cases h1 : a = a'
  · by_cases h2 : b = b'
    · by_cases h3 : c = c'
      · exact .inr (.inr (.inr ⟨h1, h2, h3, fun h4 => h ⟨h1, h2, h3, h4⟩⟩))
      · exact .inr (.inr (.inl ⟨h1, h2, h3⟩))
    · exact .inr (.inl ⟨h1, h2⟩)
  · exact .inl h1
theorem belN {B : Nat} {w w' : World} (h : Below B w w') (n : Nat) : Below B w (w'.drewN n) := ⟨h.os, h.tape, h.output, h.size, h.block⟩
theorem Rb.drewN {w : World} {b : Nat} {o n : Int} {a : Option Addr} {len cap : Nat} (h : Rb w b o n a len cap) (k : Nat) : Rb (w.drewN k) b o n a len cap := h
set_option maxHeartbeats 2000000 in
theorem eqs_yes (a1 a2 : Option Addr) (len cap1 cap2 : Nat) (us : List Up) (hl : len ≤ 1000000) (w : World) (h1 : IsUs w a1 len us) (h2 : IsUs w a2 len us) :
    Calls Tryd.prog 41 #[.slice a1 len cap1, .slice a2 len cap2] w fun e w' => e = .returned (.bool true) ∧ Below w.heap.size w w' := by
  have H1 := Lib.hid h1
  have H2 := Lib.hid h2
  clear h1 h2
  go_enter Tryd.func41, Tryd.ntmps41
  go_wp2_with fail
  go_loopw [13] (fun v13 wr => ∃ k : Nat, k ≤ len ∧ v13 = .int .i64 k ∧ Below w.heap.size w wr) (fun v13 _ => len - (intOf v13).toNat)
  case atStart => exact ⟨0, Nat.zero_le _, rfl, Below.refl _ _⟩
  case round =>
    obtain ⟨k, hk, rfl, hbel⟩ := hrel
    by_cases hlt : k < len
    · obtain ⟨b1, off1, rfl, hb1, c0, c1, c2, c3⟩ := cells_of H1.out hbel hlt
      obtain ⟨b2, off2, rfl, hb2, d0, d1, d2, d3⟩ := cells_of H2.out hbel hlt
      have HBEL := Lib.hid hbel
      clear hbel hb1 hb2
      generalize us.getD k up0 = u at *
      obtain ⟨uk, ux, un, ut⟩ := u
      have qk := eq_yes uk
      have qt := eq_yes ut
      simp only at c0 c1 c2 c3 d0 d1 d2 d3
      go_wp2_with fail
      go_quiet (fail)
      go_wp2
      go_roundw
      case rel => exact ⟨k + 1, by omega, by go_num, belN HBEL.out _⟩
      case measure => simp [intOf]; omega
    · obtain rfl : k = len := by omega
      have HBEL := Lib.hid hbel
      clear hbel
      go_wp2
      go_ret
      exact ⟨rfl, HBEL.out⟩
set_option maxHeartbeats 4000000 in
theorem eqs_no (a1 a2 : Option Addr) (len cap1 cap2 : Nat) (us vs : List Up) (hne : ¬ us = vs) (hl : len ≤ 1000000) (w : World) (h1 : IsUs w a1 len us) (h2 : IsUs w a2 len vs) :
    Calls Tryd.prog 41 #[.slice a1 len cap1, .slice a2 len cap2] w fun e w' => e = .returned (.bool false) ∧ Below w.heap.size w w' := by
  obtain ⟨i, hi, hj, hdi⟩ := first_diff us vs (by rw [h1.size, h2.size]) hne
  have hil : i < len := by have := h1.size; omega
  have H1 := Lib.hid h1
  have H2 := Lib.hid h2
  have HJ := Lib.hid hj
  have HDI := Lib.hid hdi
  clear h1 h2 hne hj hdi hi
  go_enter Tryd.func41, Tryd.ntmps41
  go_wp2_with fail
  go_loopw [13] (fun v13 wr => ∃ k : Nat, k ≤ i ∧ v13 = .int .i64 k ∧ Below w.heap.size w wr) (fun v13 _ => len - (intOf v13).toNat)
  case atStart => exact ⟨0, Nat.zero_le _, rfl, Below.refl _ _⟩
  case round =>
    obtain ⟨k, hk, rfl, hbel⟩ := hrel
    have hlt : k < len := by omega
    obtain ⟨b1, off1, rfl, hb1, c0, c1, c2, c3⟩ := cells_of H1.out hbel hlt
    obtain ⟨b2, off2, rfl, hb2, d0, d1, d2, d3⟩ := cells_of H2.out hbel hlt
    by_cases hki : k < i
    · rw [← HJ.out k hki] at d0 d1 d2 d3
      have HBEL := Lib.hid hbel
      clear hbel hb1 hb2
      generalize us.getD k up0 = u at *
      obtain ⟨uk, ux, un, ut⟩ := u
      have qk := eq_yes uk
      have qt := eq_yes ut
      simp only at c0 c1 c2 c3 d0 d1 d2 d3
      go_wp2_with fail
      go_quiet (fail)
      go_wp2
      go_roundw
      case rel => exact ⟨k + 1, by omega, by go_num, belN HBEL.out _⟩
      case measure => simp [intOf]; omega
    · obtain rfl : k = i := by omega
      have HD : Hid (¬ us.getD k up0 = vs.getD k up0) := HDI.out
      clear HDI HJ
      have HBEL := Lib.hid hbel
      have hd := up_diff HD.out
      clear hbel hb1 hb2 HD
      generalize us.getD k up0 = u at *
      generalize vs.getD k up0 = v at *
      obtain ⟨uk, ux, un, ut⟩ := u
      obtain ⟨vk, vx, vn, vt⟩ := v
      simp only at c0 c1 c2 c3 d0 d1 d2 d3 hd
      rcases hd with hk | ⟨ek, hx⟩ | ⟨ek, ex, hn⟩ | ⟨ek, ex, en, ht⟩
      · have qk := eq_no hk
        go_wp2_with fail
        go_quiet (fail)
        go_wp2
        go_ret
        exact ⟨rfl, belN HBEL.out _⟩
      · obtain rfl := ek
        have qk := eq_yes uk
        have qx : (ux == vx) = false := by rw [beq_eq_false_iff_ne]; exact hx
        go_wp2_with fail
        go_quiet (fail)
        go_wp2
        go_ret
        exact ⟨rfl, belN HBEL.out _⟩
      · obtain rfl := ek
        obtain rfl := ex
        have qk := eq_yes uk
        have qn : (un == vn) = false := by rw [beq_eq_false_iff_ne]; exact hn
        go_wp2_with fail
        go_quiet (fail)
        go_wp2
        go_ret
        exact ⟨rfl, belN HBEL.out _⟩
      · obtain rfl := ek
        obtain rfl := ex
        obtain rfl := en
        have qk := eq_yes uk
        have qt := eq_no ht
        go_wp2_with fail
        go_quiet (fail)
        go_wp2
        go_ret
        exact ⟨rfl, belN HBEL.out _⟩
set_option maxHeartbeats 1000000 in
theorem eqs_len (a1 a2 : Option Addr) (l1 l2 cap1 cap2 : Nat) (hl : ¬ l1 = l2) (w : World) :
    Calls Tryd.prog 41 #[.slice a1 l1 cap1, .slice a2 l2 cap2] w fun e w' => e = .returned (.bool false) ∧ Below w.heap.size w w' := by
  have q : ((l1 : Int) == (l2 : Int)) = false := by rw [beq_eq_false_iff_ne]; omega
  clear hl
  go_enter Tryd.func41, Tryd.ntmps41
  go_wp2
  go_ret
  exact ⟨rfl, Below.refl _ _⟩
theorem eqs_any (a1 a2 : Option Addr) (l1 l2 cap1 cap2 : Nat) (us vs : List Up) (hl : l1 ≤ 1000000) (w : World) (h1 : IsUs w a1 l1 us) (h2 : IsUs w a2 l2 vs) :
    Calls Tryd.prog 41 #[.slice a1 l1 cap1, .slice a2 l2 cap2] w fun e w' => e = .returned (.bool (decide (us = vs))) ∧ Below w.heap.size w w' := by
  by_cases hll : l1 = l2
  · subst hll
    by_cases he : us = vs
    · subst he
      rw [decide_eq_true rfl]
      exact eqs_yes a1 a2 l1 cap1 cap2 us hl w h1 h2
    · rw [decide_eq_false he]
      exact eqs_no a1 a2 l1 cap1 cap2 us vs he hl w h1 h2
  · rw [decide_eq_false (fun e => hll (by rw [← h1.size, ← h2.size, e]))]
    exact eqs_len a1 a2 l1 l2 cap1 cap2 hll w
/-- Two rounds in two new blocks. -/
theorem two_rounds (w : World) (o1 n1 : Int) (a1 : Option Addr) (l1 c1 : Nat) (o2 n2 : Int) (a2 : Option Addr) (l2 c2 : Nat) :
    Rb ((w.alloc (.cells #[.int .i64 o1, .int .i64 n1, .slice a1 l1 c1] 24)).alloc (.cells #[.int .i64 o2, .int .i64 n2, .slice a2 l2 c2] 24)) w.heap.size o1 n1 a1 l1 c1 ∧
    Rb ((w.alloc (.cells #[.int .i64 o1, .int .i64 n1, .slice a1 l1 c1] 24)).alloc (.cells #[.int .i64 o2, .int .i64 n2, .slice a2 l2 c2] 24)) (w.heap.size + 1) o2 n2 a2 l2 c2 := by
  refine ⟨(Rb.new w o1 n1 a1 l1 c1).alloc _, ?_⟩
  have h := Rb.new (w.alloc (.cells #[.int .i64 o1, .int .i64 n1, .slice a1 l1 c1] 24)) o2 n2 a2 l2 c2
  rw [show (w.alloc (.cells #[.int .i64 o1, .int .i64 n1, .slice a1 l1 c1] 24)).heap.size = w.heap.size + 1 by simp] at h
  exact h
set_option maxHeartbeats 1000000 in
theorem sm_o (o1 n1 : Int) (a1 : Option Addr) (l1 cap1 : Nat) (o2 n2 : Int) (a2 : Option Addr) (l2 cap2 : Nat) (h1 : ¬ o1 = o2) (w : World) :
    Calls Tryd.prog 23 #[.agg #[.int .i64 o1, .int .i64 n1, .slice a1 l1 cap1], .agg #[.int .i64 o2, .int .i64 n2, .slice a2 l2 cap2]] w fun e w' => e = .returned (.bool false) ∧ Below w.heap.size w w' := by
  obtain ⟨r1, r2⟩ := two_rounds w o1 n1 a1 l1 cap1 o2 n2 a2 l2 cap2
  have p0 := r1.c0
  have p1 := r1.c1
  have p2 := r1.c2
  have s0 := r2.c0
  have s1 := r2.c1
  have s2 := r2.c2
  have hB := Joins.below_alloc2 w (.cells #[.int .i64 o1, .int .i64 n1, .slice a1 l1 cap1] 24) (.cells #[.int .i64 o2, .int .i64 n2, .slice a2 l2 cap2] 24)
  have HB := Lib.hid hB
  have qo : (o1 == o2) = false := by rw [beq_eq_false_iff_ne]; exact h1
  clear r1 r2 hB
  go_enter Tryd.func23, Tryd.ntmps23
  go_wp2
  go_ret
  exact ⟨rfl, HB.out⟩
set_option maxHeartbeats 1000000 in
theorem sm_n (o1 n1 : Int) (a1 : Option Addr) (l1 cap1 : Nat) (o2 n2 : Int) (a2 : Option Addr) (l2 cap2 : Nat) (h1 : o1 = o2) (h2 : ¬ n1 = n2) (w : World) :
    Calls Tryd.prog 23 #[.agg #[.int .i64 o1, .int .i64 n1, .slice a1 l1 cap1], .agg #[.int .i64 o2, .int .i64 n2, .slice a2 l2 cap2]] w fun e w' => e = .returned (.bool false) ∧ Below w.heap.size w w' := by
  obtain ⟨r1, r2⟩ := two_rounds w o1 n1 a1 l1 cap1 o2 n2 a2 l2 cap2
  have p0 := r1.c0
  have p1 := r1.c1
  have p2 := r1.c2
  have s0 := r2.c0
  have s1 := r2.c1
  have s2 := r2.c2
  have hB := Joins.below_alloc2 w (.cells #[.int .i64 o1, .int .i64 n1, .slice a1 l1 cap1] 24) (.cells #[.int .i64 o2, .int .i64 n2, .slice a2 l2 cap2] 24)
  have HB := Lib.hid hB
  subst h1
  have qn : (n1 == n2) = false := by rw [beq_eq_false_iff_ne]; exact h2
  clear r1 r2 hB
  go_enter Tryd.func23, Tryd.ntmps23
  go_wp2
  go_ret
  exact ⟨rfl, HB.out⟩
set_option maxHeartbeats 1000000 in
theorem ds_o (o1 n1 : Int) (a1 : Option Addr) (l1 cap1 : Nat) (o2 n2 : Int) (a2 : Option Addr) (l2 cap2 : Nat) (h1 : ¬ o1 = o2) (w : World) :
    Calls Tryd.prog 18 #[.agg #[.int .i64 o1, .int .i64 n1, .slice a1 l1 cap1], .agg #[.int .i64 o2, .int .i64 n2, .slice a2 l2 cap2]] w fun e w' => e = .returned (.bool false) ∧ Below w.heap.size w w' := by
  obtain ⟨r1, r2⟩ := two_rounds w o1 n1 a1 l1 cap1 o2 n2 a2 l2 cap2
  have p0 := r1.c0
  have p1 := r1.c1
  have p2 := r1.c2
  have s0 := r2.c0
  have s1 := r2.c1
  have s2 := r2.c2
  have hB := Joins.below_alloc2 w (.cells #[.int .i64 o1, .int .i64 n1, .slice a1 l1 cap1] 24) (.cells #[.int .i64 o2, .int .i64 n2, .slice a2 l2 cap2] 24)
  have HB := Lib.hid hB
  have qo : (o1 == o2) = false := by rw [beq_eq_false_iff_ne]; exact h1
  clear r1 r2 hB
  go_enter Tryd.func18, Tryd.ntmps18
  go_wp2
  go_ret
  exact ⟨rfl, HB.out⟩
set_option maxHeartbeats 1000000 in
theorem ds_n (o1 n1 : Int) (a1 : Option Addr) (l1 cap1 : Nat) (o2 n2 : Int) (a2 : Option Addr) (l2 cap2 : Nat) (h1 : o1 = o2) (h2 : ¬ n1 = n2) (w : World) :
    Calls Tryd.prog 18 #[.agg #[.int .i64 o1, .int .i64 n1, .slice a1 l1 cap1], .agg #[.int .i64 o2, .int .i64 n2, .slice a2 l2 cap2]] w fun e w' => e = .returned (.bool false) ∧ Below w.heap.size w w' := by
  obtain ⟨r1, r2⟩ := two_rounds w o1 n1 a1 l1 cap1 o2 n2 a2 l2 cap2
  have p0 := r1.c0
  have p1 := r1.c1
  have p2 := r1.c2
  have s0 := r2.c0
  have s1 := r2.c1
  have s2 := r2.c2
  have hB := Joins.below_alloc2 w (.cells #[.int .i64 o1, .int .i64 n1, .slice a1 l1 cap1] 24) (.cells #[.int .i64 o2, .int .i64 n2, .slice a2 l2 cap2] 24)
  have HB := Lib.hid hB
  subst h1
  have qn : (n1 == n2) = false := by rw [beq_eq_false_iff_ne]; exact h2
  clear r1 r2 hB
  go_enter Tryd.func18, Tryd.ntmps18
  go_wp2
  go_ret
  exact ⟨rfl, HB.out⟩
set_option maxHeartbeats 1000000 in
theorem sm_u (o n : Int) (a1 : Option Addr) (l1 cap1 : Nat) (a2 : Option Addr) (l2 cap2 : Nat) (us vs : List Up) (hl : l1 ≤ 1000000) (w : World) (h1 : IsUs w a1 l1 us) (h2 : IsUs w a2 l2 vs) :
    Calls Tryd.prog 23 #[.agg #[.int .i64 o, .int .i64 n, .slice a1 l1 cap1], .agg #[.int .i64 o, .int .i64 n, .slice a2 l2 cap2]] w fun e w' => e = .returned (.bool (decide (us = vs))) ∧ Below w.heap.size w w' := by
  obtain ⟨r1, r2⟩ := two_rounds w o n a1 l1 cap1 o n a2 l2 cap2
  have p0 := r1.c0
  have p1 := r1.c1
  have p2 := r1.c2
  have s0 := r2.c0
  have s1 := r2.c1
  have s2 := r2.c2
  have hB := Joins.below_alloc2 w (.cells #[.int .i64 o, .int .i64 n, .slice a1 l1 cap1] 24) (.cells #[.int .i64 o, .int .i64 n, .slice a2 l2 cap2] 24)
  have HC := Lib.hid (eqs_any a1 a2 l1 l2 cap1 cap2 us vs hl _ (isUs_below h1 hB) (isUs_below h2 hB))
  have HB := Lib.hid hB
  generalize decide (us = vs) = bb at *
  clear r1 r2 hB h1 h2
  go_enter Tryd.func23, Tryd.ntmps23
  go_wp2_with fail
  refine HC.out.mono ?_
  rintro x w1 ⟨rfl, hb⟩
  have HB1 := Lib.hid (Below.next HB.out hb)
  clear hb HB HC
  go_wp2
  go_ret
  exact ⟨rfl, HB1.out⟩
theorem rndsame_any (o1 n1 : Int) (a1 : Option Addr) (l1 cap1 : Nat) (o2 n2 : Int) (a2 : Option Addr) (l2 cap2 : Nat) (us vs : List Up) (hl : l1 ≤ 1000000) (w : World) (h1 : IsUs w a1 l1 us) (h2 : IsUs w a2 l2 vs) :
    Calls Tryd.prog 23 #[.agg #[.int .i64 o1, .int .i64 n1, .slice a1 l1 cap1], .agg #[.int .i64 o2, .int .i64 n2, .slice a2 l2 cap2]] w fun e w' => e = .returned (.bool (decide (o1 = o2 ∧ n1 = n2 ∧ us = vs))) ∧ Below w.heap.size w w' := by
  by_cases ho : o1 = o2
  · by_cases hn : n1 = n2
    · subst ho hn
      rw [show decide (o1 = o1 ∧ n1 = n1 ∧ us = vs) = decide (us = vs) by simp]
      exact sm_u o1 n1 a1 l1 cap1 a2 l2 cap2 us vs hl w h1 h2
    · rw [decide_eq_false (fun e => hn e.2.1)]
      exact sm_n o1 n1 a1 l1 cap1 o2 n2 a2 l2 cap2 ho hn w
  · rw [decide_eq_false (fun e => ho e.1)]
    exact sm_o o1 n1 a1 l1 cap1 o2 n2 a2 l2 cap2 ho w
set_option maxHeartbeats 1000000 in
theorem ds_l (o n : Int) (a1 : Option Addr) (l1 cap1 : Nat) (a2 : Option Addr) (l2 cap2 : Nat) (hl : ¬ l1 = l2) (w : World) :
    Calls Tryd.prog 18 #[.agg #[.int .i64 o, .int .i64 n, .slice a1 l1 cap1], .agg #[.int .i64 o, .int .i64 n, .slice a2 l2 cap2]] w fun e w' => e = .returned (.bool false) ∧ Below w.heap.size w w' := by
  obtain ⟨r1, r2⟩ := two_rounds w o n a1 l1 cap1 o n a2 l2 cap2
  have p0 := r1.c0
  have p1 := r1.c1
  have p2 := r1.c2
  have s0 := r2.c0
  have s1 := r2.c1
  have s2 := r2.c2
  have hB := Joins.below_alloc2 w (.cells #[.int .i64 o, .int .i64 n, .slice a1 l1 cap1] 24) (.cells #[.int .i64 o, .int .i64 n, .slice a2 l2 cap2] 24)
  have HB := Lib.hid hB
  have q : ((l1 : Int) == (l2 : Int)) = false := by rw [beq_eq_false_iff_ne]; omega
  clear r1 r2 hB hl
  go_enter Tryd.func18, Tryd.ntmps18
  go_wp2
  go_ret
  exact ⟨rfl, HB.out⟩
set_option maxHeartbeats 8000000 in
theorem ds_yes (o n : Int) (a1 a2 : Option Addr) (len cap1 cap2 : Nat) (us : List Up) (hl : len ≤ 1000000) (w : World) (h1 : IsUs w a1 len us) (h2 : IsUs w a2 len us) :
    Calls Tryd.prog 18 #[.agg #[.int .i64 o, .int .i64 n, .slice a1 len cap1], .agg #[.int .i64 o, .int .i64 n, .slice a2 len cap2]] w fun e w' => e = .returned (.bool true) ∧ Below w.heap.size w w' := by
  obtain ⟨r1, r2⟩ := two_rounds w o n a1 len cap1 o n a2 len cap2
  have p0 := r1.c0
  have p1 := r1.c1
  have p2 := r1.c2
  have s0 := r2.c0
  have s1 := r2.c1
  have s2 := r2.c2
  have hB := Joins.below_alloc2 w (.cells #[.int .i64 o, .int .i64 n, .slice a1 len cap1] 24) (.cells #[.int .i64 o, .int .i64 n, .slice a2 len cap2] 24)
  have H1 := Lib.hid h1
  have H2 := Lib.hid h2
  have HB := Lib.hid hB
  have HR1 := Lib.hid r1
  have HR2 := Lib.hid r2
  clear h1 h2 hB r1 r2
  go_enter Tryd.func18, Tryd.ntmps18
  go_wp2_with fail
  clear p0 p1 p2 s0 s1 s2
  go_loopw [5] (fun v5 wr => ∃ k : Nat, k ≤ len ∧ v5 = .int .i64 k ∧ Rb wr w.heap.size o n a1 len cap1 ∧ Rb wr (w.heap.size + 1) o n a2 len cap2 ∧ Below w.heap.size w wr) (fun v5 _ => len - (intOf v5).toNat)
  case atStart => exact ⟨0, Nat.zero_le _, rfl, HR1.out, HR2.out, HB.out⟩
  case round =>
    obtain ⟨k, hk, rfl, r1, r2, hbel⟩ := hrel
    clear HB HR1 HR2
    have p2 := r1.c2
    have s2 := r2.c2
    have HR1 := Lib.hid r1
    have HR2 := Lib.hid r2
    clear r1 r2
    by_cases hlt : k < len
    · obtain ⟨b1, off1, rfl, hb1, c0, c1, c2, c3⟩ := cells_of H1.out hbel hlt
      obtain ⟨b2, off2, rfl, hb2, d0, d1, d2, d3⟩ := cells_of H2.out hbel hlt
      have HBEL := Lib.hid hbel
      clear hbel hb1 hb2
      generalize us.getD k up0 = u at *
      obtain ⟨uk, ux, un, ut⟩ := u
      have qk := eq_yes uk
      have qt := eq_yes ut
      simp only at c0 c1 c2 c3 d0 d1 d2 d3
      go_wp2_with fail
      go_quiet (fail)
      go_wp2
      go_roundw
      case rel => exact ⟨k + 1, by omega, by go_num, HR1.out.drewN _, HR2.out.drewN _, belN HBEL.out _⟩
      case measure => simp [intOf]; omega
    · obtain rfl : k = len := by omega
      have HBEL := Lib.hid hbel
      clear hbel
      go_wp2
      go_ret
      exact ⟨rfl, HBEL.out⟩
set_option maxHeartbeats 8000000 in
theorem ds_no (o n : Int) (a1 a2 : Option Addr) (len cap1 cap2 : Nat) (us vs : List Up) (hne : ¬ us = vs) (hl : len ≤ 1000000) (w : World) (h1 : IsUs w a1 len us) (h2 : IsUs w a2 len vs) :
    Calls Tryd.prog 18 #[.agg #[.int .i64 o, .int .i64 n, .slice a1 len cap1], .agg #[.int .i64 o, .int .i64 n, .slice a2 len cap2]] w fun e w' => e = .returned (.bool false) ∧ Below w.heap.size w w' := by
  obtain ⟨i, hi, hj, hdi⟩ := first_diff us vs (by rw [h1.size, h2.size]) hne
  have hil : i < len := by have := h1.size; omega
  have HJ := Lib.hid hj
  have HDI := Lib.hid hdi
  clear hne hj hdi hi
  obtain ⟨r1, r2⟩ := two_rounds w o n a1 len cap1 o n a2 len cap2
  have p0 := r1.c0
  have p1 := r1.c1
  have p2 := r1.c2
  have s0 := r2.c0
  have s1 := r2.c1
  have s2 := r2.c2
  have hB := Joins.below_alloc2 w (.cells #[.int .i64 o, .int .i64 n, .slice a1 len cap1] 24) (.cells #[.int .i64 o, .int .i64 n, .slice a2 len cap2] 24)
  have H1 := Lib.hid h1
  have H2 := Lib.hid h2
  have HB := Lib.hid hB
  have HR1 := Lib.hid r1
  have HR2 := Lib.hid r2
  clear h1 h2 hB r1 r2
  go_enter Tryd.func18, Tryd.ntmps18
  go_wp2_with fail
  clear p0 p1 p2 s0 s1 s2
  go_loopw [5] (fun v5 wr => ∃ k : Nat, k ≤ i ∧ v5 = .int .i64 k ∧ Rb wr w.heap.size o n a1 len cap1 ∧ Rb wr (w.heap.size + 1) o n a2 len cap2 ∧ Below w.heap.size w wr) (fun v5 _ => len - (intOf v5).toNat)
  case atStart => exact ⟨0, Nat.zero_le _, rfl, HR1.out, HR2.out, HB.out⟩
  case round =>
    obtain ⟨k, hk, rfl, r1, r2, hbel⟩ := hrel
    clear HB HR1 HR2
    have p2 := r1.c2
    have s2 := r2.c2
    have HR1 := Lib.hid r1
    have HR2 := Lib.hid r2
    clear r1 r2
    have hlt : k < len := by omega
    obtain ⟨b1, off1, rfl, hb1, c0, c1, c2, c3⟩ := cells_of H1.out hbel hlt
    obtain ⟨b2, off2, rfl, hb2, d0, d1, d2, d3⟩ := cells_of H2.out hbel hlt
    by_cases hki : k < i
    · rw [← HJ.out k hki] at d0 d1 d2 d3
      have HBEL := Lib.hid hbel
      clear hbel hb1 hb2
      generalize us.getD k up0 = u at *
      obtain ⟨uk, ux, un, ut⟩ := u
      have qk := eq_yes uk
      have qt := eq_yes ut
      simp only at c0 c1 c2 c3 d0 d1 d2 d3
      go_wp2_with fail
      go_quiet (fail)
      go_wp2
      go_roundw
      case rel => exact ⟨k + 1, by omega, by go_num, HR1.out.drewN _, HR2.out.drewN _, belN HBEL.out _⟩
      case measure => simp [intOf]; omega
    · obtain rfl : k = i := by omega
      have HD : Hid (¬ us.getD k up0 = vs.getD k up0) := HDI.out
      clear HDI HJ
      have HBEL := Lib.hid hbel
      have hd := up_diff HD.out
      clear hbel hb1 hb2 HD
      generalize us.getD k up0 = u at *
      generalize vs.getD k up0 = v at *
      obtain ⟨uk, ux, un, ut⟩ := u
      obtain ⟨vk, vx, vn, vt⟩ := v
      simp only at c0 c1 c2 c3 d0 d1 d2 d3 hd
      rcases hd with hk | ⟨ek, hx⟩ | ⟨ek, ex, hn⟩ | ⟨ek, ex, en, ht⟩
      · have qk := eq_no hk
        go_wp2_with fail
        go_quiet (fail)
        go_wp2
        go_ret
        exact ⟨rfl, belN HBEL.out _⟩
      · obtain rfl := ek
        have qk := eq_yes uk
        have qx : (ux == vx) = false := by rw [beq_eq_false_iff_ne]; exact hx
        go_wp2_with fail
        go_quiet (fail)
        go_wp2
        go_ret
        exact ⟨rfl, belN HBEL.out _⟩
      · obtain rfl := ek
        obtain rfl := ex
        have qk := eq_yes uk
        have qn : (un == vn) = false := by rw [beq_eq_false_iff_ne]; exact hn
        go_wp2_with fail
        go_quiet (fail)
        go_wp2
        go_ret
        exact ⟨rfl, belN HBEL.out _⟩
      · obtain rfl := ek
        obtain rfl := ex
        obtain rfl := en
        have qk := eq_yes uk
        have qt := eq_no ht
        go_wp2_with fail
        go_quiet (fail)
        go_wp2
        go_ret
        exact ⟨rfl, belN HBEL.out _⟩
theorem docsame_any (o1 n1 : Int) (a1 : Option Addr) (l1 cap1 : Nat) (o2 n2 : Int) (a2 : Option Addr) (l2 cap2 : Nat) (us vs : List Up) (hl : l1 ≤ 1000000) (w : World) (h1 : IsUs w a1 l1 us) (h2 : IsUs w a2 l2 vs) :
    Calls Tryd.prog 18 #[.agg #[.int .i64 o1, .int .i64 n1, .slice a1 l1 cap1], .agg #[.int .i64 o2, .int .i64 n2, .slice a2 l2 cap2]] w fun e w' => e = .returned (.bool (decide (o1 = o2 ∧ n1 = n2 ∧ us = vs))) ∧ Below w.heap.size w w' := by
  by_cases ho : o1 = o2
  · by_cases hn : n1 = n2
    · subst ho hn
      rw [show decide (o1 = o1 ∧ n1 = n1 ∧ us = vs) = decide (us = vs) by simp]
      by_cases hll : l1 = l2
      · subst hll
        by_cases he : us = vs
        · subst he
          rw [decide_eq_true rfl]
          exact ds_yes o1 n1 a1 a2 l1 cap1 cap2 us hl w h1 h2
        · rw [decide_eq_false he]
          exact ds_no o1 n1 a1 a2 l1 cap1 cap2 us vs he hl w h1 h2
      · rw [decide_eq_false (fun e => hll (by rw [← h1.size, ← h2.size, e]))]
        exact ds_l o1 n1 a1 l1 cap1 a2 l2 cap2 hll w
    · rw [decide_eq_false (fun e => hn e.2.1)]
      exact ds_n o1 n1 a1 l1 cap1 o2 n2 a2 l2 cap2 ho hn w
  · rw [decide_eq_false (fun e => ho e.1)]
    exact ds_o o1 n1 a1 l1 cap1 o2 n2 a2 l2 cap2 ho w
end Go.Proofs.YtcknklodnfabpaaDoor
