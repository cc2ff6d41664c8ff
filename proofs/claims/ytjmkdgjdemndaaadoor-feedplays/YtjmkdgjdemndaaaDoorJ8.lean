/- SameFrames; May; calls that came in, and great. -/
import Derived.Test.YtjmkdgjdemndaaaDoorJ4
namespace Go.Proofs.YtjmkdgjdemndaaaDoor.K
open Go Go.RowKit
set_option maxRecDepth 20000
theorem F4.asit {w w' : World} {b o : Nat} {f : Fra} (h : F4 w b o f) (e : w'.heap = w.heap) : F4 w' b o f := h.kept (by rw [e])
set_option maxHeartbeats 4000000 in
theorem samef_yes (a1 a2 : Option Addr) (len x1 x2 : Nat) (fs : List Fra) (hl : len ≤ 1000000) (w : World) (h1 : FsAt w a1 len fs) (h2 : FsAt w a2 len fs) :
    Calls Tryd.prog 22 #[.slice a1 len x1, .slice a2 len x2] w fun e w' => e = .returned (.bool true) ∧ w'.heap = w.heap ∧ w'.os = w.os ∧ w'.tape = w.tape ∧ w'.output = w.output := by
  have H1 := Lib.hid h1
  have H2 := Lib.hid h2
  clear h1 h2
  go_enter Tryd.func22, Tryd.ntmps22
  go_wp2_with fail
  go_loopw [5] (fun v5 wr => ∃ i : Nat, i ≤ len ∧ v5 = .int .i64 i ∧ (wr.heap = w.heap ∧ wr.os = w.os ∧ wr.tape = w.tape ∧ wr.output = w.output)) (fun v5 _ => len - (intOf v5).toNat)
  case atStart => exact ⟨0, Nat.zero_le _, rfl, rfl, rfl, rfl, rfl⟩
  case round =>
    obtain ⟨i, hi, rfl, hE⟩ := hrel
    have HE := Lib.hid hE
    by_cases hlt : i < len
    · obtain ⟨b1, o1, rfl, _, f1⟩ := (H1.out.asit hE.1).lies (by omega)
      obtain ⟨b2, o2, rfl, _, f2⟩ := (H2.out.asit hE.1).lies (by omega)
      obtain ⟨d0, d1, d2, d3⟩ := f1 i (by omega)
      obtain ⟨g0, g1, g2, g3⟩ := f2 i (by omega)
      clear f1 f2 hE
      generalize fs.getD i fr0 = f at *
      obtain ⟨e, s, a, d⟩ := f
      simp only at d0 d1 d2 d3 g0 g1 g2 g3
      have q := eq_yes d
      go_wp2_with fail
      go_quiet (fail)
      go_wp2
      go_roundw
      case rel => exact ⟨i + 1, by omega, by go_num, HE.out⟩
      case measure => simp [intOf]; omega
    · obtain rfl : i = len := by omega
      clear hE
      go_wp2
      go_ret
      exact ⟨rfl, HE.out⟩
/-- The bounds of a frame that may be. -/
def okF (f : Fra) : Prop := 1 ≤ f.1 ∧ f.1 ≤ 1099511627776 ∧ 0 ≤ f.2.1 ∧ f.2.1 ≤ 1125899906842624 ∧ 0 ≤ f.2.2.1 ∧ f.2.2.1 ≤ 1125899906842624
set_option maxHeartbeats 4000000 in
theorem may_bad1 (e s a : Int) (d : ByteArray)  (h : e < 1) (w : World) :
    Calls Tryd.prog 35 #[.agg #[.int .i64 e, .int .i64 s, .int .i64 a, .string d]] w fun x w' => x = .returned (.int .i64 1) ∧ Below w.heap.size w w' := by
  go_enter Tryd.func35, Tryd.ntmps35
  go_wp2
  go_ret
  exact ⟨rfl, Joins.below_alloc1 w _⟩
set_option maxHeartbeats 4000000 in
theorem may_bad2 (e s a : Int) (d : ByteArray) (k1 : ¬ e < 1) (h : 1099511627776 < e) (w : World) :
    Calls Tryd.prog 35 #[.agg #[.int .i64 e, .int .i64 s, .int .i64 a, .string d]] w fun x w' => x = .returned (.int .i64 1) ∧ Below w.heap.size w w' := by
  go_enter Tryd.func35, Tryd.ntmps35
  go_wp2
  go_ret
  exact ⟨rfl, Joins.below_alloc1 w _⟩
set_option maxHeartbeats 4000000 in
theorem may_bad3 (e s a : Int) (d : ByteArray) (k1 : ¬ e < 1) (k2 : ¬ 1099511627776 < e) (h : s < 0) (w : World) :
    Calls Tryd.prog 35 #[.agg #[.int .i64 e, .int .i64 s, .int .i64 a, .string d]] w fun x w' => x = .returned (.int .i64 1) ∧ Below w.heap.size w w' := by
  go_enter Tryd.func35, Tryd.ntmps35
  go_wp2
  go_ret
  exact ⟨rfl, Joins.below_alloc1 w _⟩
set_option maxHeartbeats 4000000 in
theorem may_bad4 (e s a : Int) (d : ByteArray) (k1 : ¬ e < 1) (k2 : ¬ 1099511627776 < e) (k3 : ¬ s < 0) (h : 1125899906842624 < s) (w : World) :
    Calls Tryd.prog 35 #[.agg #[.int .i64 e, .int .i64 s, .int .i64 a, .string d]] w fun x w' => x = .returned (.int .i64 1) ∧ Below w.heap.size w w' := by
  go_enter Tryd.func35, Tryd.ntmps35
  go_wp2
  go_ret
  exact ⟨rfl, Joins.below_alloc1 w _⟩
set_option maxHeartbeats 4000000 in
theorem may_bad5 (e s a : Int) (d : ByteArray) (k1 : ¬ e < 1) (k2 : ¬ 1099511627776 < e) (k3 : ¬ s < 0) (k4 : ¬ 1125899906842624 < s) (h : a < 0) (w : World) :
    Calls Tryd.prog 35 #[.agg #[.int .i64 e, .int .i64 s, .int .i64 a, .string d]] w fun x w' => x = .returned (.int .i64 1) ∧ Below w.heap.size w w' := by
  go_enter Tryd.func35, Tryd.ntmps35
  go_wp2
  go_ret
  exact ⟨rfl, Joins.below_alloc1 w _⟩
set_option maxHeartbeats 4000000 in
theorem may_bad6 (e s a : Int) (d : ByteArray) (k1 : ¬ e < 1) (k2 : ¬ 1099511627776 < e) (k3 : ¬ s < 0) (k4 : ¬ 1125899906842624 < s) (k5 : ¬ a < 0) (h : 1125899906842624 < a) (w : World) :
    Calls Tryd.prog 35 #[.agg #[.int .i64 e, .int .i64 s, .int .i64 a, .string d]] w fun x w' => x = .returned (.int .i64 1) ∧ Below w.heap.size w w' := by
  go_enter Tryd.func35, Tryd.ntmps35
  go_wp2
  go_ret
  exact ⟨rfl, Joins.below_alloc1 w _⟩
set_option maxHeartbeats 4000000 in
theorem may_num (e s a : Int) (d : ByteArray) (k1 : ¬ e < 1) (k2 : ¬ 1099511627776 < e) (k3 : ¬ s < 0) (k4 : ¬ 1125899906842624 < s) (k5 : ¬ a < 0) (k6 : ¬ 1125899906842624 < a) (hz : s ≠ 0) (w : World) :
    Calls Tryd.prog 35 #[.agg #[.int .i64 e, .int .i64 s, .int .i64 a, .string d]] w fun x w' => x = .returned (.int .i64 0) ∧ Below w.heap.size w w' := by
  have k7 : (s == 0) = false := by simpa using hz
  have k8 : decide (s = 0) = false := by simpa using hz
  go_enter Tryd.func35, Tryd.ntmps35
  go_wp2
  go_ret
  exact ⟨rfl, Joins.below_alloc1 w _⟩
set_option maxHeartbeats 4000000 in
theorem may_none (e a : Int) (d : ByteArray) (k1 : ¬ e < 1) (k2 : ¬ 1099511627776 < e) (k5 : ¬ a < 0) (k6 : ¬ 1125899906842624 < a) (hd : d.toList.isEmpty = true) (w : World) :
    Calls Tryd.prog 35 #[.agg #[.int .i64 e, .int .i64 0, .int .i64 a, .string d]] w fun x w' => x = .returned (.int .i64 0) ∧ Below w.heap.size w w' := by
  go_enter Tryd.func35, Tryd.ntmps35
  go_wp2
  go_ret
  exact ⟨rfl, Joins.below_alloc1 w _⟩
set_option maxHeartbeats 4000000 in
theorem may_data (e a : Int) (d : ByteArray) (k1 : ¬ e < 1) (k2 : ¬ 1099511627776 < e) (k5 : ¬ a < 0) (k6 : ¬ 1125899906842624 < a) (hd : d.toList.isEmpty = false) (w : World) :
    Calls Tryd.prog 35 #[.agg #[.int .i64 e, .int .i64 0, .int .i64 a, .string d]] w fun x w' => x = .returned (.int .i64 13) ∧ Below w.heap.size w w' := by
  go_enter Tryd.func35, Tryd.ntmps35
  go_wp2
  go_ret
  exact ⟨rfl, Joins.below_alloc1 w _⟩
theorem may_any (f : Fra) (w : World) :
    Calls Tryd.prog 35 #[fv f] w fun x w' => (∃ n, x = .returned (.int .i64 n) ∧ (n = 0 → okF f)) ∧ Below w.heap.size w w' := by
  obtain ⟨e, s, a, d⟩ := f
  have bad : ∀ n, n ≠ 0 → Calls Tryd.prog 35 #[.agg #[.int .i64 e, .int .i64 s, .int .i64 a, .string d]] w (fun x w' => x = .returned (.int .i64 n) ∧ Below w.heap.size w w') → Calls Tryd.prog 35 #[.agg #[.int .i64 e, .int .i64 s, .int .i64 a, .string d]] w (fun x w' => (∃ n, x = .returned (.int .i64 n) ∧ (n = 0 → okF (e, s, a, d))) ∧ Below w.heap.size w w') := fun n hn h => h.mono fun x w' hx => ⟨⟨n, hx.1, fun e => absurd e hn⟩, hx.2⟩
  show Calls Tryd.prog 35 #[.agg #[.int .i64 e, .int .i64 s, .int .i64 a, .string d]] w _
  by_cases h1 : e < 1
  · exact bad 1 (by decide) (may_bad1 e s a d h1 w)
  by_cases h2 : 1099511627776 < e
  · exact bad 1 (by decide) (may_bad2 e s a d h1 h2 w)
  by_cases h3 : s < 0
  · exact bad 1 (by decide) (may_bad3 e s a d h1 h2 h3 w)
  by_cases h4 : 1125899906842624 < s
  · exact bad 1 (by decide) (may_bad4 e s a d h1 h2 h3 h4 w)
  by_cases h5 : a < 0
  · exact bad 1 (by decide) (may_bad5 e s a d h1 h2 h3 h4 h5 w)
  by_cases h6 : 1125899906842624 < a
  · exact bad 1 (by decide) (may_bad6 e s a d h1 h2 h3 h4 h5 h6 w)
  have hk : okF (e, s, a, d) := ⟨by simp only; omega, by simp only; omega, by simp only; omega, by simp only; omega, by simp only; omega, by simp only; omega⟩
  by_cases hz : s = 0
  · subst hz
    cases hd : d.toList.isEmpty with
    | true => exact (may_none e a d h1 h2 h5 h6 hd w).mono fun x w' hx => ⟨⟨0, hx.1, fun _ => hk⟩, hx.2⟩
    | false => exact bad 13 (by decide) (may_data e a d h1 h2 h5 h6 hd w)
  · exact (may_num e s a d h1 h2 h3 h4 h5 h6 hz w).mono fun x w' hx => ⟨⟨0, hx.1, fun _ => hk⟩, hx.2⟩
end Go.Proofs.YtjmkdgjdemndaaaDoor.K
