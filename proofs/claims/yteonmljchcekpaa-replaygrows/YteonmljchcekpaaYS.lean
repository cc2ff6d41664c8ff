/- The document's Same, of two rounds that are the same. -/
import Derived.Test.YteonmljchcekpaaY1
import Derived.Test.YteonmljchcekpaaS6
import Derived.Deep.QuietTactic
import Derived.BigQuiet
namespace Go.Proofs.Yteonmljchcekpaa
open Go Go.RowKit
set_option maxRecDepth 20000
theorem belN {B : Nat} {w w' : World} (h : Below B w w') (n : Nat) : Below B w (w'.drewN n) := ⟨h.os, h.tape, h.output, h.size, h.block⟩
theorem Rb.drewN {w : World} {b : Nat} {o n : Int} {a : Option Addr} {len cap : Nat} (h : Rb w b o n a len cap) (k : Nat) : Rb (w.drewN k) b o n a len cap := h
theorem two_rounds (w : World) (o1 n1 : Int) (a1 : Option Addr) (l1 c1 : Nat) (o2 n2 : Int) (a2 : Option Addr) (l2 c2 : Nat) :
    Rb ((w.alloc (.cells #[.int .i64 o1, .int .i64 n1, .slice a1 l1 c1] 45)).alloc (.cells #[.int .i64 o2, .int .i64 n2, .slice a2 l2 c2] 45)) w.heap.size o1 n1 a1 l1 c1 ∧
    Rb ((w.alloc (.cells #[.int .i64 o1, .int .i64 n1, .slice a1 l1 c1] 45)).alloc (.cells #[.int .i64 o2, .int .i64 n2, .slice a2 l2 c2] 45)) (w.heap.size + 1) o2 n2 a2 l2 c2 := by
  refine ⟨(Rb.new w o1 n1 a1 l1 c1).alloc _, ?_⟩
  have h := Rb.new (w.alloc (.cells #[.int .i64 o1, .int .i64 n1, .slice a1 l1 c1] 45)) o2 n2 a2 l2 c2
  rw [show (w.alloc (.cells #[.int .i64 o1, .int .i64 n1, .slice a1 l1 c1] 45)).heap.size = w.heap.size + 1 by simp] at h
  exact h
set_option maxHeartbeats 8000000 in
theorem ds_yes (o n : Int) (a1 a2 : Option Addr) (len cap1 cap2 : Nat) (us : List Up) (hl : len ≤ 1000000) (w : World) (h1 : IsUs w a1 len us) (h2 : IsUs w a2 len us) :
    Calls Try.prog 22 #[.agg #[.int .i64 o, .int .i64 n, .slice a1 len cap1], .agg #[.int .i64 o, .int .i64 n, .slice a2 len cap2]] w fun e w' => e = .returned (.bool true) ∧ Below w.heap.size w w' := by
  obtain ⟨r1, r2⟩ := two_rounds w o n a1 len cap1 o n a2 len cap2
  have p0 := r1.c0
  have p1 := r1.c1
  have p2 := r1.c2
  have s0 := r2.c0
  have s1 := r2.c1
  have s2 := r2.c2
  have hB := Joins.below_alloc2 w (.cells #[.int .i64 o, .int .i64 n, .slice a1 len cap1] 45) (.cells #[.int .i64 o, .int .i64 n, .slice a2 len cap2] 45)
  have H1 := Lib.hid h1
  have H2 := Lib.hid h2
  have HB := Lib.hid hB
  have HR1 := Lib.hid r1
  have HR2 := Lib.hid r2
  clear h1 h2 hB r1 r2
  go_enter Try.func22, Try.ntmps22
  go_wp2_with fail
  clear p0 p1 p2 s0 s1 s2
  go_loopw [5] (fun v5 wr => ∃ k : Nat, k ≤ len ∧ v5 = .int .i64 k ∧ Rb wr w.heap.size o n a1 len cap1 ∧ Rb wr (w.heap.size + 1) o n a2 len cap2 ∧ Below w.heap.size w wr) (fun v5 _ => len - (intOf v5).toNat)
  case atStart => exact ⟨0, Nat.zero_le _, rfl, HR1.out, HR2.out, HB.out⟩
  case round =>
    obtain ⟨k, hk, rfl, r1, r2, hbel⟩ := hrel
    clear HB HR1 HR2
    have p2 := r1.c2
    have s2 := r2.c2
    have HR1 := Lib.hid r1
    have HR2 := Lib.hid r2
    clear r1 r2
    by_cases hlt : k < len
    · obtain ⟨b1, off1, rfl, c0, c1, c2, c3⟩ := cells_of H1.out hbel hlt
      obtain ⟨b2, off2, rfl, d0, d1, d2, d3⟩ := cells_of H2.out hbel hlt
      have HBEL := Lib.hid hbel
      clear hbel
      generalize us.getD k up0 = u at *
      obtain ⟨uk, ux, un, ut⟩ := u
      have qk := eq_yes uk
      have qt := eq_yes ut
      simp only at c0 c1 c2 c3 d0 d1 d2 d3
      go_wp2_with fail
      go_quiet (fail)
      go_wp2
      go_roundw
      case rel => exact ⟨k + 1, by omega, by go_num, HR1.out.drewN _, HR2.out.drewN _, belN HBEL.out _⟩
      case measure => simp [intOf]; omega
    · obtain rfl : k = len := by omega
      have HBEL := Lib.hid hbel
      clear hbel
      go_wp2
      go_ret
      exact ⟨rfl, HBEL.out⟩
end Go.Proofs.Yteonmljchcekpaa
