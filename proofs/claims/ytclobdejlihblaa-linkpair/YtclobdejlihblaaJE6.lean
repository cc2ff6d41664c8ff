/- Same. -/
import Derived.Test.YtclobdejlihblaaJE5
namespace Go.Proofs.Ytclobdejlihblaa
open Go Go.RowKit
set_option maxRecDepth 20000
theorem eq_yes (s : ByteArray) : (s.toList == s.toList) = true := by simp
theorem below_asit {w w' : World} {B : Nat} (e : w'.heap = w.heap) (e1 : w'.os = w.os) (e2 : w'.tape = w.tape) (e3 : w'.output = w.output) : Below B w w' := ⟨e1, e2, e3, by rw [e]; exact Nat.le_refl _, fun i _ => by rw [e]⟩
theorem SsAt.asit {w w' : World} {a : Option Addr} {len : Nat} {ts : List ByteArray} (h : SsAt w a len ts) (e : w'.heap = w.heap) : SsAt w' a len ts :=
  ⟨h.size, fun h0 => by
    obtain ⟨b, off, e1, hl, hf⟩ := h.lies h0
    exact ⟨b, off, e1, by rw [e]; exact hl, fun i hi => by rw [← hf i hi]; unfold World.cell?; rw [e]⟩⟩
set_option maxHeartbeats 4000000 in
theorem same_yes (a1 a2 : Option Addr) (len x1 x2 : Nat) (ts : List ByteArray) (hl : len ≤ 1000000) (w : World) (h1 : SsAt w a1 len ts) (h2 : SsAt w a2 len ts) :
    Calls Try.prog 28 #[.slice a1 len x1, .slice a2 len x2] w fun e w' => e = .returned (.bool true) ∧ w'.heap = w.heap ∧ w'.os = w.os ∧ w'.tape = w.tape ∧ w'.output = w.output := by
  have hs := h1.size
  have H1 := Lib.hid h1
  have H2 := Lib.hid h2
  clear h1 h2
  go_enter Try.func28, Try.ntmps28
  go_wp2_with fail
  go_loopw [5] (fun v5 wr => ∃ i : Nat, i ≤ len ∧ v5 = .int .i64 i ∧ (wr.heap = w.heap ∧ wr.os = w.os ∧ wr.tape = w.tape ∧ wr.output = w.output)) (fun v5 _ => len - (intOf v5).toNat)
  case atStart => exact ⟨0, Nat.zero_le _, rfl, rfl, rfl, rfl, rfl⟩
  case round =>
    obtain ⟨i, hi, rfl, hE⟩ := hrel
    have HE := Lib.hid hE
    by_cases hlt : i < len
    · obtain ⟨b1, o1, rfl, _, f1⟩ := (H1.out.asit hE.1).lies (by omega)
      obtain ⟨b2, o2, rfl, _, f2⟩ := (H2.out.asit hE.1).lies (by omega)
      have d1 := f1 i (by omega)
      have d2 := f2 i (by omega)
      clear f1 f2 hE
      generalize ts.getD i emp = s at *
      have q := eq_yes s
      go_wp2_with fail
      go_quiet (fail)
      go_wp2
      go_roundw
      case rel => exact ⟨i + 1, by omega, by go_num, HE.out⟩
      case measure => simp [intOf]; omega
    · obtain rfl : i = len := by omega
      clear hE
      go_wp2
      go_ret
      exact ⟨rfl, HE.out⟩
end Go.Proofs.Ytclobdejlihblaa
