/- Rows of strings; Same. -/
import Derived.Test.YteonmljchcekpaaS6
import Derived.Deep.QuietTactic
import Derived.BigQuiet
namespace Go.Proofs.Yteonmljchcekpaa
open Go Go.RowKit Go.Maps Go.Sort
/-- What the walk is told of a row of texts. -/
structure IsSs (w : World) (a : Option Addr) (ss : List Ky) : Prop where
  lies : 0 < ss.length → ∃ b off, a = some ⟨b, off, none⟩ ∧ b < w.heap.size ∧ ∀ i, i < ss.length → w.cell? ⟨b, off + i, none⟩ = some (.string ⟨(ss.getD i []).toArray⟩)
theorem isSs_below {w w' : World} {a : Option Addr} {ss : List Ky} (h : IsSs w a ss) (hb : Below w.heap.size w w') : IsSs w' a ss :=
  ⟨fun h0 => by
    obtain ⟨b, off, e, hl, hf⟩ := h.lies h0
    exact ⟨b, off, e, Nat.lt_of_lt_of_le hl hb.size, fun i hi => (hb.cell hl).trans (hf i hi)⟩⟩
theorem isSs_same {w w' : World} {a : Option Addr} {ss : List Ky} (h : IsSs w a ss) (he : w'.heap = w.heap) : IsSs w' a ss :=
  ⟨fun h0 => by
    obtain ⟨b, off, e, hl, hf⟩ := h.lies h0
    exact ⟨b, off, e, by rw [he]; exact hl, fun i hi => by rw [World.cell?_of_block (w := w) (by rw [he])]; exact hf i hi⟩⟩
theorem isSs_grown {w w' : World} {row : Option Nat} {g : Nat} {ss : List Ky} (h : IsSs w (some ⟨g, 0, none⟩) ss) (hg : w.grownBy w' row) (hne : some g ≠ row) : IsSs w' (some ⟨g, 0, none⟩) ss :=
  ⟨fun h0 => by
    obtain ⟨b, off, e, hl, hf⟩ := h.lies h0
    injection e with e
    injection e with e1 e2
    subst e1 e2
    exact ⟨g, 0, rfl, Nat.lt_of_lt_of_le hl hg.size, fun i hi => hg.cell (hf i hi) hne⟩⟩
theorem isSs_own {w : World} {base g cap : Nat} {ss : List Ky} (h : w.ownsRow base 9 1 (.slice (some ⟨g, 0, none⟩) ss.length cap) ss.length (ss.map encStr)) : IsSs w (some ⟨g, 0, none⟩) ss :=
  ⟨fun _ => ⟨g, 0, rfl, (h.lt g rfl).2, fun i hi => by
    rw [Nat.zero_add, h.cellAt i (by omega)]
    simp [encStr, List.getD_eq_getElem?_getD, hi]⟩⟩
set_option maxHeartbeats 2000000 in
/-- Same, at two rows that hold the same. -/
theorem same_yes (a1 a2 : Option Addr) (cap1 cap2 : Nat) (ss : List Ky) (hl : ss.length ≤ 1000000) (w : World) (h1 : IsSs w a1 ss) (h2 : IsSs w a2 ss) :
    Calls Try.prog 17 #[.slice a1 ss.length cap1, .slice a2 ss.length cap2] w fun e w' => e = .returned (.bool true) ∧ Below w.heap.size w w' := by
  have H1 := Lib.hid h1
  have H2 := Lib.hid h2
  clear h1 h2
  go_enter Try.func17, Try.ntmps17
  go_wp2_with fail
  go_loopw [5] (fun v5 wr => ∃ k : Nat, k ≤ ss.length ∧ v5 = .int .i64 k ∧ Below w.heap.size w wr) (fun v5 _ => ss.length - (intOf v5).toNat)
  case atStart => exact ⟨0, Nat.zero_le _, rfl, Below.refl _ _⟩
  case round =>
    obtain ⟨k, hk, rfl, hbel⟩ := hrel
    by_cases hlt : k < ss.length
    · obtain ⟨b, off, rfl, hb, hf⟩ := H1.out.lies (by omega)
      obtain ⟨b', off', rfl, hb', hf'⟩ := H2.out.lies (by omega)
      have c0 : wr.cell? ⟨b, off + k, none⟩ = some (.string ⟨(ss.getD k []).toArray⟩) := (hbel.cell hb).trans (hf k hlt)
      have c1 : wr.cell? ⟨b', off' + k, none⟩ = some (.string ⟨(ss.getD k []).toArray⟩) := (hbel.cell hb').trans (hf' k hlt)
      generalize (ByteArray.mk (ss.getD k []).toArray) = x at c0 c1
      have q := eq_yes x
      have HBEL := Lib.hid hbel
      clear hf hf' hbel hb hb' H1 H2
      go_wp2_with fail
      go_quiet (fail)
      go_wp2
      go_roundw
      case rel => exact ⟨k + 1, by omega, by go_num, ⟨HBEL.out.os, HBEL.out.tape, HBEL.out.output, HBEL.out.size, HBEL.out.block⟩⟩
      case measure => simp [intOf]; omega
    · obtain rfl : k = ss.length := by omega
      have HBEL := Lib.hid hbel
      clear hbel
      go_wp2
      go_ret
      exact ⟨rfl, HBEL.out⟩
end Go.Proofs.Yteonmljchcekpaa
