/- Calls that came in; great. -/
import Derived.Test.YtlmnncablfbafaaE6
namespace Go.Proofs.Ytlmnncablfbafaa
open Go Go.RowKit
set_option maxRecDepth 20000
/-- A call: its kind, its number, its text. -/
abbrev Ac := Int × Int × ByteArray
def ac0 : Ac := (0, 0, emp)
/-- What the walk is told of a row of calls. -/
structure IsAs (w : World) (a : Option Addr) (len : Nat) (l : List Ac) : Prop where
  size : l.length = len
  lies : 0 < len → ∃ b off, a = some ⟨b, off, none⟩ ∧ b < w.heap.size ∧ ∀ i, i < len → w.cell? ⟨b, off + i * 3, none⟩ = some (.int .i64 (l.getD i ac0).1) ∧ w.cell? ⟨b, off + i * 3 + 1, none⟩ = some (.int .i64 (l.getD i ac0).2.1) ∧ w.cell? ⟨b, off + i * 3 + 2, none⟩ = some (.string (l.getD i ac0).2.2)
theorem isAs_below {w w' : World} {B : Nat} {a : Option Addr} {len : Nat} {l : List Ac} (h : IsAs w a len l) (hb : Below B w w') (hB : w.heap.size ≤ B := by exact Nat.le_refl _) : IsAs w' a len l :=
  ⟨h.size, fun h0 => by
    obtain ⟨b, off, e, hl, hf⟩ := h.lies h0
    have hlt : b < B := by omega
    exact ⟨b, off, e, by have := hb.size; omega, fun i hi => ⟨(hb.cell hlt).trans (hf i hi).1, (hb.cell hlt).trans (hf i hi).2.1, (hb.cell hlt).trans (hf i hi).2.2⟩⟩⟩
theorem acells_of {w wr : World} {B : Nat} {a : Option Addr} {len : Nat} {l : List Ac} {k : Nat} (h : IsAs w a len l) (hb : Below B w wr) (hB : w.heap.size ≤ B) (hk : k < len) :
    ∃ b off, a = some ⟨b, off, none⟩ ∧ wr.cell? ⟨b, off + k * 3, none⟩ = some (.int .i64 (l.getD k ac0).1) ∧ wr.cell? ⟨b, off + k * 3 + 1, none⟩ = some (.int .i64 (l.getD k ac0).2.1) ∧ wr.cell? ⟨b, off + k * 3 + 2, none⟩ = some (.string (l.getD k ac0).2.2) := by
  obtain ⟨b, off, rfl, _, hf⟩ := (isAs_below h hb hB).lies (by omega)
  exact ⟨b, off, rfl, hf k hk⟩
theorem ac_mem {l : List Ac} {k : Nat} (hk : k < l.length) : l.getD k ac0 ∈ l := by
  have e : l.getD k ac0 = l[k] := by simp [List.getD_eq_getElem?_getD, hk]
  rw [e]; exact List.getElem_mem _
/-- Is there more than is played? -/
def gA (l : List Ac) : Prop := 200 < l.length ∨ ∃ k, k < l.length ∧ 100 < (l.getD k ac0).2.2.size
theorem gA_len {l : List Ac} (h : ¬ gA l) : l.length ≤ 200 := by unfold gA at h; omega
theorem gA_sh {l : List Ac} (h : ¬ gA l) {k : Nat} (hk : k < l.length) : (l.getD k ac0).2.2.size ≤ 100 := by
  rcases Nat.lt_or_ge 100 (l.getD k ac0).2.2.size with hx | hx
  · exact absurd (.inr ⟨k, hk, hx⟩) h
  · exact hx
set_option maxHeartbeats 4000000 in
theorem great_no (a : Option Addr) (len cap : Nat) (l : List Ac) (hg : ¬ gA l) (w : World) (h : IsAs w a len l) :
    Calls Try.prog 10 #[.slice a len cap] w fun x w' => x = .returned (.bool false) ∧ Below w.heap.size w w' := by
  have hs := h.size
  have hl : len ≤ 200 := by have := gA_len hg; omega
  have q : ¬ (200 : Int) < (len : Int) := by omega
  have HG := Lib.hid hg
  have H := Lib.hid h
  clear h hg
  go_enter Try.func10, Try.ntmps10
  go_wp2_with fail
  go_loopw [10] (fun v10 wr => ∃ k : Nat, k ≤ len ∧ v10 = .int .i64 k ∧ Below w.heap.size w wr) (fun v10 _ => len - (intOf v10).toNat)
  case atStart => exact ⟨0, Nat.zero_le _, rfl, Below.refl _ _⟩
  case round =>
    obtain ⟨k, hk, rfl, hbel⟩ := hrel
    by_cases hlt : k < len
    · obtain ⟨b, off, rfl, c0, c1, c2⟩ := acells_of H.out hbel (Nat.le_refl _) hlt
      have hx := gA_sh HG.out (k := k) (by omega)
      have HBEL := Lib.hid hbel
      clear hbel
      generalize l.getD k ac0 = x at *
      obtain ⟨kd, n, s⟩ := x
      simp only at c0 c1 c2 hx
      have q2 : ¬ (100 : Int) < (s.size : Int) := by omega
      go_wp2
      go_roundw
      case rel => exact ⟨k + 1, by omega, by go_num, HBEL.out.alloc HBEL.out.size _⟩
      case measure => simp [intOf]; omega
    · obtain rfl : k = len := by omega
      have HBEL := Lib.hid hbel
      clear hbel
      go_wp2
      go_ret
      exact ⟨rfl, HBEL.out⟩
set_option maxHeartbeats 4000000 in
theorem great_yes (a : Option Addr) (len cap : Nat) (l : List Ac) (hg : gA l) (w : World) (h : IsAs w a len l) :
    Calls Try.prog 10 #[.slice a len cap] w fun x w' => x = .returned (.bool true) ∧ Below w.heap.size w w' := by
  have hs := h.size
  by_cases hl : 200 < len
  · have q : (200 : Int) < (len : Int) := by omega
    clear h hg
    go_enter Try.func10, Try.ntmps10
    go_wp2
    go_ret
    exact ⟨rfl, Below.refl _ _⟩
  have q : ¬ (200 : Int) < (len : Int) := by omega
  obtain ⟨i, hi, hti⟩ : ∃ k, k < l.length ∧ 100 < (l.getD k ac0).2.2.size := by
    rcases hg with hx | hx
    · omega
    · exact hx
  have HT := Lib.hid hti
  have H := Lib.hid h
  clear h hg hti
  go_enter Try.func10, Try.ntmps10
  go_wp2_with fail
  go_loopw [10] (fun v10 wr => ∃ k : Nat, k ≤ i ∧ v10 = .int .i64 k ∧ Below w.heap.size w wr) (fun v10 _ => len - (intOf v10).toNat)
  case atStart => exact ⟨0, Nat.zero_le _, rfl, Below.refl _ _⟩
  case round =>
    obtain ⟨k, hk, rfl, hbel⟩ := hrel
    have hlt : k < len := by omega
    obtain ⟨b, off, rfl, c0, c1, c2⟩ := acells_of H.out hbel (Nat.le_refl _) hlt
    have HBEL := Lib.hid hbel
    clear hbel
    by_cases hx : 100 < (l.getD k ac0).2.2.size
    · generalize l.getD k ac0 = x at *
      obtain ⟨kd, n, s⟩ := x
      simp only at c0 c1 c2 hx
      have q2 : (100 : Int) < (s.size : Int) := by omega
      go_wp2
      go_ret
      exact ⟨rfl, HBEL.out.alloc HBEL.out.size _⟩
    · have hki : k < i := by
        rcases Nat.lt_or_ge k i with hy | hy
        · exact hy
        · exact absurd (show 100 < (l.getD k ac0).2.2.size by rw [show k = i by omega]; exact HT.out) hx
      generalize l.getD k ac0 = x at *
      obtain ⟨kd, n, s⟩ := x
      simp only at c0 c1 c2 hx
      have q2 : ¬ (100 : Int) < (s.size : Int) := by omega
      go_wp2
      go_roundw
      case rel => exact ⟨k + 1, by omega, by go_num, HBEL.out.alloc HBEL.out.size _⟩
      case measure => simp [intOf]; omega
end Go.Proofs.Ytlmnncablfbafaa
