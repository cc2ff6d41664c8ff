/- Calls that came in; great. -/
import Derived.Test.YtclobdejlihblaaJ8
namespace Go.Proofs.Ytclobdejlihblaa
open Go Go.RowKit
set_option maxRecDepth 20000
/-- A call: its kind, its text, its frame. -/
abbrev Ac := Int × ByteArray × Fra
def ac0 : Ac := (0, emp, fr0)
/-- The six cells of a call lie there. -/
structure A6 (w : World) (b o : Nat) (c : Ac) : Prop where
  k : w.cell? ⟨b, o, none⟩ = some (.int .i64 c.1)
  t : w.cell? ⟨b, o + 1, none⟩ = some (.string c.2.1)
  e : w.cell? ⟨b, o + 2, none⟩ = some (.int .i64 c.2.2.1)
  s : w.cell? ⟨b, o + 3, none⟩ = some (.int .i64 c.2.2.2.1)
  a : w.cell? ⟨b, o + 4, none⟩ = some (.int .i64 c.2.2.2.2.1)
  d : w.cell? ⟨b, o + 5, none⟩ = some (.string c.2.2.2.2.2)
theorem A6.below {w w' : World} {B b o : Nat} {c : Ac} (h : A6 w b o c) (hb : Below B w w') (hl : b < B) : A6 w' b o c := by
  obtain ⟨h1, h2, h3, h4, h5, h6⟩ := h
  constructor <;> (rw [hb.cell hl]; assumption)
/-- What the walk is told of a row of calls. -/
structure IsAs (w : World) (a : Option Addr) (len : Nat) (l : List Ac) : Prop where
  size : l.length = len
  lies : 0 < len → ∃ b off, a = some ⟨b, off, none⟩ ∧ b < w.heap.size ∧ ∀ i, i < len → A6 w b (off + i * 6) (l.getD i ac0)
theorem isAs_below {w w' : World} {B : Nat} {a : Option Addr} {len : Nat} {l : List Ac} (h : IsAs w a len l) (hb : Below B w w') (hB : w.heap.size ≤ B := by exact Nat.le_refl _) : IsAs w' a len l :=
  ⟨h.size, fun h0 => by
    obtain ⟨b, off, e, hl, hf⟩ := h.lies h0
    have hlt : b < B := by omega
    exact ⟨b, off, e, by have := hb.size; omega, fun i hi => (hf i hi).below hb hlt⟩⟩
theorem acells_of {w wr : World} {B : Nat} {a : Option Addr} {len : Nat} {l : List Ac} {k : Nat} (h : IsAs w a len l) (hb : Below B w wr) (hB : w.heap.size ≤ B) (hk : k < len) : ∃ b off, a = some ⟨b, off, none⟩ ∧ A6 wr b (off + k * 6) (l.getD k ac0) := by
  obtain ⟨b, off, rfl, _, hf⟩ := (isAs_below h hb hB).lies (by omega)
  exact ⟨b, off, rfl, hf k hk⟩
/-- Is there more than is played? -/
def tooL (c : Ac) : Prop := 100 < c.2.1.size ∨ 100 < c.2.2.2.2.2.size
def gA (l : List Ac) : Prop := 100 < l.length ∨ ∃ k, k < l.length ∧ tooL (l.getD k ac0)
theorem gA_len {l : List Ac} (h : ¬ gA l) : l.length ≤ 100 := by unfold gA at h; omega
theorem gA_sh {l : List Ac} (h : ¬ gA l) {k : Nat} (hk : k < l.length) : (l.getD k ac0).2.1.size ≤ 100 ∧ (l.getD k ac0).2.2.2.2.2.size ≤ 100 := by
  have hn : ¬ tooL (l.getD k ac0) := fun hx => h (.inr ⟨k, hk, hx⟩)
  unfold tooL at hn
  omega
set_option maxHeartbeats 4000000 in
theorem great_no (a : Option Addr) (len cap : Nat) (l : List Ac) (hg : ¬ gA l) (w : World) (h : IsAs w a len l) :
    Calls Try.prog 12 #[.slice a len cap] w fun x w' => x = .returned (.bool false) ∧ Below w.heap.size w w' := by
  have hs := h.size
  have hl : len ≤ 100 := by have := gA_len hg; omega
  have q : ¬ (100 : Int) < (len : Int) := by omega
  have HG := Lib.hid hg
  have H := Lib.hid h
  clear h hg
  go_enter Try.func12, Try.ntmps12
  go_wp2_with fail
  go_loopw [10] (fun v10 wr => ∃ k : Nat, k ≤ len ∧ v10 = .int .i64 k ∧ Below w.heap.size w wr) (fun v10 _ => len - (intOf v10).toNat)
  case atStart => exact ⟨0, Nat.zero_le _, rfl, Below.refl _ _⟩
  case round =>
    obtain ⟨k, hk, rfl, hbel⟩ := hrel
    by_cases hlt : k < len
    · obtain ⟨b, off, rfl, c0, c1, c2, c3, c4, c5⟩ := acells_of H.out hbel (Nat.le_refl _) hlt
      obtain ⟨hx, hy⟩ := gA_sh HG.out (k := k) (by omega)
      have HBEL := Lib.hid hbel
      clear hbel
      generalize l.getD k ac0 = x at *
      obtain ⟨kd, t, e, s, n, d⟩ := x
      simp only at c0 c1 c2 c3 c4 c5 hx hy
      have q2 : ¬ (100 : Int) < (t.size : Int) := by omega
      have q3 : ¬ (100 : Int) < (d.size : Int) := by omega
      go_wp2
      go_roundw
      case rel => exact ⟨k + 1, by omega, by go_num, HBEL.out.alloc HBEL.out.size _⟩
      case measure => simp [intOf]; omega
    · obtain rfl : k = len := by omega
      have HBEL := Lib.hid hbel
      clear hbel
      go_wp2
      go_ret
      exact ⟨rfl, HBEL.out⟩
set_option maxHeartbeats 4000000 in
theorem great_yes (a : Option Addr) (len cap : Nat) (l : List Ac) (hg : gA l) (w : World) (h : IsAs w a len l) :
    Calls Try.prog 12 #[.slice a len cap] w fun x w' => x = .returned (.bool true) ∧ Below w.heap.size w w' := by
  have hs := h.size
  by_cases hl : 100 < len
  · have q : (100 : Int) < (len : Int) := by omega
    clear h hg
    go_enter Try.func12, Try.ntmps12
    go_wp2
    go_ret
    exact ⟨rfl, Below.refl _ _⟩
  have q : ¬ (100 : Int) < (len : Int) := by omega
  obtain ⟨i, hi, hti⟩ : ∃ k, k < l.length ∧ tooL (l.getD k ac0) := by
    rcases hg with hx | hx
    · omega
    · exact hx
  have HT := Lib.hid hti
  have H := Lib.hid h
  clear h hg hti
  go_enter Try.func12, Try.ntmps12
  go_wp2_with fail
  go_loopw [10] (fun v10 wr => ∃ k : Nat, k ≤ i ∧ v10 = .int .i64 k ∧ Below w.heap.size w wr) (fun v10 _ => len - (intOf v10).toNat)
  case atStart => exact ⟨0, Nat.zero_le _, rfl, Below.refl _ _⟩
  case round =>
    obtain ⟨k, hk, rfl, hbel⟩ := hrel
    have hlt : k < len := by omega
    obtain ⟨b, off, rfl, c0, c1, c2, c3, c4, c5⟩ := acells_of H.out hbel (Nat.le_refl _) hlt
    have HBEL := Lib.hid hbel
    clear hbel
    by_cases hx : 100 < (l.getD k ac0).2.1.size
    · generalize l.getD k ac0 = x at *
      obtain ⟨kd, t, e, s, n, d⟩ := x
      simp only at c0 c1 c2 c3 c4 c5 hx
      have q2 : (100 : Int) < (t.size : Int) := by omega
      go_wp2
      go_ret
      exact ⟨rfl, HBEL.out.alloc HBEL.out.size _⟩
    by_cases hy : 100 < (l.getD k ac0).2.2.2.2.2.size
    · generalize l.getD k ac0 = x at *
      obtain ⟨kd, t, e, s, n, d⟩ := x
      simp only at c0 c1 c2 c3 c4 c5 hx hy
      have q2 : ¬ (100 : Int) < (t.size : Int) := by omega
      have q3 : (100 : Int) < (d.size : Int) := by omega
      go_wp2
      go_ret
      exact ⟨rfl, HBEL.out.alloc HBEL.out.size _⟩
    have hki : k < i := by
      rcases Nat.lt_or_ge k i with hz | hz
      · exact hz
      · have ht := HT.out
        rw [show i = k by omega] at ht
        exact absurd ht (by unfold tooL; omega)
    generalize l.getD k ac0 = x at *
    obtain ⟨kd, t, e, s, n, d⟩ := x
    simp only at c0 c1 c2 c3 c4 c5 hx hy
    have q2 : ¬ (100 : Int) < (t.size : Int) := by omega
    have q3 : ¬ (100 : Int) < (d.size : Int) := by omega
    go_wp2
    go_roundw
    case rel => exact ⟨k + 1, by omega, by go_num, HBEL.out.alloc HBEL.out.size _⟩
    case measure => simp [intOf]; omega
end Go.Proofs.Ytclobdejlihblaa
