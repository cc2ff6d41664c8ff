/- Fields that came in; great. -/
import Derived.Test.YtgeafheoaffooaaDoorM4
namespace Go.Proofs.YtgeafheoaffooaaDoor
open Go Go.RowKit
/-- A field: its kind, its number, its text. -/
abbrev Fd := Int × Int × ByteArray
def fd0 : Fd := (0, 0, ⟨#[]⟩)
/-- From the place off of block b on lie these fields. -/
structure Fs (w : World) (b off : Nat) (fs : List Fd) : Prop where
  k : ∀ i, i < fs.length → w.cell? ⟨b, off + i * 3, none⟩ = some (.int .i64 (fs.getD i fd0).1)
  n : ∀ i, i < fs.length → w.cell? ⟨b, off + i * 3 + 1, none⟩ = some (.int .i64 (fs.getD i fd0).2.1)
  t : ∀ i, i < fs.length → w.cell? ⟨b, off + i * 3 + 2, none⟩ = some (.string (fs.getD i fd0).2.2)
theorem Fs.lt {w b off fs} (h : Fs w b off fs) (h0 : 0 < fs.length) : b < w.heap.size := block_lt_of_cell (h.k 0 h0)
/-- What the walk is told of the fields. -/
structure IsFs (w : World) (a : Option Addr) (len : Nat) (fs : List Fd) : Prop where
  size : fs.length = len
  lies : 0 < len → ∃ b off, a = some ⟨b, off, none⟩ ∧ Fs w b off fs
  nlo : ∀ i, i < len → -9223372036854775808 ≤ (fs.getD i fd0).2.1
  nhi : ∀ i, i < len → (fs.getD i fd0).2.1 ≤ 9223372036854775807
theorem isFs_below {w w' : World} {B : Nat} {a : Option Addr} {len : Nat} {fs : List Fd} (h : IsFs w a len fs) (hb : Below B w w') (hB : w.heap.size ≤ B := by exact Nat.le_refl _) : IsFs w' a len fs :=
  ⟨h.size, fun h0 => by
    obtain ⟨b, off, e, hf⟩ := h.lies h0
    have hl := hf.lt (by rw [h.size]; exact h0)
    exact ⟨b, off, e, ⟨fun i hi => (hb.cell (by show b < B; omega)).trans (hf.k i hi), fun i hi => (hb.cell (by show b < B; omega)).trans (hf.n i hi), fun i hi => (hb.cell (by show b < B; omega)).trans (hf.t i hi)⟩⟩, h.nlo, h.nhi⟩
/-- Is there more than is played? -/
def greatS (s : ByteArray) (len : Nat) (fs : List Fd) : Prop := 500 < s.size ∨ 200 < len ∨ ∃ i, i < len ∧ 200 < (fs.getD i fd0).2.2.size
set_option maxHeartbeats 1000000 in
theorem great_no (s : ByteArray) (a : Option Addr) (len cap : Nat) (fs : List Fd) (hg : ¬ greatS s len fs) (w : World) (h : IsFs w a len fs) :
    Calls Tryd.prog 10 #[.string s, .slice a len cap] w fun x w' => x = .returned (.bool false) ∧ Below w.heap.size w w' := by
  unfold greatS at hg
  have hs : s.size ≤ 500 := by omega
  have hl : len ≤ 200 := by omega
  have HT : Hid (∀ i, i < len → (fs.getD i fd0).2.2.size ≤ 200) := fun i hi => Nat.le_of_not_lt fun hx => hg (.inr (.inr ⟨i, hi, hx⟩))
  have H := Lib.hid h
  clear h hg
  go_enter Tryd.func10, Tryd.ntmps10
  go_wp2_with fail
  go_loopw [17] (fun v17 wr => ∃ k : Nat, k ≤ len ∧ v17 = .int .i64 k ∧ Below w.heap.size w wr) (fun v17 _ => len - (intOf v17).toNat)
  case atStart => exact ⟨0, Nat.zero_le _, rfl, Below.refl _ _⟩
  case round =>
    obtain ⟨k, hk, rfl, hbel⟩ := hrel
    have HBEL := Lib.hid hbel
    clear hbel
    by_cases hlt : k < len
    · obtain ⟨b, off, rfl, hf⟩ := H.out.lies (by omega)
      have hfl := H.out.size
      have hb := hf.lt (by omega)
      have ck : wr.cell? ⟨b, off + k * 3, none⟩ = some (.int .i64 (fs.getD k fd0).1) := (HBEL.out.cell hb).trans (hf.k k (by omega))
      have cn : wr.cell? ⟨b, off + k * 3 + 1, none⟩ = some (.int .i64 (fs.getD k fd0).2.1) := (HBEL.out.cell hb).trans (hf.n k (by omega))
      have ct : wr.cell? ⟨b, off + k * 3 + 2, none⟩ = some (.string (fs.getD k fd0).2.2) := (HBEL.out.cell hb).trans (hf.t k (by omega))
      have hts := HT.out k hlt
      clear hf hfl hb
      generalize (fs.getD k fd0).2.2 = t at *
      generalize (fs.getD k fd0).2.1 = n at *
      generalize (fs.getD k fd0).1 = kd at *
      have hH : w.heap.size ≤ wr.heap.size := HBEL.out.size
      go_wp2
      go_roundw
      case rel => exact ⟨k + 1, by omega, by go_num, HBEL.out.alloc hH _⟩
      case measure => simp [intOf]; omega
    · obtain rfl : k = len := by omega
      go_wp2
      go_ret
      exact ⟨rfl, HBEL.out⟩
set_option maxHeartbeats 1000000 in
theorem great_yes (s : ByteArray) (a : Option Addr) (len cap : Nat) (fs : List Fd) (hg : greatS s len fs) (w : World) (h : IsFs w a len fs) :
    Calls Tryd.prog 10 #[.string s, .slice a len cap] w fun x w' => x = .returned (.bool true) ∧ Below w.heap.size w w' := by
  by_cases hs : 500 < s.size
  · clear h hg
    go_enter Tryd.func10, Tryd.ntmps10
    go_wp2
    go_ret
    exact ⟨rfl, Below.refl _ _⟩
  by_cases hl : 200 < len
  · clear h hg
    go_enter Tryd.func10, Tryd.ntmps10
    go_wp2
    go_ret
    exact ⟨rfl, Below.refl _ _⟩
  obtain ⟨i, hi, hti⟩ : ∃ i, i < len ∧ 200 < (fs.getD i fd0).2.2.size := by
    rcases hg with hx | hx | hx
    · exact absurd hx hs
    · exact absurd hx hl
    · exact hx
  have hs' : s.size ≤ 500 := by omega
  have hl' : len ≤ 200 := by omega
  have HT := Lib.hid hti
  have H := Lib.hid h
  clear h hg hs hl hti
  go_enter Tryd.func10, Tryd.ntmps10
  go_wp2_with fail
  go_loopw [17] (fun v17 wr => ∃ k : Nat, k ≤ i ∧ v17 = .int .i64 k ∧ Below w.heap.size w wr) (fun v17 _ => len - (intOf v17).toNat)
  case atStart => exact ⟨0, Nat.zero_le _, rfl, Below.refl _ _⟩
  case round =>
    obtain ⟨k, hk, rfl, hbel⟩ := hrel
    have HBEL := Lib.hid hbel
    clear hbel
    have hlt : k < len := by omega
    obtain ⟨b, off, rfl, hf⟩ := H.out.lies (by omega)
    have hfl := H.out.size
    have hb := hf.lt (by omega)
    have ck : wr.cell? ⟨b, off + k * 3, none⟩ = some (.int .i64 (fs.getD k fd0).1) := (HBEL.out.cell hb).trans (hf.k k (by omega))
    have cn : wr.cell? ⟨b, off + k * 3 + 1, none⟩ = some (.int .i64 (fs.getD k fd0).2.1) := (HBEL.out.cell hb).trans (hf.n k (by omega))
    have ct : wr.cell? ⟨b, off + k * 3 + 2, none⟩ = some (.string (fs.getD k fd0).2.2) := (HBEL.out.cell hb).trans (hf.t k (by omega))
    have hne : ¬ 200 < (fs.getD k fd0).2.2.size → k ≠ i := fun hx e => hx (e ▸ HT.out)
    have HNE := Lib.hid hne
    clear hf hfl hb hne
    generalize (fs.getD k fd0).2.2 = t at *
    generalize (fs.getD k fd0).2.1 = n at *
    generalize (fs.getD k fd0).1 = kd at *
    have hH : w.heap.size ≤ wr.heap.size := HBEL.out.size
    by_cases htt : 200 < t.size
    · go_wp2
      go_ret
      exact ⟨rfl, HBEL.out.alloc hH _⟩
    · have hki : k < i := by have := HNE.out htt; omega
      go_wp2
      go_roundw
      case rel => exact ⟨k + 1, by omega, by go_num, HBEL.out.alloc hH _⟩
      case measure => simp [intOf]; omega
end Go.Proofs.YtgeafheoaffooaaDoor
