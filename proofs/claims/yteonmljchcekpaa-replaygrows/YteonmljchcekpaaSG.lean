/- GreatAll. -/
import Derived.Test.YteonmljchcekpaaSV
namespace Go.Proofs.Yteonmljchcekpaa
open Go Go.RowKit
theorem Ub.c {w : World} {b : Nat} {key : ByteArray} {x n : Int} {s : ByteArray} (h : Ub w b (key, x, n, s)) : w.cell? ⟨b, 0, none⟩ = some (.string key) ∧ w.cell? ⟨b, 1, none⟩ = some (.int .i64 x) ∧ w.cell? ⟨b, 2, none⟩ = some (.int .i64 n) ∧ w.cell? ⟨b, 3, none⟩ = some (.string s) :=
  ⟨cell_at h 0 _ rfl, cell_at h 1 _ rfl, cell_at h 2 _ rfl, cell_at h 3 _ rfl⟩
theorem Vb.c {w : World} {b : Nat} {k n : Int} {s : ByteArray} (h : Vb w b (k, n, s)) : w.cell? ⟨b, 0, none⟩ = some (.int .i64 k) ∧ w.cell? ⟨b, 1, none⟩ = some (.int .i64 n) ∧ w.cell? ⟨b, 2, none⟩ = some (.string s) :=
  ⟨cell_at h 0 _ rfl, cell_at h 1 _ rfl, cell_at h 2 _ rfl⟩
theorem Below.next {w w1 w2 : World} (h : Below w.heap.size w w1) (hb : Below w1.heap.size w1 w2) : Below w.heap.size w w2 := h.trans (hb.mono h.size)
theorem Below.far {w w1 W w2 : World} (hb : Below W.heap.size W w2) (h : Below w.heap.size w w1) (e1 : W.os = w1.os) (e2 : W.tape = w1.tape) (e3 : W.output = w1.output) (e4 : W.heap = w1.heap) : Below w.heap.size w w2 := Below.next (w1 := W) ⟨e1.trans h.os, e2.trans h.tape, e3.trans h.output, by rw [e4]; exact h.size, fun k hk => by rw [e4]; exact h.block k hk⟩ hb
/-- Is there more than is played? -/
def gAll (len : Nat) (us : List Up) : Prop := 200 < len ∨ ∃ i, i < len ∧ gU (us.getD i up0)
set_option maxHeartbeats 2000000 in
theorem greatAll_no (a : Option Addr) (len cap : Nat) (us : List Up) (hg : ¬ gAll len us) (w : World) (h : IsUs w a len us) :
    Calls Try.prog 25 #[.slice a len cap] w fun x w' => x = .returned (.bool false) ∧ Below w.heap.size w w' := by
  unfold gAll at hg
  have hl : len ≤ 200 := by omega
  have HT : Hid (∀ i, i < len → ¬ gU (us.getD i up0)) := fun i hi hx => hg (.inr ⟨i, hi, hx⟩)
  have H := Lib.hid h
  clear h hg
  go_enter Try.func25, Try.ntmps25
  go_wp2_with fail
  go_loopw [3] (fun v3 wr => ∃ k : Nat, k ≤ len ∧ v3 = .int .i64 k ∧ Below w.heap.size w wr) (fun v3 _ => len - (intOf v3).toNat)
  case atStart => exact ⟨0, Nat.zero_le _, rfl, Below.refl _ _⟩
  case round =>
    obtain ⟨k, hk, rfl, hbel⟩ := hrel
    by_cases hlt : k < len
    · obtain ⟨b, off, rfl, hf⟩ := H.out.lies (by omega)
      have hfl := H.out.size
      have hb := hf.lt (by omega)
      have c0 : wr.cell? ⟨b, off + k * 4, none⟩ = some (.string (us.getD k up0).1) := (hbel.cell hb).trans (hf.key k (by omega))
      have c1 : wr.cell? ⟨b, off + k * 4 + 1, none⟩ = some (.int .i64 (us.getD k up0).2.1) := (hbel.cell hb).trans (hf.k k (by omega))
      have c2 : wr.cell? ⟨b, off + k * 4 + 2, none⟩ = some (.int .i64 (us.getD k up0).2.2.1) := (hbel.cell hb).trans (hf.n k (by omega))
      have c3 : wr.cell? ⟨b, off + k * 4 + 3, none⟩ = some (.string (us.getD k up0).2.2.2) := (hbel.cell hb).trans (hf.t k (by omega))
      have HG := fun w => Lib.hid (great_u_no (us.getD k up0) (HT.out k hlt) w)
      have HBEL := Lib.hid hbel
      clear hf hfl hb hbel
      generalize us.getD k up0 = u at *
      obtain ⟨key, x, n, s⟩ := u
      simp only [uu] at c0 c1 c2 c3 HG
      go_wp2_with fail
      refine (HG _).out.mono ?_
      rintro e w2 ⟨rfl, hb⟩
      have HB2 := Lib.hid (Below.next HBEL.out hb)
      clear hb HBEL
      go_wp2
      go_roundw
      case rel => exact ⟨k + 1, by omega, by go_num, HB2.out⟩
      case measure => simp [intOf]; omega
    · obtain rfl : k = len := by omega
      have HBEL := Lib.hid hbel
      clear hbel
      go_wp2
      go_ret
      exact ⟨rfl, HBEL.out⟩
set_option maxHeartbeats 2000000 in
theorem greatAll_yes (a : Option Addr) (len cap : Nat) (us : List Up) (hg : gAll len us) (w : World) (h : IsUs w a len us) :
    Calls Try.prog 25 #[.slice a len cap] w fun x w' => x = .returned (.bool true) ∧ Below w.heap.size w w' := by
  by_cases hl : 200 < len
  · clear h hg
    go_enter Try.func25, Try.ntmps25
    go_wp2
    go_ret
    exact ⟨rfl, Below.refl _ _⟩
  obtain ⟨i, hi, hti⟩ : ∃ i, i < len ∧ gU (us.getD i up0) := by
    rcases hg with hx | hx
    · exact absurd hx hl
    · exact hx
  have hl' : len ≤ 200 := by omega
  have HT := Lib.hid hti
  have H := Lib.hid h
  clear h hg hl hti
  go_enter Try.func25, Try.ntmps25
  go_wp2_with fail
  go_loopw [3] (fun v3 wr => ∃ k : Nat, k ≤ i ∧ v3 = .int .i64 k ∧ Below w.heap.size w wr) (fun v3 _ => len - (intOf v3).toNat)
  case atStart => exact ⟨0, Nat.zero_le _, rfl, Below.refl _ _⟩
  case round =>
    obtain ⟨k, hk, rfl, hbel⟩ := hrel
    have hlt : k < len := by omega
    obtain ⟨b, off, rfl, hf⟩ := H.out.lies (by omega)
    have hfl := H.out.size
    have hb := hf.lt (by omega)
    have c0 : wr.cell? ⟨b, off + k * 4, none⟩ = some (.string (us.getD k up0).1) := (hbel.cell hb).trans (hf.key k (by omega))
    have c1 : wr.cell? ⟨b, off + k * 4 + 1, none⟩ = some (.int .i64 (us.getD k up0).2.1) := (hbel.cell hb).trans (hf.k k (by omega))
    have c2 : wr.cell? ⟨b, off + k * 4 + 2, none⟩ = some (.int .i64 (us.getD k up0).2.2.1) := (hbel.cell hb).trans (hf.n k (by omega))
    have c3 : wr.cell? ⟨b, off + k * 4 + 3, none⟩ = some (.string (us.getD k up0).2.2.2) := (hbel.cell hb).trans (hf.t k (by omega))
    have HBEL := Lib.hid hbel
    by_cases htt : gU (us.getD k up0)
    · have HG := fun w => Lib.hid (great_u_yes (us.getD k up0) htt w)
      clear hf hfl hb hbel htt
      generalize us.getD k up0 = u at *
      obtain ⟨key, x, n, s⟩ := u
      simp only [uu] at c0 c1 c2 c3 HG
      go_wp2_with fail
      refine (HG _).out.mono ?_
      rintro e w2 ⟨rfl, hb⟩
      have HB2 := Lib.hid (Below.next HBEL.out hb)
      clear hb HBEL
      go_wp2
      go_ret
      exact ⟨rfl, HB2.out⟩
    · have hki : k < i := by
        rcases Nat.lt_or_ge k i with hx | hx
        · exact hx
        · exact absurd (show gU (us.getD k up0) by rw [show k = i by omega]; exact HT.out) htt
      have HG := fun w => Lib.hid (great_u_no (us.getD k up0) htt w)
      clear hf hfl hb hbel htt
      generalize us.getD k up0 = u at *
      obtain ⟨key, x, n, s⟩ := u
      simp only [uu] at c0 c1 c2 c3 HG
      go_wp2_with fail
      refine (HG _).out.mono ?_
      rintro e w2 ⟨rfl, hb⟩
      have HB2 := Lib.hid (Below.next HBEL.out hb)
      clear hb HBEL
      go_wp2
      go_roundw
      case rel => exact ⟨k + 1, by omega, by go_num, HB2.out⟩
      case measure => simp [intOf]; omega
end Go.Proofs.Yteonmljchcekpaa
