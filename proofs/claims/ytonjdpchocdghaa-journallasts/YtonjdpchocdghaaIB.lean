/- Lists of lists of updates that came in; great. -/
import Derived.Test.YtonjdpchocdghaaIA
namespace Go.Proofs.Ytonjdpchocdghaa
open Go Go.RowKit
set_option maxRecDepth 20000
/-- What the walk is told of lists of updates (of each of the rounds only where the updates lie). -/
structure IsLs (w : World) (a : Option Addr) (len : Nat) (ls : List Rn) : Prop where
  size : ls.length = len
  lies : 0 < len → ∃ b off, a = some ⟨b, off, none⟩ ∧ b < w.heap.size ∧ ∀ i, i < len → w.cell? ⟨b, off + i, none⟩ = some (.slice (ls.getD i rn0).a (ls.getD i rn0).len (ls.getD i rn0).cap)
  each : ∀ r ∈ ls, Ru w r
theorem lcells_of {w wr : World} {a : Option Addr} {len : Nat} {ls : List Rn} {k : Nat} (h : IsLs w a len ls) (hb : Below w.heap.size w wr) (hk : k < len) :
    ∃ b off, a = some ⟨b, off, none⟩ ∧ wr.cell? ⟨b, off + k, none⟩ = some (.slice (ls.getD k rn0).a (ls.getD k rn0).len (ls.getD k rn0).cap) ∧ Ru w (ls.getD k rn0) := by
  obtain ⟨b, off, rfl, hl, hf⟩ := h.lies (by omega)
  have hs := h.size
  exact ⟨b, off, rfl, (hb.cell hl).trans (hf k hk), h.each _ (rn_mem (by omega))⟩
/-- Is there more than is played? -/
def gOne (us : List Up) : Prop := 12 < us.length ∨ gAll us.length us
def gL (ls : List Rn) : Prop := 30 < ls.length ∨ ∃ i, i < ls.length ∧ gOne (ls.getD i rn0).us
theorem gOne_sm {us : List Up} (h : ¬ gOne us) : us.length ≤ 12 ∧ Sm us := by
  unfold gOne at h
  have h1 : us.length ≤ 12 := by omega
  refine ⟨h1, by omega, fun i hi => ?_⟩
  have h2 : ¬ gU (us.getD i up0) := fun hx => h (.inr (.inr ⟨i, hi, hx⟩))
  unfold gU at h2
  omega
theorem gL_at {ls : List Rn} (h : ¬ gL ls) : ls.length ≤ 30 ∧ ∀ i, i < ls.length → (ls.getD i rn0).us.length ≤ 12 ∧ Sm (ls.getD i rn0).us := by
  unfold gL at h
  exact ⟨by omega, fun i hi => gOne_sm fun hx => h (.inr ⟨i, hi, hx⟩)⟩
set_option maxHeartbeats 2000000 in
theorem great_no (a : Option Addr) (len cap : Nat) (ls : List Rn) (hg : ¬ gL ls) (w : World) (h : IsLs w a len ls) :
    Calls Try.prog 11 #[.slice a len cap] w fun x w' => x = .returned (.bool false) ∧ Below w.heap.size w w' := by
  have hsz := h.size
  unfold gL at hg
  have hl : len ≤ 30 := by omega
  have q1 : decide ((30 : Int) < (len : Int)) = false := decide_eq_false (by omega)
  have HT : Hid (∀ i, i < len → ¬ gOne (ls.getD i rn0).us) := fun i hi hx => hg (.inr ⟨i, by omega, hx⟩)
  have H := Lib.hid h
  clear h hg
  go_enter Try.func11, Try.ntmps11
  go_wp2_with fail
  go_loopw [10] (fun v10 wr => ∃ k : Nat, k ≤ len ∧ v10 = .int .i64 k ∧ Below w.heap.size w wr) (fun v10 _ => len - (intOf v10).toNat)
  case atStart => exact ⟨0, Nat.zero_le _, rfl, Below.refl _ _⟩
  case round =>
    obtain ⟨k, hk, rfl, hbel⟩ := hrel
    by_cases hlt : k < len
    · obtain ⟨b, off, rfl, c0, hru⟩ := lcells_of H.out hbel hlt
      have ht := HT.out k hlt
      unfold gOne at ht
      generalize ls.getD k rn0 = r at *
      obtain ⟨ro, rn, ra, rl, rc, rus⟩ := r
      have hrl := hru.1.size
      simp only at c0 hrl ht
      have hr2 := hru.below hbel
      have HG := Lib.hid (greatAll_no ra rl rc rus (by rw [← hrl]; exact fun hx => ht (.inr hx)) wr hr2.1)
      have q2 : decide ((12 : Int) < (rl : Int)) = false := decide_eq_false (by omega)
      have HBEL := Lib.hid hbel
      clear hru hr2 hbel ht hrl
      go_wp2_with fail
      refine HG.out.mono ?_
      rintro e w2 ⟨rfl, hb⟩
      have HB2 := Lib.hid (Below.next HBEL.out hb)
      clear hb HBEL HG c0
      go_wp2
      go_roundw
      case rel => exact ⟨k + 1, by omega, by go_num, HB2.out⟩
      case measure => simp [intOf]; omega
    · obtain rfl : k = len := by omega
      have HBEL := Lib.hid hbel
      clear hbel
      go_wp2
      go_ret
      exact ⟨rfl, HBEL.out⟩
set_option maxHeartbeats 2000000 in
theorem great_yes (a : Option Addr) (len cap : Nat) (ls : List Rn) (hg : gL ls) (w : World) (h : IsLs w a len ls) :
    Calls Try.prog 11 #[.slice a len cap] w fun x w' => x = .returned (.bool true) ∧ Below w.heap.size w w' := by
  have hsz := h.size
  unfold gL at hg
  by_cases hl : 30 < len
  · have q1 : decide ((30 : Int) < (len : Int)) = true := decide_eq_true (by omega)
    clear h hg
    go_enter Try.func11, Try.ntmps11
    go_wp2
    go_ret
    exact ⟨rfl, Below.refl _ _⟩
  obtain ⟨i, hi, hti⟩ : ∃ i, i < len ∧ gOne (ls.getD i rn0).us := by
    rcases hg with hx | ⟨i, hi, hx⟩
    · exact absurd hx (by omega)
    · exact ⟨i, by omega, hx⟩
  have hl' : len ≤ 30 := by omega
  have q1 : decide ((30 : Int) < (len : Int)) = false := decide_eq_false (by omega)
  have HT := Lib.hid hti
  have H := Lib.hid h
  clear h hg hl hti
  go_enter Try.func11, Try.ntmps11
  go_wp2_with fail
  go_loopw [10] (fun v10 wr => ∃ k : Nat, k ≤ i ∧ v10 = .int .i64 k ∧ Below w.heap.size w wr) (fun v10 _ => len - (intOf v10).toNat)
  case atStart => exact ⟨0, Nat.zero_le _, rfl, Below.refl _ _⟩
  case round =>
    obtain ⟨k, hk, rfl, hbel⟩ := hrel
    have hlt : k < len := by omega
    obtain ⟨b, off, rfl, c0, hru⟩ := lcells_of H.out hbel hlt
    by_cases htt : gOne (ls.getD k rn0).us
    · unfold gOne at htt
      clear HT
      generalize ls.getD k rn0 = r at *
      obtain ⟨ro, rn, ra, rl, rc, rus⟩ := r
      have hrl := hru.1.size
      simp only at c0 hrl htt
      have HBEL := Lib.hid hbel
      by_cases h12 : 12 < rl
      · have q2 : decide ((12 : Int) < (rl : Int)) = true := decide_eq_true (by omega)
        clear hru hbel htt hrl
        go_wp2
        go_ret
        exact ⟨rfl, HBEL.out⟩
      · have hr2 := hru.below hbel
        have HG := Lib.hid (greatAll_yes ra rl rc rus (by rw [← hrl]; rcases htt with hx | hx; exact absurd hx (by omega); exact hx) wr hr2.1)
        have q2 : decide ((12 : Int) < (rl : Int)) = false := decide_eq_false (by omega)
        clear hru hr2 hbel htt hrl h12
        go_wp2_with fail
        refine HG.out.mono ?_
        rintro e w2 ⟨rfl, hb⟩
        have HB2 := Lib.hid (Below.next HBEL.out hb)
        clear hb HBEL HG c0
        go_wp2
        go_ret
        exact ⟨rfl, HB2.out⟩
    · have hki : k < i := by
        rcases Nat.lt_or_ge k i with hx | hx
        · exact hx
        · exact absurd (show gOne (ls.getD k rn0).us by rw [show k = i by omega]; exact HT.out) htt
      unfold gOne at htt
      clear HT
      generalize ls.getD k rn0 = r at *
      obtain ⟨ro, rn, ra, rl, rc, rus⟩ := r
      have hrl := hru.1.size
      simp only at c0 hrl htt
      have hr2 := hru.below hbel
      have HG := Lib.hid (greatAll_no ra rl rc rus (by rw [← hrl]; exact fun hx => htt (.inr hx)) wr hr2.1)
      have q2 : decide ((12 : Int) < (rl : Int)) = false := decide_eq_false (by omega)
      have HBEL := Lib.hid hbel
      clear hru hr2 hbel htt hrl
      go_wp2_with fail
      refine HG.out.mono ?_
      rintro e w2 ⟨rfl, hb⟩
      have HB2 := Lib.hid (Below.next HBEL.out hb)
      clear hb HBEL HG c0
      go_wp2
      go_roundw
      case rel => exact ⟨k + 1, by omega, by go_num, HB2.out⟩
      case measure => simp [intOf]; omega
end Go.Proofs.Ytonjdpchocdghaa
