/- Great, of updates; Same, of rounds that are the same. -/
import Derived.Test.YtbbgibekplfacaaDoorI0a
import Derived.Deep.QuietTactic
import Derived.BigQuiet
namespace Go.Proofs.YtbbgibekplfacaaDoor
open Go Go.RowKit
/-- Is an update more than is played? -/
def gU (u : Up) : Prop := 100 < u.1.size ∨ 1200 < u.2.2.2.size
theorem great_u_no (u : Up) (h : ¬ gU u) (w : World) : Calls Tryd.prog 34 #[uu u] w fun e w' => e = .returned (.bool false) ∧ Below w.heap.size w w' := by
  obtain ⟨key, x, n, s⟩ := u
  unfold gU at h
  simp only at h
  have q1 : decide ((100 : Int) < (key.size : Int)) = false := decide_eq_false (by omega)
  have q2 : decide ((1200 : Int) < (s.size : Int)) = false := decide_eq_false (by omega)
  unfold uu
  go_enter Tryd.func34, Tryd.ntmps34
  go_wp2
  go_ret
  exact ⟨rfl, Joins.below_alloc1 _ _⟩
theorem great_u_yes (u : Up) (h : gU u) (w : World) : Calls Tryd.prog 34 #[uu u] w fun e w' => e = .returned (.bool true) ∧ Below w.heap.size w w' := by
  obtain ⟨key, x, n, s⟩ := u
  unfold gU at h
  simp only at h
  unfold uu
  by_cases h1 : 100 < key.size
  · have q1 : decide ((100 : Int) < (key.size : Int)) = true := decide_eq_true (by omega)
    clear h
    go_enter Tryd.func34, Tryd.ntmps34
    go_wp2
    go_ret
    exact ⟨rfl, Joins.below_alloc1 _ _⟩
  · have q1 : decide ((100 : Int) < (key.size : Int)) = false := decide_eq_false (by omega)
    have q2 : decide ((1200 : Int) < (s.size : Int)) = true := decide_eq_true (by omega)
    clear h
    go_enter Tryd.func34, Tryd.ntmps34
    go_wp2
    go_ret
    exact ⟨rfl, Joins.below_alloc1 _ _⟩
/-- Is there more than is played? -/
def gAll (len : Nat) (us : List Up) : Prop := 200 < len ∨ ∃ i, i < len ∧ gU (us.getD i up0)
set_option maxHeartbeats 2000000 in
theorem greatAll_no (a : Option Addr) (len cap : Nat) (us : List Up) (hg : ¬ gAll len us) (w : World) (h : IsUs w a len us) :
    Calls Tryd.prog 54 #[.slice a len cap] w fun x w' => x = .returned (.bool false) ∧ Below w.heap.size w w' := by
  unfold gAll at hg
  have hl : len ≤ 200 := by omega
  have HT : Hid (∀ i, i < len → ¬ gU (us.getD i up0)) := fun i hi hx => hg (.inr ⟨i, hi, hx⟩)
  have H := Lib.hid h
  clear h hg
  go_enter Tryd.func54, Tryd.ntmps54
  go_wp2_with fail
  go_loopw [3] (fun v3 wr => ∃ k : Nat, k ≤ len ∧ v3 = .int .i64 k ∧ Below w.heap.size w wr) (fun v3 _ => len - (intOf v3).toNat)
  case atStart => exact ⟨0, Nat.zero_le _, rfl, Below.refl _ _⟩
  case round =>
    obtain ⟨k, hk, rfl, hbel⟩ := hrel
    by_cases hlt : k < len
    · obtain ⟨b, off, rfl, hf⟩ := H.out.lies (by omega)
      have hfl := H.out.size
      have hb := hf.lt (by omega)
      have c0 : wr.cell? ⟨b, off + k * 4, none⟩ = some (.string (us.getD k up0).1) := (hbel.cell hb).trans (hf.key k (by omega))
      have c1 : wr.cell? ⟨b, off + k * 4 + 1, none⟩ = some (.int .i64 (us.getD k up0).2.1) := (hbel.cell hb).trans (hf.k k (by omega))
      have c2 : wr.cell? ⟨b, off + k * 4 + 2, none⟩ = some (.int .i64 (us.getD k up0).2.2.1) := (hbel.cell hb).trans (hf.n k (by omega))
      have c3 : wr.cell? ⟨b, off + k * 4 + 3, none⟩ = some (.string (us.getD k up0).2.2.2) := (hbel.cell hb).trans (hf.t k (by omega))
      have HG := fun w => Lib.hid (great_u_no (us.getD k up0) (HT.out k hlt) w)
      have HBEL := Lib.hid hbel
      clear hf hfl hb hbel
      generalize us.getD k up0 = u at *
      obtain ⟨key, x, n, s⟩ := u
      simp only [uu] at c0 c1 c2 c3 HG
      go_wp2_with fail
      refine (HG _).out.mono ?_
      rintro e w2 ⟨rfl, hb⟩
      have HB2 := Lib.hid (Below.next HBEL.out hb)
      clear hb HBEL
      go_wp2
      go_roundw
      case rel => exact ⟨k + 1, by omega, by go_num, HB2.out⟩
      case measure => simp [intOf]; omega
    · obtain rfl : k = len := by omega
      have HBEL := Lib.hid hbel
      clear hbel
      go_wp2
      go_ret
      exact ⟨rfl, HBEL.out⟩
set_option maxHeartbeats 2000000 in
theorem greatAll_yes (a : Option Addr) (len cap : Nat) (us : List Up) (hg : gAll len us) (w : World) (h : IsUs w a len us) :
    Calls Tryd.prog 54 #[.slice a len cap] w fun x w' => x = .returned (.bool true) ∧ Below w.heap.size w w' := by
  by_cases hl : 200 < len
  · clear h hg
    go_enter Tryd.func54, Tryd.ntmps54
    go_wp2
    go_ret
    exact ⟨rfl, Below.refl _ _⟩
  obtain ⟨i, hi, hti⟩ : ∃ i, i < len ∧ gU (us.getD i up0) := by
    rcases hg with hx | hx
    · exact absurd hx hl
    · exact hx
  have hl' : len ≤ 200 := by omega
  have HT := Lib.hid hti
  have H := Lib.hid h
  clear h hg hl hti
  go_enter Tryd.func54, Tryd.ntmps54
  go_wp2_with fail
  go_loopw [3] (fun v3 wr => ∃ k : Nat, k ≤ i ∧ v3 = .int .i64 k ∧ Below w.heap.size w wr) (fun v3 _ => len - (intOf v3).toNat)
  case atStart => exact ⟨0, Nat.zero_le _, rfl, Below.refl _ _⟩
  case round =>
    obtain ⟨k, hk, rfl, hbel⟩ := hrel
    have hlt : k < len := by omega
    obtain ⟨b, off, rfl, hf⟩ := H.out.lies (by omega)
    have hfl := H.out.size
    have hb := hf.lt (by omega)
    have c0 : wr.cell? ⟨b, off + k * 4, none⟩ = some (.string (us.getD k up0).1) := (hbel.cell hb).trans (hf.key k (by omega))
    have c1 : wr.cell? ⟨b, off + k * 4 + 1, none⟩ = some (.int .i64 (us.getD k up0).2.1) := (hbel.cell hb).trans (hf.k k (by omega))
    have c2 : wr.cell? ⟨b, off + k * 4 + 2, none⟩ = some (.int .i64 (us.getD k up0).2.2.1) := (hbel.cell hb).trans (hf.n k (by omega))
    have c3 : wr.cell? ⟨b, off + k * 4 + 3, none⟩ = some (.string (us.getD k up0).2.2.2) := (hbel.cell hb).trans (hf.t k (by omega))
    have HBEL := Lib.hid hbel
    by_cases htt : gU (us.getD k up0)
    · have HG := fun w => Lib.hid (great_u_yes (us.getD k up0) htt w)
      clear hf hfl hb hbel htt
      generalize us.getD k up0 = u at *
      obtain ⟨key, x, n, s⟩ := u
      simp only [uu] at c0 c1 c2 c3 HG
      go_wp2_with fail
      refine (HG _).out.mono ?_
      rintro e w2 ⟨rfl, hb⟩
      have HB2 := Lib.hid (Below.next HBEL.out hb)
      clear hb HBEL
      go_wp2
      go_ret
      exact ⟨rfl, HB2.out⟩
    · have hki : k < i := by
        rcases Nat.lt_or_ge k i with hx | hx
        · exact hx
        · exact absurd (show gU (us.getD k up0) by rw [show k = i by omega]; exact HT.out) htt
      have HG := fun w => Lib.hid (great_u_no (us.getD k up0) htt w)
      clear hf hfl hb hbel htt
      generalize us.getD k up0 = u at *
      obtain ⟨key, x, n, s⟩ := u
      simp only [uu] at c0 c1 c2 c3 HG
      go_wp2_with fail
      refine (HG _).out.mono ?_
      rintro e w2 ⟨rfl, hb⟩
      have HB2 := Lib.hid (Below.next HBEL.out hb)
      clear hb HBEL
      go_wp2
      go_roundw
      case rel => exact ⟨k + 1, by omega, by go_num, HB2.out⟩
      case measure => simp [intOf]; omega
theorem eq_yes (s : ByteArray) : (s.toList == s.toList) = true := by simp
set_option maxHeartbeats 8000000 in
theorem ds_yes (o n : Int) (a1 a2 : Option Addr) (len cap1 cap2 : Nat) (us : List Up) (hl : len ≤ 1000000) (w : World) (h1 : IsUs w a1 len us) (h2 : IsUs w a2 len us) :
    Calls Tryd.prog 16 #[.agg #[.int .i64 o, .int .i64 n, .slice a1 len cap1], .agg #[.int .i64 o, .int .i64 n, .slice a2 len cap2]] w fun e w' => e = .returned (.bool true) ∧ Below w.heap.size w w' := by
  obtain ⟨r1, r2⟩ := two_rounds w o n a1 len cap1 o n a2 len cap2
  have p0 := r1.c0
  have p1 := r1.c1
  have p2 := r1.c2
  have s0 := r2.c0
  have s1 := r2.c1
  have s2 := r2.c2
  have hB := Joins.below_alloc2 w (.cells #[.int .i64 o, .int .i64 n, .slice a1 len cap1] 35) (.cells #[.int .i64 o, .int .i64 n, .slice a2 len cap2] 35)
  have H1 := Lib.hid h1
  have H2 := Lib.hid h2
  have HB := Lib.hid hB
  have HR1 := Lib.hid r1
  have HR2 := Lib.hid r2
  clear h1 h2 hB r1 r2
  go_enter Tryd.func16, Tryd.ntmps16
  go_wp2_with fail
  clear p0 p1 p2 s0 s1 s2
  go_loopw [5] (fun v5 wr => ∃ k : Nat, k ≤ len ∧ v5 = .int .i64 k ∧ Rb wr w.heap.size o n a1 len cap1 ∧ Rb wr (w.heap.size + 1) o n a2 len cap2 ∧ Below w.heap.size w wr) (fun v5 _ => len - (intOf v5).toNat)
  case atStart => exact ⟨0, Nat.zero_le _, rfl, HR1.out, HR2.out, HB.out⟩
  case round =>
    obtain ⟨k, hk, rfl, r1, r2, hbel⟩ := hrel
    clear HB HR1 HR2
    have p2 := r1.c2
    have s2 := r2.c2
    have HR1 := Lib.hid r1
    have HR2 := Lib.hid r2
    clear r1 r2
    by_cases hlt : k < len
    · obtain ⟨b1, off1, rfl, c0, c1, c2, c3⟩ := cells4 H1.out hbel hlt
      obtain ⟨b2, off2, rfl, d0, d1, d2, d3⟩ := cells4 H2.out hbel hlt
      have HBEL := Lib.hid hbel
      clear hbel
      generalize us.getD k up0 = u at *
      obtain ⟨uk, ux, un, ut⟩ := u
      have qk := eq_yes uk
      have qt := eq_yes ut
      simp only at c0 c1 c2 c3 d0 d1 d2 d3
      go_wp2_with fail
      go_quiet (fail)
      go_wp2
      go_roundw
      case rel => exact ⟨k + 1, by omega, by go_num, HR1.out.drewN _, HR2.out.drewN _, belN HBEL.out _⟩
      case measure => simp [intOf]; omega
    · obtain rfl : k = len := by omega
      have HBEL := Lib.hid hbel
      clear hbel
      go_wp2
      go_ret
      exact ⟨rfl, HBEL.out⟩
end Go.Proofs.YtbbgibekplfacaaDoor
