/- Great and SameAll, of rounds; a log within a law; two side by side. -/
import Derived.Test.YtjmkdgjdemndaaaDoorC5
import Derived.Test.YtjmkdgjdemndaaaDoorI3
namespace Go.Proofs.YtjmkdgjdemndaaaDoor
open Go Go.RowKit
set_option maxRecDepth 20000
/-- Is a round more than is played? -/
def gR (us : List Up) : Prop := 20 < us.length ∨ gAll us.length us
set_option maxHeartbeats 1000000 in
theorem greatR_yes (o n : Int) (a : Option Addr) (len cap : Nat) (us : List Up) (hg : gR us) (w : World) (hu : IsUs w a len us) :
    Calls Tryd.prog 34 #[.agg #[.int .i64 o, .int .i64 n, .slice a len cap]] w fun x w' => x = .returned (.bool true) ∧ Below w.heap.size w w' := by
  have hr := Rb.new w o n a len cap
  have c2 := hr.c2
  have hsz := hu.size
  have hB := Joins.below_alloc1 w (.cells #[.int .i64 o, .int .i64 n, .slice a len cap] 43)
  have hu1 := isUs_below hu hB
  by_cases hl : 20 < len
  · have q : decide ((20 : Int) < (len : Int)) = true := decide_eq_true (by omega)
    have HB := Lib.hid hB
    clear hr hu hg hB hu1 hl hsz
    go_enter Tryd.func34, Tryd.ntmps34
    go_wp2
    go_ret
    exact ⟨rfl, HB.out⟩
  · have q : decide ((20 : Int) < (len : Int)) = false := decide_eq_false (by omega)
    have hg2 : gAll len us := by rcases hg with hx | hx; · omega
                                 · rw [hsz] at hx; exact hx
    have HG := fun w h => Lib.hid (greatAll_yes a len cap us hg2 w h)
    have HB := Lib.hid hB
    have HU := Lib.hid hu1
    clear hr hu hg hB hu1 hl hg2 hsz
    go_enter Tryd.func34, Tryd.ntmps34
    go_wp2_with fail
    refine (HG _ HU.out).out.mono ?_
    rintro x w1 ⟨rfl, hb⟩
    have HB1 := Lib.hid (Below.next HB.out hb)
    clear hb HB
    go_wp2
    go_ret
    exact ⟨rfl, HB1.out⟩
set_option maxHeartbeats 1000000 in
theorem greatR_no (o n : Int) (a : Option Addr) (len cap : Nat) (us : List Up) (hg : ¬ gR us) (w : World) (hu : IsUs w a len us) :
    Calls Tryd.prog 34 #[.agg #[.int .i64 o, .int .i64 n, .slice a len cap]] w fun x w' => x = .returned (.bool false) ∧ Below w.heap.size w w' := by
  have hr := Rb.new w o n a len cap
  have c2 := hr.c2
  have hsz := hu.size
  have hB := Joins.below_alloc1 w (.cells #[.int .i64 o, .int .i64 n, .slice a len cap] 43)
  have hu1 := isUs_below hu hB
  unfold gR at hg
  rw [hsz] at hg
  have hl : ¬ 20 < len := fun h => hg (.inl h)
  have q : decide ((20 : Int) < (len : Int)) = false := decide_eq_false (by omega)
  have hg2 : ¬ gAll len us := fun h => hg (.inr h)
  have HG := fun w h => Lib.hid (greatAll_no a len cap us hg2 w h)
  have HB := Lib.hid hB
  have HU := Lib.hid hu1
  clear hr hu hg hB hu1 hl hg2 hsz
  go_enter Tryd.func34, Tryd.ntmps34
  go_wp2_with fail
  refine (HG _ HU.out).out.mono ?_
  rintro x w1 ⟨rfl, hb⟩
  have HB1 := Lib.hid (Below.next HB.out hb)
  clear hb HB
  go_wp2
  go_ret
  exact ⟨rfl, HB1.out⟩
/-- Are these rounds more than is played? -/
def gRs (rs : List Rn) : Prop := 40 < rs.length ∨ ∃ i, i < rs.length ∧ gR (rs.getD i rn0).us
set_option maxHeartbeats 2000000 in
theorem greatRs_no (a : Option Addr) (len cap : Nat) (rs : List Rn) (hg : ¬ gRs rs) (w : World) (h : IsRs w a len rs) :
    Calls Tryd.prog 25 #[.slice a len cap] w fun x w' => x = .returned (.bool false) ∧ Below w.heap.size w w' := by
  unfold gRs at hg
  have hsz := h.size
  rw [hsz] at hg
  have hl : len ≤ 40 := by omega
  have HT : Hid (∀ i, i < len → ¬ gR (rs.getD i rn0).us) := fun i hi hx => hg (.inr ⟨i, hi, hx⟩)
  have H := Lib.hid h
  clear h hg hsz
  go_enter Tryd.func25, Tryd.ntmps25
  go_wp2_with fail
  go_loopw [3] (fun v3 wr => ∃ k : Nat, k ≤ len ∧ v3 = .int .i64 k ∧ Below w.heap.size w wr) (fun v3 _ => len - (intOf v3).toNat)
  case atStart => exact ⟨0, Nat.zero_le _, rfl, Below.refl _ _⟩
  case round =>
    obtain ⟨k, hk, rfl, hbel⟩ := hrel
    by_cases hlt : k < len
    · obtain ⟨b, off, rfl, c0, c1, c2, hru⟩ := rcells_of H.out hbel hlt
      have HG := fun w h => Lib.hid (greatR_no (rs.getD k rn0).o (rs.getD k rn0).n (rs.getD k rn0).a (rs.getD k rn0).len (rs.getD k rn0).cap (rs.getD k rn0).us (HT.out k hlt) w h)
      have HU := Lib.hid (isUs_below hru.1 hbel)
      have HBEL := Lib.hid hbel
      clear hbel hru
      generalize rs.getD k rn0 = r at *
      obtain ⟨ro, rn, ra, rl, rc, ru⟩ := r
      simp only at c0 c1 c2 HG HU
      go_wp2_with fail
      refine (HG _ HU.out).out.mono ?_
      rintro e w2 ⟨rfl, hb⟩
      have HB2 := Lib.hid (Below.next HBEL.out hb)
      clear hb HBEL
      go_wp2
      go_roundw
      case rel => exact ⟨k + 1, by omega, by go_num, HB2.out⟩
      case measure => simp [intOf]; omega
    · obtain rfl : k = len := by omega
      have HBEL := Lib.hid hbel
      clear hbel
      go_wp2
      go_ret
      exact ⟨rfl, HBEL.out⟩
set_option maxHeartbeats 2000000 in
theorem greatRs_yes (a : Option Addr) (len cap : Nat) (rs : List Rn) (hg : gRs rs) (w : World) (h : IsRs w a len rs) :
    Calls Tryd.prog 25 #[.slice a len cap] w fun x w' => x = .returned (.bool true) ∧ Below w.heap.size w w' := by
  unfold gRs at hg
  have hsz := h.size
  rw [hsz] at hg
  by_cases hl : 40 < len
  · clear h hg hsz
    go_enter Tryd.func25, Tryd.ntmps25
    go_wp2
    go_ret
    exact ⟨rfl, Below.refl _ _⟩
  obtain ⟨i, hi, hti⟩ : ∃ i, i < len ∧ gR (rs.getD i rn0).us := by
    rcases hg with hx | hx
    · exact absurd hx hl
    · exact hx
  have hl' : len ≤ 40 := by omega
  have HT := Lib.hid hti
  have H := Lib.hid h
  clear h hg hl hti hsz
  go_enter Tryd.func25, Tryd.ntmps25
  go_wp2_with fail
  go_loopw [3] (fun v3 wr => ∃ k : Nat, k ≤ i ∧ v3 = .int .i64 k ∧ Below w.heap.size w wr) (fun v3 _ => len - (intOf v3).toNat)
  case atStart => exact ⟨0, Nat.zero_le _, rfl, Below.refl _ _⟩
  case round =>
    obtain ⟨k, hk, rfl, hbel⟩ := hrel
    have hlt : k < len := by omega
    obtain ⟨b, off, rfl, c0, c1, c2, hru⟩ := rcells_of H.out hbel hlt
    have HU := Lib.hid (isUs_below hru.1 hbel)
    have HBEL := Lib.hid hbel
    by_cases htt : gR (rs.getD k rn0).us
    · have HG := fun w h => Lib.hid (greatR_yes (rs.getD k rn0).o (rs.getD k rn0).n (rs.getD k rn0).a (rs.getD k rn0).len (rs.getD k rn0).cap (rs.getD k rn0).us htt w h)
      clear hbel hru htt
      generalize rs.getD k rn0 = r at *
      obtain ⟨ro, rn, ra, rl, rc, ru⟩ := r
      simp only at c0 c1 c2 HG HU
      go_wp2_with fail
      refine (HG _ HU.out).out.mono ?_
      rintro e w2 ⟨rfl, hb⟩
      have HB2 := Lib.hid (Below.next HBEL.out hb)
      clear hb HBEL
      go_wp2
      go_ret
      exact ⟨rfl, HB2.out⟩
    · have hki : k < i := by
        rcases Nat.lt_or_ge k i with hx | hx
        · exact hx
        · exact absurd (show gR (rs.getD k rn0).us by rw [show k = i by omega]; exact HT.out) htt
      have HG := fun w h => Lib.hid (greatR_no (rs.getD k rn0).o (rs.getD k rn0).n (rs.getD k rn0).a (rs.getD k rn0).len (rs.getD k rn0).cap (rs.getD k rn0).us htt w h)
      clear hbel hru htt
      generalize rs.getD k rn0 = r at *
      obtain ⟨ro, rn, ra, rl, rc, ru⟩ := r
      simp only at c0 c1 c2 HG HU
      go_wp2_with fail
      refine (HG _ HU.out).out.mono ?_
      rintro e w2 ⟨rfl, hb⟩
      have HB2 := Lib.hid (Below.next HBEL.out hb)
      clear hb HBEL
      go_wp2
      go_roundw
      case rel => exact ⟨k + 1, by omega, by go_num, HB2.out⟩
      case measure => simp [intOf]; omega
/-- Rounds that are alike. -/
def Alk (len : Nat) (rs ms : List Rn) : Prop := ∀ i, i < len → (rs.getD i rn0).o = (ms.getD i rn0).o ∧ (rs.getD i rn0).n = (ms.getD i rn0).n ∧ (rs.getD i rn0).us = (ms.getD i rn0).us
set_option maxHeartbeats 4000000 in
theorem sameall_yes (a1 a2 : Option Addr) (len cap1 cap2 : Nat) (rs ms : List Rn) (hll : len ≤ 1000000) (hal : Alk len rs ms) (hsm : ∀ i, i < len → (rs.getD i rn0).us.length ≤ 1000000) (w : World) (h1 : IsRs w a1 len rs) (h2 : IsRs w a2 len ms) :
    Calls Tryd.prog 28 #[.slice a1 len cap1, .slice a2 len cap2] w fun e w' => e = .returned (.bool true) ∧ Below w.heap.size w w' := by
  have HAL := Lib.hid hal
  have HSM := Lib.hid hsm
  have H1 := Lib.hid h1
  have H2 := Lib.hid h2
  clear hal hsm h1 h2
  go_enter Tryd.func28, Tryd.ntmps28
  go_wp2_with fail
  go_loopw [5] (fun v5 wr => ∃ k : Nat, k ≤ len ∧ v5 = .int .i64 k ∧ Below w.heap.size w wr) (fun v5 _ => len - (intOf v5).toNat)
  case atStart => exact ⟨0, Nat.zero_le _, rfl, Below.refl _ _⟩
  case round =>
    obtain ⟨k, hk, rfl, hbel⟩ := hrel
    by_cases hlt : k < len
    · have HCE : Hid (∀ W, Below w.heap.size w W → ∀ W', Below W.heap.size W W' → True) := Lib.hid fun _ _ _ _ => trivial
      clear HCE
      obtain ⟨b1, off1, e1, hf1⟩ := H1.out.lies (by omega)
      obtain ⟨b2, off2, e2, hf2⟩ := H2.out.lies (by omega)
      subst e1 e2
      have hs1 := H1.out.size
      have hs2 := H2.out.size
      have hl1 := hf1.lt (by omega)
      have hl2 := hf2.lt (by omega)
      obtain ⟨z1, z2, z3⟩ := HAL.out k hlt
      have hu1 := (H1.out.each _ (rn_mem (show k < rs.length by omega))).1
      have hu2 := (H2.out.each _ (rn_mem (show k < ms.length by omega))).1
      have hle := HSM.out k hlt
      have g1 := hf1.o k (by omega)
      have g2 := hf1.n k (by omega)
      have g3 := hf1.u k (by omega)
      have g4 := hf2.o k (by omega)
      have g5 := hf2.n k (by omega)
      have g6 := hf2.u k (by omega)
      rw [← z1] at g4
      rw [← z2] at g5
      rw [← z3] at hu2
      have hlen := hu1.size.symm.trans hu2.size
      rw [← hlen] at g6 hu2
      have hul := hu1.size
      clear z1 z2 z3 hf1 hf2 hs1 hs2 hlen
      generalize rs.getD k rn0 = r at *
      generalize ms.getD k rn0 = m at *
      obtain ⟨ro, rn, ra, rl, rc, rus⟩ := r
      obtain ⟨mo, mn, ma, ml, mc, mus⟩ := m
      simp only at g1 g2 g3 g4 g5 g6 hu1 hu2 hle hul
      have HC := fun w h1 h2 => Lib.hid (ds_yes ro rn ra ma rl rc mc rus (by omega) w h1 h2)
      have HCE : Hid (∀ W, Below w.heap.size w W → W.cell? ⟨b1, off1 + k * 3, none⟩ = some (.int .i64 ro) ∧ W.cell? ⟨b1, off1 + k * 3 + 1, none⟩ = some (.int .i64 rn) ∧ W.cell? ⟨b1, off1 + k * 3 + 2, none⟩ = some (.slice ra rl rc) ∧ W.cell? ⟨b2, off2 + k * 3, none⟩ = some (.int .i64 ro) ∧ W.cell? ⟨b2, off2 + k * 3 + 1, none⟩ = some (.int .i64 rn) ∧ W.cell? ⟨b2, off2 + k * 3 + 2, none⟩ = some (.slice ma rl mc)) := Lib.hid fun W hW => ⟨(hW.cell hl1).trans g1, (hW.cell hl1).trans g2, (hW.cell hl1).trans g3, (hW.cell hl2).trans g4, (hW.cell hl2).trans g5, (hW.cell hl2).trans g6⟩
      obtain ⟨c0, c1, c2, d0, d1, d2⟩ := HCE.out _ hbel
      have HU1 := Lib.hid (isUs_below hu1 hbel)
      have HU2 := Lib.hid (isUs_below hu2 hbel)
      have HBEL := Lib.hid hbel
      clear hu1 hu2 hbel g1 g2 g3 g4 g5 g6 hle hl1 hl2 hul
      go_wp2_with fail
      refine wp_region_held_drew (S := fun w' => (w'.cell? ⟨b1, off1 + k * 3, none⟩ = some (.int .i64 ro) ∧ w'.cell? ⟨b1, off1 + k * 3 + 1, none⟩ = some (.int .i64 rn) ∧ w'.cell? ⟨b1, off1 + k * 3 + 2, none⟩ = some (.slice ra rl rc)) ∧ w'.cell? ⟨b2, off2 + k * 3, none⟩ = some (.int .i64 ro) ∧ w'.cell? ⟨b2, off2 + k * 3 + 1, none⟩ = some (.int .i64 rn) ∧ w'.cell? ⟨b2, off2 + k * 3 + 2, none⟩ = some (.slice ma rl mc)) (by kernel_rfl) ?_ (fun hH => ?_)
      · exact ⟨⟨c0, c1, c2⟩, d0, d1, d2⟩
      refine wpAnyH_take (i := 0) (oi := { dst := some 17, op := Go.Op.move (Go.Operand.tmp 0), type := 57, pos := "ref.go:90", after := #[], guard := none }) (v := ?_) rfl (by kernel_rfl) (by kernel_rfl) (by kernel_rfl) (fun _ _ _ h => h) (Or.inl ⟨by rfl, ?_⟩) (by assumption) ?_
      rotate_left
      · intro w hSw
        try dsimp only at hSw
        obtain ⟨⟨q0, q1, q2⟩, q3, q4, q5⟩ := hSw
        go_simp
        all_goals with_reducible rfl
      try simp only [Act.put, List.setIfInBounds_toArray, List.set_cons_zero, List.set_cons_succ]
      refine wpAnyH_take (i := 1) (oi := { dst := some 18, op := Go.Op.move (Go.Operand.tmp 5), type := 3, pos := "ref.go:90", after := #[], guard := none }) (v := ?_) rfl (by kernel_rfl) (by kernel_rfl) (by kernel_rfl) (fun _ _ _ h => h) (Or.inl ⟨by rfl, ?_⟩) (by assumption) ?_
      rotate_left
      · intro w hSw
        try dsimp only at hSw
        obtain ⟨⟨q0, q1, q2⟩, q3, q4, q5⟩ := hSw
        go_simp
        all_goals with_reducible rfl
      try simp only [Act.put, List.setIfInBounds_toArray, List.set_cons_zero, List.set_cons_succ]
      refine wpAnyH_take (i := 2) (oi := { dst := some 19, op := Go.Op.indexAddr 57 (Go.Operand.tmp 17) (Go.Operand.tmp 18), type := 0, pos := "ref.go:90", after := #[{ on := 0, ground := Go.Ground.data }, { on := 1, ground := Go.Ground.data }], guard := none }) (v := ?_) rfl (by kernel_rfl) (by kernel_rfl) (by kernel_rfl) (fun _ _ _ h => h) (Or.inl ⟨by rfl, ?_⟩) (by assumption) ?_
      rotate_left
      · intro w hSw
        try dsimp only at hSw
        obtain ⟨⟨q0, q1, q2⟩, q3, q4, q5⟩ := hSw
        go_simp
        all_goals with_reducible rfl
      try simp only [Act.put, List.setIfInBounds_toArray, List.set_cons_zero, List.set_cons_succ]
      refine wpAnyH_take (i := 3) (oi := { dst := some 20, op := Go.Op.load 43 (Go.Operand.tmp 19), type := 43, pos := "ref.go:90", after := #[{ on := 2, ground := Go.Ground.data }], guard := none }) (v := ?_) rfl (by kernel_rfl) (by kernel_rfl) (by kernel_rfl) (fun _ _ _ h => h) (Or.inl ⟨by rfl, ?_⟩) (by assumption) ?_
      rotate_left
      · intro w hSw
        try dsimp only at hSw
        obtain ⟨⟨q0, q1, q2⟩, q3, q4, q5⟩ := hSw
        go_simp
        all_goals with_reducible rfl
      try simp only [Act.put, List.setIfInBounds_toArray, List.set_cons_zero, List.set_cons_succ]
      refine wpAnyH_take (i := 4) (oi := { dst := some 21, op := Go.Op.move (Go.Operand.tmp 1), type := 57, pos := "ref.go:90", after := #[], guard := none }) (v := ?_) rfl (by kernel_rfl) (by kernel_rfl) (by kernel_rfl) (fun _ _ _ h => h) (Or.inl ⟨by rfl, ?_⟩) (by assumption) ?_
      rotate_left
      · intro w hSw
        try dsimp only at hSw
        obtain ⟨⟨q0, q1, q2⟩, q3, q4, q5⟩ := hSw
        go_simp
        all_goals with_reducible rfl
      try simp only [Act.put, List.setIfInBounds_toArray, List.set_cons_zero, List.set_cons_succ]
      refine wpAnyH_take (i := 5) (oi := { dst := some 22, op := Go.Op.move (Go.Operand.tmp 5), type := 3, pos := "ref.go:90", after := #[], guard := none }) (v := ?_) rfl (by kernel_rfl) (by kernel_rfl) (by kernel_rfl) (fun _ _ _ h => h) (Or.inl ⟨by rfl, ?_⟩) (by assumption) ?_
      rotate_left
      · intro w hSw
        try dsimp only at hSw
        obtain ⟨⟨q0, q1, q2⟩, q3, q4, q5⟩ := hSw
        go_simp
        all_goals with_reducible rfl
      try simp only [Act.put, List.setIfInBounds_toArray, List.set_cons_zero, List.set_cons_succ]
      refine wpAnyH_take (i := 6) (oi := { dst := some 23, op := Go.Op.indexAddr 57 (Go.Operand.tmp 21) (Go.Operand.tmp 22), type := 0, pos := "ref.go:90", after := #[{ on := 4, ground := Go.Ground.data }, { on := 5, ground := Go.Ground.data }], guard := none }) (v := ?_) rfl (by kernel_rfl) (by kernel_rfl) (by kernel_rfl) (fun _ _ _ h => h) (Or.inl ⟨by rfl, ?_⟩) (by assumption) ?_
      rotate_left
      · intro w hSw
        try dsimp only at hSw
        obtain ⟨⟨q0, q1, q2⟩, q3, q4, q5⟩ := hSw
        go_simp
        all_goals with_reducible rfl
      try simp only [Act.put, List.setIfInBounds_toArray, List.set_cons_zero, List.set_cons_succ]
      refine wpAnyH_take (i := 7) (oi := { dst := some 24, op := Go.Op.load 43 (Go.Operand.tmp 23), type := 43, pos := "ref.go:90", after := #[{ on := 6, ground := Go.Ground.data }], guard := none }) (v := ?_) rfl (by kernel_rfl) (by kernel_rfl) (by kernel_rfl) (fun _ _ _ h => h) (Or.inl ⟨by rfl, ?_⟩) (by assumption) ?_
      rotate_left
      · intro w hSw
        try dsimp only at hSw
        obtain ⟨⟨q0, q1, q2⟩, q3, q4, q5⟩ := hSw
        go_simp
        all_goals with_reducible rfl
      try simp only [Act.put, List.setIfInBounds_toArray, List.set_cons_zero, List.set_cons_succ]
      refine wpAnyH_ready (rs := [8]) (by kernel_rfl) (by simp) ?_
      refine AllReadyH.cons (o := { dst := some 25, op := Go.Op.call { callee := Go.Callee.value (Go.Operand.func 53), args := #[Go.Operand.tmp 20, Go.Operand.tmp 24], argTypes := #[43, 43] }, type := 4, pos := "ref.go:90", after := #[{ on := 3, ground := Go.Ground.data }, { on := 7, ground := Go.Ground.data }], guard := none }) rfl (fun K hK => ?_) ?_
      · go_simp
        refine (HC wr.drew (isUs_same HU1.out fun _ _ _ => rfl) (isUs_same HU2.out fun _ _ _ => rfl)).out.mono ?_
        rintro e w2 ⟨rfl, hb⟩
        have HB2 : Hid (Below w.heap.size w w2) := Lib.hid (Below.next HBEL.out ⟨hb.os, hb.tape, hb.output, hb.size, hb.block⟩)
        obtain ⟨x1, x2, x3, x4, x5, x6⟩ := HCE.out _ HB2.out
        clear hb
        go_wp2_with fail
        refine hK.out _ _ ?_ (fun hH => ?_)
        · exact ⟨⟨x1, x2, x3⟩, x4, x5, x6⟩
        clear hK K
        try simp only [Act.put, List.setIfInBounds_toArray, List.set_cons_zero, List.set_cons_succ]
        refine wpAnyH_take (i := 9) (oi := { dst := some 26, op := Go.Op.unOp Go.UnOp.not 4 (Go.Operand.tmp 25), type := 4, pos := "ref.go:90", after := #[{ on := 8, ground := Go.Ground.data }], guard := none }) (v := ?_) rfl (by kernel_rfl) (by kernel_rfl) (by kernel_rfl) (fun _ _ _ h => h) (Or.inl ⟨by rfl, ?_⟩) (by assumption) ?_
        rotate_left
        · intro w hSw
          try dsimp only at hSw
          obtain ⟨⟨q0, q1, q2⟩, q3, q4, q5⟩ := hSw
          go_simp
          all_goals with_reducible rfl
        try simp only [Act.put, List.setIfInBounds_toArray, List.set_cons_zero, List.set_cons_succ]
        refine wpAnyH_done (by kernel_rfl) ?_ _
        go_wp2
        go_roundw
        case rel => exact ⟨k + 1, by omega, by go_num, HB2.out⟩
        case measure => simp [intOf]; omega
      exact AllReadyH.nil
    · obtain rfl : k = len := by omega
      have HBEL := Lib.hid hbel
      clear hbel
      go_wp2
      go_ret
      exact ⟨rfl, HBEL.out⟩
theorem alk_of {rs ms : List Rn} (h : rs.map kR = ms.map kR) (len : Nat) : Alk len rs ms := fun i _ => by
  have e : kR (rs.getD i rn0) = kR (ms.getD i rn0) := by rw [← map_getD, ← map_getD, h]
  unfold kR at e
  simp only [Prod.mk.injEq] at e
  exact e
theorem gRs_at {rs : List Rn} (h : ¬ gRs rs) : rs.length ≤ 40 ∧ ∀ i, i < rs.length → (rs.getD i rn0).us.length ≤ 20 ∧ Sm (rs.getD i rn0).us := by
  unfold gRs at h
  refine ⟨by omega, fun i hi => ?_⟩
  have h1 : ¬ gR (rs.getD i rn0).us := fun hx => h (.inr ⟨i, hi, hx⟩)
  unfold gR gAll at h1
  refine ⟨by omega, by omega, fun j hj => ?_⟩
  have h2 : ¬ gU ((rs.getD i rn0).us.getD j up0) := fun hx => h1 (.inr (.inr ⟨j, hj, hx⟩))
  unfold gU at h2
  omega
theorem runL_len (c : Int) : ∀ (rs L : List Cr), (runL c L rs).length ≤ L.length + rs.length
  | [], L => Nat.le_refl _
  | r :: rs, L => by
    have h1 := runL_len c rs (comL c L r)
    have h2 := comL_len c L r
    have e : runL c L (r :: rs) = runL c (comL c L r) rs := rfl
    rw [e, List.length_cons]
    omega
/-- What so many of the rounds make. -/
def sofar (c : Int) (rs : List Rn) (k : Nat) : List Cr := runL c [] ((rs.take k).map kR)
theorem sofar_zero (c : Int) (rs : List Rn) : sofar c rs 0 = [] := rfl
theorem sofar_step (c : Int) {rs : List Rn} {k : Nat} (hk : k < rs.length) : sofar c rs (k + 1) = comL c (sofar c rs k) (kR (rs.getD k rn0)) := by
  unfold sofar
  rw [take_snoc rs k hk, List.map_append, List.map_cons, List.map_nil, runL_snoc]
theorem sofar_len (c : Int) (rs : List Rn) (k : Nat) : (sofar c rs k).length ≤ k := by
  have := runL_len c ((rs.take k).map kR) []
  simp at this
  unfold sofar
  simp
  omega
section
variable {T T1 T2 : TypeId} {P P1 P2 : Int → List Cr → Value → Array Value → Prop} {w0 w w' : World} {b d : Nat} {F F' G G' : Nat → Prop} {c : Int} {L M : List Cr} {r : Cr}
/-- A log within a law. -/
structure Cj (T : TypeId) (P : Int → List Cr → Value → Array Value → Prop) (w0 w : World) (b : Nat) (F : Nat → Prop) (c : Int) (L : List Cr) : Prop where
  bel : Below w0.heap.size w0 w
  j : Cx T P w0.heap.size w b F c L
theorem Cj.next (h : Cj T P w0 w b F c L) (hb : Below w.heap.size w w') : Cj T P w0 w' b F c L := ⟨Below.next h.bel hb, h.j.next hb⟩
theorem Cj.com (h : Cj T P w0 w b F c L) (ha : ComW T P w0.heap.size w w' b F F' c L r) : Cj T P w0 w' b F' c (comL c L r) :=
  ⟨ha.lv.below h.bel (fun k hk => (h.j.foot k hk).1) h.bel.size, ha.cx⟩
/-- Two logs side by side within a law. -/
structure Cp (T1 : TypeId) (P1 : Int → List Cr → Value → Array Value → Prop) (T2 : TypeId) (P2 : Int → List Cr → Value → Array Value → Prop) (w0 w : World) (b d : Nat) (F G : Nat → Prop) (c : Int) (L M : List Cr) : Prop where
  bel : Below w0.heap.size w0 w
  j : Cx T1 P1 w0.heap.size w b F c L
  m : Cx T2 P2 w0.heap.size w d G c M
  dis : ∀ k, F k → ¬ G k
theorem Cp.next (h : Cp T1 P1 T2 P2 w0 w b d F G c L M) (hb : Below w.heap.size w w') : Cp T1 P1 T2 P2 w0 w' b d F G c L M := ⟨Below.next h.bel hb, h.j.next hb, h.m.next hb, h.dis⟩
theorem Cp.drew (h : Cp T1 P1 T2 P2 w0 w b d F G c L M) : Cp T1 P1 T2 P2 w0 w.drew b d F G c L M := h.next (Below.refl _ _).drew
theorem Cp.drewN (h : Cp T1 P1 T2 P2 w0 w b d F G c L M) (n : Nat) : Cp T1 P1 T2 P2 w0 (w.drewN n) b d F G c L M := h.next (belN (Below.refl _ _) n)
theorem Cp.com1 (h : Cp T1 P1 T2 P2 w0 w b d F G c L M) (ha : ComW T1 P1 w0.heap.size w w' b F F' c L r) : Cp T1 P1 T2 P2 w0 w' b d F' G c (comL c L r) M :=
  ⟨ha.lv.below h.bel (fun k hk => (h.j.foot k hk).1) h.bel.size, ha.cx, h.m.other ha.lv (fun k hk hF => h.dis k hF hk), fun k hk hG => by
    rcases ha.new k hk with hF | hF
    · exact h.dis k hF hG
    · have := (h.m.foot k hG).2; omega⟩
theorem Cp.com2 (h : Cp T1 P1 T2 P2 w0 w b d F G c L M) (ha : ComW T2 P2 w0.heap.size w w' d G G' c M r) : Cp T1 P1 T2 P2 w0 w' b d F G' c L (comL c M r) :=
  ⟨ha.lv.below h.bel (fun k hk => (h.m.foot k hk).1) h.bel.size, h.j.other ha.lv h.dis, ha.cx, fun k hk hG => by
    rcases ha.new k hG with hF | hF
    · exact h.dis k hk hF
    · have := (h.j.foot k hk).2; omega⟩
/-- The document's row, as the law reads it. -/
theorem Cx.open' {B : Nat} (h : Cx 78 Pd B w d G c M) : ∃ a cp rs, w.cell? ⟨d, 1, none⟩ = some (.slice a M.length cp) ∧ IsRs w a M.length rs ∧ rs.map kR = M ∧ ∀ W, Below w.heap.size w W → W.cell? ⟨d, 1, none⟩ = some (.slice a M.length cp) := by
  obtain ⟨cs, v, S, rs, hj, hp, he, _⟩ := h
  obtain ⟨a, cp, rfl, hx, _⟩ := hj.is
  have hl : rs.length = M.length := by rw [← he, List.length_map]
  have hp2 := hp.2.2
  rw [hl] at hx hp2
  exact ⟨a, cp, rs, hj.c 1 _ hp2, hx, he, fun W hW => (hj.next hW).c 1 _ hp2⟩
/-- What All told, as a row of rounds. -/
theorem rz_is {w1 : World} {B g : Nat} {xs : List Rn} (hr : Rz w1 g xs) (ho : ∀ r ∈ xs, Own B w1 r) : IsRs w1 (some ⟨g, 0, none⟩) xs.length xs :=
  ⟨rfl, hr.at.lies, fun r h => (ho r h).ru⟩
theorem map_len {xs : List Rn} (h : xs.map kR = L) : xs.length = L.length := by rw [← h, List.length_map]
theorem us_le (hs : ∀ r ∈ L, Sm r.2.2) {xs : List Rn} (h : xs.map kR = L) : ∀ i, i < xs.length → (xs.getD i rn0).us.length ≤ 1000000 := fun i hi => by
  have := (smAt h hs hi).1
  omega
end
/-- The two new logs are apart. -/
theorem jf0 {b k : Nat} (h : Jf b (.slice none 0 0) (fun _ => False) k) : k = b := by
  rcases h with h | h | h
  · exact h
  · cases h
  · exact h.elim
end Go.Proofs.YtjmkdgjdemndaaaDoor
