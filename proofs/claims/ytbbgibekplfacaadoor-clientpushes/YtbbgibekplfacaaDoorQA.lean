/- Add in one law each; the document's From; SameAll; great. -/
import Derived.Test.YtbbgibekplfacaaDoorRH
import Derived.Test.YtbbgibekplfacaaDoorI7
import Derived.Test.YtbbgibekplfacaaDoorQ9
namespace Go.Proofs.YtbbgibekplfacaaDoor
open Go Go.RowKit
set_option maxRecDepth 20000
/-- How it stands behind an Add. -/
structure AddW (T : TypeId) (B : Nat) (w w' : World) (b : Nat) (F F' : Nat → Prop) (o last : Int) (uss : List (List Up)) (us : List Up) (r : Rn) : Prop where
  jx : Jx T B w' b F' o last (addL o last uss us)
  lv : Lv w w' F
  new : ∀ k, F' k → F k ∨ w.heap.size ≤ k
  ru : Ru w' r
  r : AddR o last uss us r
theorem isUs_none (w : World) : IsUs w none 0 [] := ⟨rfl, fun h => absurd h (Nat.lt_irrefl _)⟩
section
variable {T : TypeId} {B b : Nat} {F : Nat → Prop} {o last : Int} {uss : List (List Up)} {us : List Up} {w w' : World}
theorem addW_no (h : Jx T B w b F o last uss) (hb : Below w.heap.size w w') (he : ¬ addE o last uss us = 0) : AddW T B w w' b F F o last uss us rn0 := by
  refine ⟨?_, Lv.ofBelow hb F, fun k hk => .inl hk, ⟨isUs_none _, Nat.le_refl _, fun _ => rfl⟩, ⟨?_, ?_, ?_⟩⟩
  · unfold addL; rw [if_neg he]; exact h.next hb
  · rw [if_neg he]; rfl
  · rw [if_neg he]; rfl
  · rw [if_neg he]; rfl
theorem jadd_any (hn : uss.length ≤ 1000) (a : Option Addr) (len cap : Nat) (hsm : Sm us) (w : World) (hu : IsUs w a len us) (hd : ∀ g off, a = some ⟨g, off, none⟩ → ¬ F g) (h : Jx 94 B w b F o last uss) :
    Calls Tryd.prog 52 #[.pointer (some ⟨b, 0, none⟩), .slice a len cap] w fun e w' => ∃ r F', e = .returned (.tuple #[rv r, .int .i64 (addE o last uss us)]) ∧ AddW 94 B w w' b F F' o last uss us r ∧ (addE o last uss us = 0 → Own w.heap.size w' r) ∧ ∀ g off, r.a = some ⟨g, off, none⟩ → ¬ F' g := by
  by_cases hl : last ≤ (uss.length : Int)
  · have e8 : addE o last uss us = 8 := by unfold addE; rw [if_pos hl]
    refine (jadd_full hl a len cap w h).mono ?_
    rintro e w1 ⟨rfl, hb⟩
    exact ⟨rn0, F, by rw [e8], addW_no h hb (by rw [e8]; decide), fun he => absurd he (by rw [e8]; decide), fun g off e => by cases e⟩
  · have e1 : addE o last uss us = mayR o ((uss.length + 1 : Nat) : Int) us := by unfold addE; rw [if_neg hl]
    by_cases h0 : mayR o ((uss.length + 1 : Nat) : Int) us = 0
    · refine (jadd_ok hl hn a len cap us h0 hsm w hu hd h).mono ?_
      rintro e w1 ⟨g, F', rfl, x1, x2, x3, x4, x5, x6⟩
      have e0 : addE o last uss us = 0 := by rw [e1, h0]
      have hown : Own w.heap.size w1 ⟨o, ((uss.length + 1 : Nat) : Int), some ⟨g, 0, none⟩, len, len, us⟩ := ⟨g, rfl, x4, x6, hu.size.symm, hu.size.symm⟩
      refine ⟨⟨o, ((uss.length + 1 : Nat) : Int), some ⟨g, 0, none⟩, len, len, us⟩, F', by rw [e0]; rfl, ⟨?_, x2, x3, hown.ru, ⟨?_, ?_, ?_⟩⟩, fun _ => hown, fun g' off e => ?_⟩
      · unfold addL; rw [if_pos e0]; exact x1
      · rw [if_pos e0]
      · rw [if_pos e0]
      · rw [if_pos e0]
      · cases e
        exact x5
    · refine (jadd_err hl hn _ h0 a len cap us rfl w hu h).mono ?_
      rintro e w1 ⟨rfl, hb⟩
      exact ⟨rn0, F, by rw [e1], addW_no h hb (by rw [e1]; exact h0), fun he => absurd he (by rw [e1]; exact h0), fun g off e => by cases e⟩
theorem dadd_any (hn : uss.length ≤ 1000) (a : Option Addr) (len cap : Nat) (hsm : Sm us) (w : World) (hu : IsUs w a len us) (hlc : len ≤ cap) (hna : a = none → cap = 0) (h : Jx 64 B w b F o last uss) :
    Calls Tryd.prog 57 #[.pointer (some ⟨b, 0, none⟩), .slice a len cap] w fun e w' => ∃ r F', e = .returned (.tuple #[rv r, .int .i64 (addE o last uss us)]) ∧ AddW 64 B w w' b F F' o last uss us r ∧ Lv w w' (fun k => k = b) ∧ ∀ g off, r.a = some ⟨g, off, none⟩ → w.heap.size ≤ g := by
  have hme := h.me
  by_cases hl : last ≤ (uss.length : Int)
  · have e8 : addE o last uss us = 8 := by unfold addE; rw [if_pos hl]
    refine (dadd_full hl a len cap w h).mono ?_
    rintro e w1 ⟨rfl, hb⟩
    exact ⟨rn0, F, by rw [e8], addW_no h hb (by rw [e8]; decide), Lv.ofBelow hb _, fun g off e => by cases e⟩
  · have e1 : addE o last uss us = mayR o ((uss.length + 1 : Nat) : Int) us := by unfold addE; rw [if_neg hl]
    by_cases h0 : mayR o ((uss.length + 1 : Nat) : Int) us = 0
    · refine (dadd_ok hl hn a len cap us h0 hsm w hu hlc hna h).mono ?_
      rintro e w1 ⟨r, F', rfl, x1, x2, x3, ⟨x4, x8⟩, x5, x6, x7⟩
      have e0 : addE o last uss us = 0 := by rw [e1, h0]
      refine ⟨r, F', by rw [e0], ⟨?_, ⟨x2.os, x2.tape, x2.output, x2.size, fun k hk hF => x2.block k hk fun e => hF (e ▸ hme)⟩, x3, x4, ⟨?_, ?_, ?_⟩⟩, x2, x8⟩
      · unfold addL; rw [if_pos e0]; exact x1
      · rw [if_pos e0]; exact x5
      · rw [if_pos e0]; exact x6
      · rw [if_pos e0]; exact x7
    · refine (dadd_err hl hn _ h0 a len cap us rfl hsm w hu hlc hna h).mono ?_
      rintro e w1 ⟨rfl, hb⟩
      exact ⟨rn0, F, by rw [e1], addW_no h hb (by rw [e1]; exact h0), Lv.ofBelow hb _, fun g off e => by cases e⟩
end
/-- Rounds that are alike. -/
def Alk (len : Nat) (rs ms : List Rn) : Prop := ∀ i, i < len → (rs.getD i rn0).o = (ms.getD i rn0).o ∧ (rs.getD i rn0).n = (ms.getD i rn0).n ∧ (rs.getD i rn0).us = (ms.getD i rn0).us
theorem Of.alk {o : Int} {k : Nat} {uss : List (List Up)} {rs ms : List Rn} (h : Of o k uss rs) (h' : Of o k uss ms) {len : Nat} (hl : len ≤ uss.length) : Alk len rs ms := fun i hi => by
  obtain ⟨e1, e2, e3⟩ := h.at' i (by omega)
  obtain ⟨f1, f2, f3⟩ := h'.at' i (by omega)
  exact ⟨e1.trans f1.symm, e2.trans f2.symm, e3.trans f3.symm⟩
set_option maxHeartbeats 4000000 in
theorem sameall_yes (a1 a2 : Option Addr) (len cap1 cap2 : Nat) (rs ms : List Rn) (hll : len ≤ 1000000) (hal : Alk len rs ms) (hsm : ∀ i, i < len → (rs.getD i rn0).us.length ≤ 1000000) (w : World) (h1 : IsRs w a1 len rs) (h2 : IsRs w a2 len ms) :
    Calls Tryd.prog 13 #[.slice a1 len cap1, .slice a2 len cap2] w fun e w' => e = .returned (.bool true) ∧ Below w.heap.size w w' := by
  have HAL := Lib.hid hal
  have HSM := Lib.hid hsm
  have H1 := Lib.hid h1
  have H2 := Lib.hid h2
  clear hal hsm h1 h2
  go_enter Tryd.func13, Tryd.ntmps13
  go_wp2_with fail
  go_loopw [5] (fun v5 wr => ∃ k : Nat, k ≤ len ∧ v5 = .int .i64 k ∧ Below w.heap.size w wr) (fun v5 _ => len - (intOf v5).toNat)
  case atStart => exact ⟨0, Nat.zero_le _, rfl, Below.refl _ _⟩
  case round =>
    obtain ⟨k, hk, rfl, hbel⟩ := hrel
    by_cases hlt : k < len
    · have HCE : Hid (∀ W, Below w.heap.size w W → ∀ W', Below W.heap.size W W' → True) := Lib.hid fun _ _ _ _ => trivial
      clear HCE
      obtain ⟨b1, off1, e1, hf1⟩ := H1.out.lies (by omega)
      obtain ⟨b2, off2, e2, hf2⟩ := H2.out.lies (by omega)
      subst e1 e2
      have hs1 := H1.out.size
      have hs2 := H2.out.size
      have hl1 := hf1.lt (by omega)
      have hl2 := hf2.lt (by omega)
      obtain ⟨z1, z2, z3⟩ := HAL.out k hlt
      have hu1 := (H1.out.each _ (rn_mem (show k < rs.length by omega))).1
      have hu2 := (H2.out.each _ (rn_mem (show k < ms.length by omega))).1
      have hle := HSM.out k hlt
      have g1 := hf1.o k (by omega)
      have g2 := hf1.n k (by omega)
      have g3 := hf1.u k (by omega)
      have g4 := hf2.o k (by omega)
      have g5 := hf2.n k (by omega)
      have g6 := hf2.u k (by omega)
      rw [← z1] at g4
      rw [← z2] at g5
      rw [← z3] at hu2
      have hlen := hu1.size.symm.trans hu2.size
      rw [← hlen] at g6 hu2
      have hul := hu1.size
      clear z1 z2 z3 hf1 hf2 hs1 hs2 hlen
      generalize rs.getD k rn0 = r at *
      generalize ms.getD k rn0 = m at *
      obtain ⟨ro, rn, ra, rl, rc, rus⟩ := r
      obtain ⟨mo, mn, ma, ml, mc, mus⟩ := m
      simp only at g1 g2 g3 g4 g5 g6 hu1 hu2 hle hul
      have HC := fun w h1 h2 => Lib.hid (ds_yes ro rn ra ma rl rc mc rus (by omega) w h1 h2)
      have HCE : Hid (∀ W, Below w.heap.size w W → W.cell? ⟨b1, off1 + k * 3, none⟩ = some (.int .i64 ro) ∧ W.cell? ⟨b1, off1 + k * 3 + 1, none⟩ = some (.int .i64 rn) ∧ W.cell? ⟨b1, off1 + k * 3 + 2, none⟩ = some (.slice ra rl rc) ∧ W.cell? ⟨b2, off2 + k * 3, none⟩ = some (.int .i64 ro) ∧ W.cell? ⟨b2, off2 + k * 3 + 1, none⟩ = some (.int .i64 rn) ∧ W.cell? ⟨b2, off2 + k * 3 + 2, none⟩ = some (.slice ma rl mc)) := Lib.hid fun W hW => ⟨(hW.cell hl1).trans g1, (hW.cell hl1).trans g2, (hW.cell hl1).trans g3, (hW.cell hl2).trans g4, (hW.cell hl2).trans g5, (hW.cell hl2).trans g6⟩
      obtain ⟨c0, c1, c2, d0, d1, d2⟩ := HCE.out _ hbel
      have HU1 := Lib.hid (isUs_below hu1 hbel)
      have HU2 := Lib.hid (isUs_below hu2 hbel)
      have HBEL := Lib.hid hbel
      clear hu1 hu2 hbel g1 g2 g3 g4 g5 g6 hle hl1 hl2 hul
      go_wp2_with fail
      refine wp_region_held_drew (S := fun w' => (w'.cell? ⟨b1, off1 + k * 3, none⟩ = some (.int .i64 ro) ∧ w'.cell? ⟨b1, off1 + k * 3 + 1, none⟩ = some (.int .i64 rn) ∧ w'.cell? ⟨b1, off1 + k * 3 + 2, none⟩ = some (.slice ra rl rc)) ∧ w'.cell? ⟨b2, off2 + k * 3, none⟩ = some (.int .i64 ro) ∧ w'.cell? ⟨b2, off2 + k * 3 + 1, none⟩ = some (.int .i64 rn) ∧ w'.cell? ⟨b2, off2 + k * 3 + 2, none⟩ = some (.slice ma rl mc)) (by kernel_rfl) ?_ (fun hH => ?_)
      · exact ⟨⟨c0, c1, c2⟩, d0, d1, d2⟩
      refine tkH 0 ?_ ?_ ?_
      rotate_left
      · intro w h; try dsimp only at h
        obtain ⟨⟨q0, q1, q2⟩, q3, q4, q5⟩ := h; go_simp; all_goals with_reducible rfl
      try simp only [pt]
      refine tkH 1 ?_ ?_ ?_
      rotate_left
      · intro w h; try dsimp only at h
        obtain ⟨⟨q0, q1, q2⟩, q3, q4, q5⟩ := h; go_simp; all_goals with_reducible rfl
      try simp only [pt]
      refine tkH 2 ?_ ?_ ?_
      rotate_left
      · intro w h; try dsimp only at h
        obtain ⟨⟨q0, q1, q2⟩, q3, q4, q5⟩ := h; go_simp; all_goals with_reducible rfl
      try simp only [pt]
      refine tkH 3 ?_ ?_ ?_
      rotate_left
      · intro w h; try dsimp only at h
        obtain ⟨⟨q0, q1, q2⟩, q3, q4, q5⟩ := h; go_simp; all_goals with_reducible rfl
      try simp only [pt]
      refine tkH 4 ?_ ?_ ?_
      rotate_left
      · intro w h; try dsimp only at h
        obtain ⟨⟨q0, q1, q2⟩, q3, q4, q5⟩ := h; go_simp; all_goals with_reducible rfl
      try simp only [pt]
      refine tkH 5 ?_ ?_ ?_
      rotate_left
      · intro w h; try dsimp only at h
        obtain ⟨⟨q0, q1, q2⟩, q3, q4, q5⟩ := h; go_simp; all_goals with_reducible rfl
      try simp only [pt]
      refine tkH 6 ?_ ?_ ?_
      rotate_left
      · intro w h; try dsimp only at h
        obtain ⟨⟨q0, q1, q2⟩, q3, q4, q5⟩ := h; go_simp; all_goals with_reducible rfl
      try simp only [pt]
      refine tkH 7 ?_ ?_ ?_
      rotate_left
      · intro w h; try dsimp only at h
        obtain ⟨⟨q0, q1, q2⟩, q3, q4, q5⟩ := h; go_simp; all_goals with_reducible rfl
      try simp only [pt]
      refine wpAnyH_ready (rs := [8]) (by kernel_rfl) (by simp) ?_
      refine rdH (fun K hK => ?_) ?_
      · go_simp
        refine (HC wr.drew (isUs_same HU1.out fun _ _ _ => rfl) (isUs_same HU2.out fun _ _ _ => rfl)).out.mono ?_
        rintro e w2 ⟨rfl, hb⟩
        have HB2 : Hid (Below w.heap.size w w2) := Lib.hid (Below.next HBEL.out ⟨hb.os, hb.tape, hb.output, hb.size, hb.block⟩)
        obtain ⟨x1, x2, x3, x4, x5, x6⟩ := HCE.out _ HB2.out
        clear hb
        go_wp2_with fail
        refine hK.out _ _ ?_ (fun hH => ?_)
        · exact ⟨⟨x1, x2, x3⟩, x4, x5, x6⟩
        clear hK K
        try simp only [pt]
        refine tkH 9 ?_ ?_ ?_
        rotate_left
        · intro w h; try dsimp only at h
          obtain ⟨⟨q0, q1, q2⟩, q3, q4, q5⟩ := h; go_simp; all_goals with_reducible rfl
        try simp only [pt]
        refine wpAnyH_done (by kernel_rfl) ?_ _
        go_wp2
        go_roundw
        case rel => exact ⟨k + 1, by omega, by go_num, HB2.out⟩
        case measure => simp [intOf]; omega
      exact AllReadyH.nil
    · obtain rfl : k = len := by omega
      have HBEL := Lib.hid hbel
      clear hbel
      go_wp2
      go_ret
      exact ⟨rfl, HBEL.out⟩
end Go.Proofs.YtbbgibekplfacaaDoor
