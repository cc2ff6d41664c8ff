/- The document's Twice. -/
import Derived.Test.YtjnjpphbclepbaaRH
import Derived.Test.YtjnjpphbclepbaaHA
namespace Go.Proofs.Ytjnjpphbclepbaa
open Go Go.RowKit
set_option maxRecDepth 20000
section
variable {B b : Nat} {v u : Value} {ps : List Pkt} {ms : List Bool}
theorem RowP.spot {B : Nat} {w : World} {a : Option Addr} {n c : Nat} {l : List Pkt} (h : RowP B w (.slice a n c) l) (hn : 0 < n) : ∃ g, a = some ⟨g, 0, none⟩ := by
  rcases h.2 with ⟨h0, _⟩ | ⟨g, cap, cur, h0, _⟩
  · simp only [Value.slice.injEq] at h0; omega
  · simp only [Value.slice.injEq] at h0; exact ⟨g, h0.1⟩
theorem RowB.spot {B : Nat} {w : World} {a : Option Addr} {n c : Nat} {l : List Bool} (h : RowB B w (.slice a n c) l) (hn : 0 < n) : ∃ g, a = some ⟨g, 0, none⟩ := by
  rcases h.2 with ⟨h0, _⟩ | ⟨g, cap, cur, h0, _⟩
  · simp only [Value.slice.injEq] at h0; omega
  · simp only [Value.slice.injEq] at h0; exact ⟨g, h0.1⟩
set_option maxHeartbeats 1600000 in
theorem dtwice_none (i : Int) (hi : ¬ (0 ≤ i ∧ i < (ps.length : Int))) (w : World) (h : Bd B w b v u ps ms) : Calls Try.prog 22 #[.pointer (some ⟨b, 0, none⟩), .int .i64 i] w fun x w' => x = .returned (.int .i64 11) ∧ w' = w := by
  have HH := fun W hW => Lib.hid (there_any (B := B) (b := b) (v := v) (u := u) (ps := ps) (ms := ms) i false (by simpa using hi) W hW)
  have HQ := Lib.hid h
  clear h hi
  go_enter Try.func22, Try.ntmps22
  go_wp2_with fail
  refine (HH _ HQ.out).out.mono ?_
  rintro e w1 ⟨rfl, hw⟩
  obtain rfl := hw.symm
  go_wp2
  go_ret
  exact ⟨rfl, rfl⟩
set_option maxHeartbeats 1600000 in
theorem dtwice_full (k : Nat) (hk : k < ps.length) (hf : ps.length = 4096) (w : World) (h : Bd B w b v u ps ms) : Calls Try.prog 22 #[.pointer (some ⟨b, 0, none⟩), .int .i64 (k : Int)] w fun x w' => x = .returned (.int .i64 7) ∧ w' = w := by
  have HH := fun W hW => Lib.hid (there_any (B := B) (b := b) (v := v) (u := u) (ps := ps) (ms := ms) (k : Int) true (by simp; omega) W hW)
  have HQ := Lib.hid h
  obtain ⟨a, c, hv, _⟩ := h.row.is
  have c0 := h.c0
  rw [hv, hf] at c0
  clear h hk hv
  go_enter Try.func22, Try.ntmps22
  go_wp2_with fail
  refine (HH _ HQ.out).out.mono ?_
  rintro e w1 ⟨rfl, hw⟩
  obtain rfl := hw.symm
  go_wp2
  go_ret
  exact ⟨rfl, rfl⟩
set_option maxHeartbeats 16000000 in
theorem dtwice_ok (k : Nat) (hk : k < ps.length) (hf : ps.length < 4096) (hms : ms.length = ps.length) (w : World) (h : Bd B w b v u ps ms) : Calls Try.prog 22 #[.pointer (some ⟨b, 0, none⟩), .int .i64 (k : Int)] w fun x w' => x = .returned (.int .i64 0) ∧ (∃ v' u', Bd B w' b v' u' (ps ++ [ps.getD k pk0]) (ms ++ [ms.getD k bo0])) ∧ w.grownBy w' (some b) := by
  have HH := fun W hW => Lib.hid (there_any (B := B) (b := b) (v := v) (u := u) (ps := ps) (ms := ms) (k : Int) true (by simp; omega) W hW)
  have HQ0 := Lib.hid h
  obtain ⟨⟨pf, pt, pd⟩, hp⟩ : ∃ p, ps.getD k pk0 = p := ⟨_, rfl⟩
  obtain ⟨mk, hmk⟩ : ∃ m, ms.getD k bo0 = m := ⟨_, rfl⟩
  rw [hp, hmk]
  obtain ⟨n, hn⟩ : ∃ n, ps.length = n := ⟨_, rfl⟩
  obtain ⟨a, c, rfl, hx, hcx⟩ := h.row.is
  obtain ⟨g, rfl⟩ := h.row.spot (by omega)
  obtain ⟨off, hoff⟩ : ∃ off : Nat, 0 = off := ⟨_, rfl⟩
  obtain ⟨g', off', e', hgl, hf4⟩ := hx.lies (by omega)
  obtain ⟨rfl, rfl⟩ : g = g' ∧ 0 = off' := by cases e'; exact ⟨rfl, rfl⟩
  have hfk := hf4 k hk
  rw [hp, hoff] at hfk
  have x0 := hfk.fr
  have x1 := hfk.to
  have x2 := hfk.d
  simp only at x0 x1 x2
  have hgb : g ≠ b := fun e => by
    obtain ⟨cur, hc⟩ := h.row.typ g rfl
    exact two_types hc h.blk (by decide) e
  have hq := h
  rw [hn, hoff] at hq
  rw [hn] at hx hcx hk hf hms
  rw [hoff] at hx
  have HX := Lib.hid hx
  have HC : Hid (n ≤ c ∧ ((some ⟨g, off, none⟩ : Option Addr) = none → c = 0)) := Lib.hid ⟨hcx.1, fun e => by cases e⟩
  have HQ := Lib.hid hq
  have HSZ := Lib.hid hn
  have HMS := Lib.hid hms
  have HMK := Lib.hid hmk
  have HGB := Lib.hid hgb
  have HGL := Lib.hid hgl
  have HNN : Hid (n ≤ 4096) := Lib.hid (by omega)
  have HK := Lib.hid hk
  have q1 : ¬ (4096 : Int) ≤ (n : Int) := by omega
  have c0 := HQ.out.c0
  clear h hp hmk hn hx hcx hq hfk hf4 hgb hgl hms e' hoff
  go_enter Try.func22, Try.ntmps22
  go_wp2_with fail
  refine (HH _ HQ0.out).out.mono ?_
  rintro e w1 ⟨rfl, hw⟩
  obtain rfl := hw.symm
  clear HH
  have HKS : Hid (∀ W, Below w.heap.size w W → W.cell? ⟨g, off + k * 3, none⟩ = some (.int .i64 pf) ∧ W.cell? ⟨g, off + k * 3 + 1, none⟩ = some (.int .i64 pt) ∧ W.cell? ⟨g, off + k * 3 + 2, none⟩ = some (.string pd)) := Lib.hid fun W hW => ⟨(hW.cell HGL.out).trans x0, (hW.cell HGL.out).trans x1, (hW.cell HGL.out).trans x2⟩
  have HKT : Hid (∀ W z, Below w.heap.size w W → (W.setCell ⟨b, 0, none⟩ z).cell? ⟨g, off + k * 3, none⟩ = some (.int .i64 pf) ∧ (W.setCell ⟨b, 0, none⟩ z).cell? ⟨g, off + k * 3 + 1, none⟩ = some (.int .i64 pt) ∧ (W.setCell ⟨b, 0, none⟩ z).cell? ⟨g, off + k * 3 + 2, none⟩ = some (.string pd)) := Lib.hid fun W z hW => by
    have hc : ∀ j, (W.setCell ⟨b, 0, none⟩ z).cell? ⟨g, j, none⟩ = W.cell? ⟨g, j, none⟩ := fun j => by
      unfold World.cell?
      rw [Below.heap_setCell _ _ _ _ HGB.out]
    rw [hc, hc, hc]
    exact HKS.out W hW
  have HW0 : Hid (Below w.heap.size w w.drew) := Lib.hid (Below.refl w.heap.size w).drew
  have hk0 := HKS.out _ HW0.out
  have ck0 := HQ.out.c0
  go_upto_region 5 with fail
  clear c0
  go_cut [] from 15 to 32 (fun wx => ∃ v2, Bd B wx b v2 u (ps ++ [(pf, pt, pd)]) ms ∧ w.grownBy wx (some b))
  case first =>
    go_wp2_with fail
    refine wp_region_held_drew (S := fun w' => w'.cell? ⟨g, off + k * 3, none⟩ = some (.int .i64 pf) ∧ w'.cell? ⟨g, off + k * 3 + 1, none⟩ = some (.int .i64 pt) ∧ w'.cell? ⟨g, off + k * 3 + 2, none⟩ = some (.string pd)) (by kernel_rfl) ?_ (fun hH => ?_)
    · exact hk0
    refine tkH 0 ?_ ?_ ?_
    rotate_left
    · intro w h; try dsimp only at h
      obtain ⟨x0, x1, x2⟩ := h; go_simp; all_goals with_reducible rfl
    try simp only [pt]
    refine tkH 2 ?_ ?_ ?_
    rotate_left
    · intro w h; try dsimp only at h
      obtain ⟨x0, x1, x2⟩ := h; go_simp; all_goals with_reducible rfl
    try simp only [pt]
    refine tkH 3 ?_ ?_ ?_
    rotate_left
    · intro w h; try dsimp only at h
      obtain ⟨x0, x1, x2⟩ := h; go_simp; all_goals with_reducible rfl
    try simp only [pt]
    refine tkH 4 ?_ ?_ ?_
    rotate_left
    · intro w h; try dsimp only at h
      obtain ⟨x0, x1, x2⟩ := h; go_simp; all_goals with_reducible rfl
    try simp only [pt]
    refine tkH 7 ?_ ?_ ?_
    rotate_left
    · intro w h; try dsimp only at h
      obtain ⟨x0, x1, x2⟩ := h; go_simp; all_goals with_reducible rfl
    try simp only [pt]
    refine tkH 8 ?_ ?_ ?_
    rotate_left
    · intro w h; try dsimp only at h
      obtain ⟨x0, x1, x2⟩ := h; go_simp; all_goals with_reducible rfl
    try simp only [pt]
    refine tkH 9 ?_ ?_ ?_
    rotate_left
    · intro w h; try dsimp only at h
      obtain ⟨x0, x1, x2⟩ := h; go_simp; all_goals with_reducible rfl
    try simp only [pt]
    refine tkH 11 ?_ ?_ ?_
    rotate_left
    · intro w h; try dsimp only at h
      obtain ⟨x0, x1, x2⟩ := h; go_simp; all_goals with_reducible rfl
    try simp only [pt]
    refine wpAnyH_ready (rs := [1, 5, 10]) (by kernel_rfl) (by simp) ?_
    refine rdH (fun K hK => ?_) ?_
    · go_simp
      have HW1 : Hid (Below w.heap.size w (w.drew.alloc (.cells #[] 39))) := Lib.hid (Below.step HW0.out (.cells #[] 39) (Below.refl _ _))
      have hk1 := HKS.out _ HW1.out
      have ck1 : (w.alloc (.cells #[] 39)).cell? ⟨b, 0, none⟩ = some (Value.slice (some ⟨g, off, none⟩) n c) := (HQ.out.next HW1.out).c0
      have HROW : Hid (RowP w.heap.size (w.drew.alloc (.cells #[] 39)) (.slice (some ⟨w.heap.size, 0, none⟩) 0 0) []) := Lib.hid (by
        have := (rowP_new w.drew).lower (show w.heap.size ≤ w.drew.heap.size from HW0.out.size)
        rw [show w.drew.heap.size = w.heap.size by simp] at this
        exact this)
      refine hK.out _ _ ?_ (fun hH => ?_)
      · exact hk1
      clear hK K
      try simp only [pt]
      refine wpAnyH_ready (rs := [5, 10]) (by kernel_rfl) (by simp) ?_
      refine rdH (fun K hK => ?_) ?_
      · go_simp
        refine hK.out _ _ ?_ (fun hH => ?_)
        · exact hk1
        clear hK K
        try simp only [pt]
        refine wpAnyH_ready (rs := [6, 10]) (by kernel_rfl) (by simp) ?_
        refine rdH (fun K hK => ?_) ?_
        · obtain ⟨a1, c1', w6, hrun, hrw6, hgr6, _⟩ := run_appP (w.drew.alloc (.cells #[] 39)) 26 w.heap.size _ [] HROW.out (some ⟨g, off, none⟩) n c (ps) (psAt_below HX.out HW1.out) HC.out.1 HC.out.2 (by have := HNN.out; simp only [List.length_nil]; omega) HW1.out.size
          simp only [List.length_nil, Nat.zero_add, List.nil_append] at hrun hrw6
          have HW2 := Lib.hid (belP HROW.out HW1.out hgr6 HW1.out.size)
          have hk2 := HKS.out _ HW2.out
          have HROW1 := Lib.hid hrw6
          have ck2 : w6.cell? ⟨b, 0, none⟩ = some (Value.slice (some ⟨g, off, none⟩) n c) := (HQ.out.next HW2.out).c0
          clear hrw6 hgr6
          refine step_append_run (by rfl) (.tmp 16) (.tmp 20) 26 rfl _ _ _ rfl rfl hrun ?_
          refine hK.out _ _ ?_ (fun hH => ?_)
          · exact hk2
          clear hK K
          try simp only [pt]
          refine wpAnyH_ready (rs := [10]) (by kernel_rfl) (by simp) ?_
          refine rdH (fun K hK => ?_) ?_
          · go_simp
            refine hK.out _ _ ?_ (fun hH => ?_)
            · exact hk2
            clear hK K
            try simp only [pt]
            refine tkH 12 ?_ ?_ ?_
            rotate_left
            · intro w h; try dsimp only at h
              obtain ⟨x0, x1, x2⟩ := h; go_simp; all_goals with_reducible rfl
            try simp only [pt]
            refine tkH 13 ?_ ?_ ?_
            rotate_left
            · intro w h; try dsimp only at h
              obtain ⟨x0, x1, x2⟩ := h; go_simp; all_goals with_reducible rfl
            try simp only [pt]
            refine wpAnyH_ready (rs := [14]) (by kernel_rfl) (by simp) ?_
            refine rdH (fun K hK => ?_) ?_
            · go_simp
              have HW3 : Hid (Below w.heap.size w (w6.alloc (.cells #[.int .i64 pf, .int .i64 pt, .string pd] 39))) := Lib.hid (Below.step HW2.out (.cells #[.int .i64 pf, .int .i64 pt, .string pd] 39) (Below.refl _ _))
              have hk3 := HKS.out _ HW3.out
              have ck3 : (w6.alloc (.cells #[.int .i64 pf, .int .i64 pt, .string pd] 39)).cell? ⟨b, 0, none⟩ = some (Value.slice (some ⟨g, off, none⟩) n c) := (HQ.out.next HW3.out).c0
              have HONE : Hid (PsAt (w6.alloc (.cells #[.int .i64 pf, .int .i64 pt, .string pd] 39)) (some ⟨w6.heap.size, 0, none⟩) 1 [(pf, pt, pd)]) := Lib.hid (by
                have := psAt_one w6 pf pt pd
                exact this)
              have HROW1 := Lib.hid (HROW1.out.alloc (.cells #[.int .i64 pf, .int .i64 pt, .string pd] 39))
              refine hK.out _ _ ?_ (fun hH => ?_)
              · exact hk3
              clear hK K
              try simp only [pt]
              refine wpAnyH_ready (rs := [15]) (by kernel_rfl) (by simp) ?_
              refine rdH (fun K hK => ?_) ?_
              · obtain ⟨a2, c2, w8, hrun9, hrw8, hgr8, _⟩ := run_appP (w6.alloc (.cells #[.int .i64 pf, .int .i64 pt, .string pd] 39)) 26 w.heap.size _ (ps) HROW1.out (some ⟨w6.heap.size, 0, none⟩) 1 1 [(pf, pt, pd)] HONE.out (Nat.le_refl _) (fun e => by cases e) (by rw [HSZ.out]; have := HNN.out; omega) HW3.out.size
                rw [HSZ.out] at hrun9 hrw8
                have HW8 := Lib.hid (belP HROW1.out HW3.out hgr8 HW3.out.size)
                have hk8 := HKS.out _ HW8.out
                have HROW2 := Lib.hid hrw8
                have ck8 : w8.cell? ⟨b, 0, none⟩ = some (Value.slice (some ⟨g, off, none⟩) n c) := (HQ.out.next HW8.out).c0
                have fk8 := (HQ.out.next HW8.out).f0 0
                clear hrw8 hgr8
                refine step_append_run (by rfl) (.tmp 21) (.tmp 29) 26 rfl _ _ _ rfl rfl hrun9 ?_
                refine hK.out _ _ ?_ (fun hH => ?_)
                · exact hk8
                clear hK K
                try simp only [pt]
                refine tkH 16 ?_ ?_ ?_
                rotate_left
                · intro w h; try dsimp only at h
                  obtain ⟨x0, x1, x2⟩ := h; go_simp; all_goals with_reducible rfl
                try simp only [pt]
                refine tkH 17 ?_ ?_ ?_
                rotate_left
                · intro w h; try dsimp only at h
                  obtain ⟨x0, x1, x2⟩ := h; go_simp; all_goals with_reducible rfl
                try simp only [pt]
                refine wpAnyH_ready (rs := [18]) (by kernel_rfl) (by simp) ?_
                refine rdH (fun K hK => ?_) ?_
                · go_simp
                  refine hK.out _ _ ?_ (fun hH => ?_)
                  · exact (HKT.out _ _ HW8.out)
                  clear hK K
                  try simp only [pt]
                  refine wpAnyH_done (by kernel_rfl) ?_ _
                  have HFIN := Lib.hid (bd_put0 HQ.out HW8.out (HROW2.out.lower (Nat.le_refl _)))
                  clear hrun hrun9
                  go_wp2_with fail
                  go_meet
                  case rel => exact ⟨_, HFIN.out.1, HFIN.out.2⟩
                exact AllReadyH.nil
              exact AllReadyH.nil
            exact AllReadyH.nil
          exact AllReadyH.nil
        refine rdH (fun K hK => ?_) ?_
        · go_simp
          refine hK.out _ _ ?_ (fun hH => ?_)
          · exact hk1
          clear hK K
          try simp only [pt]
          refine tkH 12 ?_ ?_ ?_
          rotate_left
          · intro w h; try dsimp only at h
            obtain ⟨x0, x1, x2⟩ := h; go_simp; all_goals with_reducible rfl
          try simp only [pt]
          refine tkH 13 ?_ ?_ ?_
          rotate_left
          · intro w h; try dsimp only at h
            obtain ⟨x0, x1, x2⟩ := h; go_simp; all_goals with_reducible rfl
          try simp only [pt]
          refine wpAnyH_ready (rs := [6, 14]) (by kernel_rfl) (by simp) ?_
          refine rdH (fun K hK => ?_) ?_
          · obtain ⟨a1, c1', w6, hrun, hrw6, hgr6, _⟩ := run_appP (w.drew.alloc (.cells #[] 39)) 26 w.heap.size _ [] HROW.out (some ⟨g, off, none⟩) n c (ps) (psAt_below HX.out HW1.out) HC.out.1 HC.out.2 (by have := HNN.out; simp only [List.length_nil]; omega) HW1.out.size
            simp only [List.length_nil, Nat.zero_add, List.nil_append] at hrun hrw6
            have HW2 := Lib.hid (belP HROW.out HW1.out hgr6 HW1.out.size)
            have hk2 := HKS.out _ HW2.out
            have HROW1 := Lib.hid hrw6
            have ck2 : w6.cell? ⟨b, 0, none⟩ = some (Value.slice (some ⟨g, off, none⟩) n c) := (HQ.out.next HW2.out).c0
            clear hrw6 hgr6
            refine step_append_run (by rfl) (.tmp 16) (.tmp 20) 26 rfl _ _ _ rfl rfl hrun ?_
            refine hK.out _ _ ?_ (fun hH => ?_)
            · exact hk2
            clear hK K
            try simp only [pt]
            refine wpAnyH_ready (rs := [14]) (by kernel_rfl) (by simp) ?_
            refine rdH (fun K hK => ?_) ?_
            · go_simp
              have HW3 : Hid (Below w.heap.size w (w6.alloc (.cells #[.int .i64 pf, .int .i64 pt, .string pd] 39))) := Lib.hid (Below.step HW2.out (.cells #[.int .i64 pf, .int .i64 pt, .string pd] 39) (Below.refl _ _))
              have hk3 := HKS.out _ HW3.out
              have ck3 : (w6.alloc (.cells #[.int .i64 pf, .int .i64 pt, .string pd] 39)).cell? ⟨b, 0, none⟩ = some (Value.slice (some ⟨g, off, none⟩) n c) := (HQ.out.next HW3.out).c0
              have HONE : Hid (PsAt (w6.alloc (.cells #[.int .i64 pf, .int .i64 pt, .string pd] 39)) (some ⟨w6.heap.size, 0, none⟩) 1 [(pf, pt, pd)]) := Lib.hid (by
                have := psAt_one w6 pf pt pd
                exact this)
              have HROW1 := Lib.hid (HROW1.out.alloc (.cells #[.int .i64 pf, .int .i64 pt, .string pd] 39))
              refine hK.out _ _ ?_ (fun hH => ?_)
              · exact hk3
              clear hK K
              try simp only [pt]
              refine wpAnyH_ready (rs := [15]) (by kernel_rfl) (by simp) ?_
              refine rdH (fun K hK => ?_) ?_
              · obtain ⟨a2, c2, w8, hrun9, hrw8, hgr8, _⟩ := run_appP (w6.alloc (.cells #[.int .i64 pf, .int .i64 pt, .string pd] 39)) 26 w.heap.size _ (ps) HROW1.out (some ⟨w6.heap.size, 0, none⟩) 1 1 [(pf, pt, pd)] HONE.out (Nat.le_refl _) (fun e => by cases e) (by rw [HSZ.out]; have := HNN.out; omega) HW3.out.size
                rw [HSZ.out] at hrun9 hrw8
                have HW8 := Lib.hid (belP HROW1.out HW3.out hgr8 HW3.out.size)
                have hk8 := HKS.out _ HW8.out
                have HROW2 := Lib.hid hrw8
                have ck8 : w8.cell? ⟨b, 0, none⟩ = some (Value.slice (some ⟨g, off, none⟩) n c) := (HQ.out.next HW8.out).c0
                have fk8 := (HQ.out.next HW8.out).f0 0
                clear hrw8 hgr8
                refine step_append_run (by rfl) (.tmp 21) (.tmp 29) 26 rfl _ _ _ rfl rfl hrun9 ?_
                refine hK.out _ _ ?_ (fun hH => ?_)
                · exact hk8
                clear hK K
                try simp only [pt]
                refine tkH 16 ?_ ?_ ?_
                rotate_left
                · intro w h; try dsimp only at h
                  obtain ⟨x0, x1, x2⟩ := h; go_simp; all_goals with_reducible rfl
                try simp only [pt]
                refine tkH 17 ?_ ?_ ?_
                rotate_left
                · intro w h; try dsimp only at h
                  obtain ⟨x0, x1, x2⟩ := h; go_simp; all_goals with_reducible rfl
                try simp only [pt]
                refine wpAnyH_ready (rs := [18]) (by kernel_rfl) (by simp) ?_
                refine rdH (fun K hK => ?_) ?_
                · go_simp
                  refine hK.out _ _ ?_ (fun hH => ?_)
                  · exact (HKT.out _ _ HW8.out)
                  clear hK K
                  try simp only [pt]
                  refine wpAnyH_done (by kernel_rfl) ?_ _
                  have HFIN := Lib.hid (bd_put0 HQ.out HW8.out (HROW2.out.lower (Nat.le_refl _)))
                  clear hrun hrun9
                  go_wp2_with fail
                  go_meet
                  case rel => exact ⟨_, HFIN.out.1, HFIN.out.2⟩
                exact AllReadyH.nil
              exact AllReadyH.nil
            exact AllReadyH.nil
          refine rdH (fun K hK => ?_) ?_
          · go_simp
            have HW2 : Hid (Below w.heap.size w ((w.drew.alloc (.cells #[] 39)).alloc (.cells #[.int .i64 pf, .int .i64 pt, .string pd] 39))) := Lib.hid (Below.step HW1.out (.cells #[.int .i64 pf, .int .i64 pt, .string pd] 39) (Below.refl _ _))
            have hk2 := HKS.out _ HW2.out
            have ck2 : ((w.alloc (.cells #[] 39)).alloc (.cells #[.int .i64 pf, .int .i64 pt, .string pd] 39)).cell? ⟨b, 0, none⟩ = some (Value.slice (some ⟨g, off, none⟩) n c) := (HQ.out.next HW2.out).c0
            have HONE : Hid (PsAt ((w.drew.alloc (.cells #[] 39)).alloc (.cells #[.int .i64 pf, .int .i64 pt, .string pd] 39)) (some ⟨w.heap.size + 1, 0, none⟩) 1 [(pf, pt, pd)]) := Lib.hid (by
              have := psAt_one (w.drew.alloc (.cells #[] 39)) pf pt pd
              rw [show (w.drew.alloc (.cells #[] 39)).heap.size = w.heap.size + 1 by simp] at this
              exact this)
            have HROW := Lib.hid (HROW.out.alloc (.cells #[.int .i64 pf, .int .i64 pt, .string pd] 39))
            refine hK.out _ _ ?_ (fun hH => ?_)
            · exact hk2
            clear hK K
            try simp only [pt]
            refine wpAnyH_ready (rs := [6]) (by kernel_rfl) (by simp) ?_
            refine rdH (fun K hK => ?_) ?_
            · obtain ⟨a1, c1', w6, hrun, hrw6, hgr6, _⟩ := run_appP ((w.drew.alloc (.cells #[] 39)).alloc (.cells #[.int .i64 pf, .int .i64 pt, .string pd] 39)) 26 w.heap.size _ [] HROW.out (some ⟨g, off, none⟩) n c (ps) (psAt_below HX.out HW2.out) HC.out.1 HC.out.2 (by have := HNN.out; simp only [List.length_nil]; omega) HW2.out.size
              simp only [List.length_nil, Nat.zero_add, List.nil_append] at hrun hrw6
              have HW3 := Lib.hid (belP HROW.out HW2.out hgr6 HW2.out.size)
              have hk3 := HKS.out _ HW3.out
              have HROW1 := Lib.hid hrw6
              have ck3 : w6.cell? ⟨b, 0, none⟩ = some (Value.slice (some ⟨g, off, none⟩) n c) := (HQ.out.next HW3.out).c0
              have HONE := Lib.hid (psAt_keep HONE.out (fun g off e => hgr6.block g (by cases e; first | (simp; done) | (simp; omega)) (by cases e; simp [Value.ownBlock])) hgr6.size)
              clear hrw6 hgr6
              refine step_append_run (by rfl) (.tmp 16) (.tmp 20) 26 rfl _ _ _ rfl rfl hrun ?_
              refine hK.out _ _ ?_ (fun hH => ?_)
              · exact hk3
              clear hK K
              try simp only [pt]
              refine wpAnyH_ready (rs := [15]) (by kernel_rfl) (by simp) ?_
              refine rdH (fun K hK => ?_) ?_
              · obtain ⟨a2, c2, w8, hrun9, hrw8, hgr8, _⟩ := run_appP w6 26 w.heap.size _ (ps) HROW1.out (some ⟨w.heap.size + 1, 0, none⟩) 1 1 [(pf, pt, pd)] HONE.out (Nat.le_refl _) (fun e => by cases e) (by rw [HSZ.out]; have := HNN.out; omega) HW3.out.size
                rw [HSZ.out] at hrun9 hrw8
                have HW8 := Lib.hid (belP HROW1.out HW3.out hgr8 HW3.out.size)
                have hk8 := HKS.out _ HW8.out
                have HROW2 := Lib.hid hrw8
                have ck8 : w8.cell? ⟨b, 0, none⟩ = some (Value.slice (some ⟨g, off, none⟩) n c) := (HQ.out.next HW8.out).c0
                have fk8 := (HQ.out.next HW8.out).f0 0
                clear hrw8 hgr8
                refine step_append_run (by rfl) (.tmp 21) (.tmp 29) 26 rfl _ _ _ rfl rfl hrun9 ?_
                refine hK.out _ _ ?_ (fun hH => ?_)
                · exact hk8
                clear hK K
                try simp only [pt]
                refine tkH 16 ?_ ?_ ?_
                rotate_left
                · intro w h; try dsimp only at h
                  obtain ⟨x0, x1, x2⟩ := h; go_simp; all_goals with_reducible rfl
                try simp only [pt]
                refine tkH 17 ?_ ?_ ?_
                rotate_left
                · intro w h; try dsimp only at h
                  obtain ⟨x0, x1, x2⟩ := h; go_simp; all_goals with_reducible rfl
                try simp only [pt]
                refine wpAnyH_ready (rs := [18]) (by kernel_rfl) (by simp) ?_
                refine rdH (fun K hK => ?_) ?_
                · go_simp
                  refine hK.out _ _ ?_ (fun hH => ?_)
                  · exact (HKT.out _ _ HW8.out)
                  clear hK K
                  try simp only [pt]
                  refine wpAnyH_done (by kernel_rfl) ?_ _
                  have HFIN := Lib.hid (bd_put0 HQ.out HW8.out (HROW2.out.lower (Nat.le_refl _)))
                  clear hrun hrun9
                  go_wp2_with fail
                  go_meet
                  case rel => exact ⟨_, HFIN.out.1, HFIN.out.2⟩
                exact AllReadyH.nil
              exact AllReadyH.nil
            exact AllReadyH.nil
          exact AllReadyH.nil
        exact AllReadyH.nil
      refine rdH (fun K hK => ?_) ?_
      · go_simp
        refine hK.out _ _ ?_ (fun hH => ?_)
        · exact hk1
        clear hK K
        try simp only [pt]
        refine tkH 12 ?_ ?_ ?_
        rotate_left
        · intro w h; try dsimp only at h
          obtain ⟨x0, x1, x2⟩ := h; go_simp; all_goals with_reducible rfl
        try simp only [pt]
        refine tkH 13 ?_ ?_ ?_
        rotate_left
        · intro w h; try dsimp only at h
          obtain ⟨x0, x1, x2⟩ := h; go_simp; all_goals with_reducible rfl
        try simp only [pt]
        refine wpAnyH_ready (rs := [5, 14]) (by kernel_rfl) (by simp) ?_
        refine rdH (fun K hK => ?_) ?_
        · go_simp
          refine hK.out _ _ ?_ (fun hH => ?_)
          · exact hk1
          clear hK K
          try simp only [pt]
          refine wpAnyH_ready (rs := [6, 14]) (by kernel_rfl) (by simp) ?_
          refine rdH (fun K hK => ?_) ?_
          · obtain ⟨a1, c1', w6, hrun, hrw6, hgr6, _⟩ := run_appP (w.drew.alloc (.cells #[] 39)) 26 w.heap.size _ [] HROW.out (some ⟨g, off, none⟩) n c (ps) (psAt_below HX.out HW1.out) HC.out.1 HC.out.2 (by have := HNN.out; simp only [List.length_nil]; omega) HW1.out.size
            simp only [List.length_nil, Nat.zero_add, List.nil_append] at hrun hrw6
            have HW2 := Lib.hid (belP HROW.out HW1.out hgr6 HW1.out.size)
            have hk2 := HKS.out _ HW2.out
            have HROW1 := Lib.hid hrw6
            have ck2 : w6.cell? ⟨b, 0, none⟩ = some (Value.slice (some ⟨g, off, none⟩) n c) := (HQ.out.next HW2.out).c0
            clear hrw6 hgr6
            refine step_append_run (by rfl) (.tmp 16) (.tmp 20) 26 rfl _ _ _ rfl rfl hrun ?_
            refine hK.out _ _ ?_ (fun hH => ?_)
            · exact hk2
            clear hK K
            try simp only [pt]
            refine wpAnyH_ready (rs := [14]) (by kernel_rfl) (by simp) ?_
            refine rdH (fun K hK => ?_) ?_
            · go_simp
              have HW3 : Hid (Below w.heap.size w (w6.alloc (.cells #[.int .i64 pf, .int .i64 pt, .string pd] 39))) := Lib.hid (Below.step HW2.out (.cells #[.int .i64 pf, .int .i64 pt, .string pd] 39) (Below.refl _ _))
              have hk3 := HKS.out _ HW3.out
              have ck3 : (w6.alloc (.cells #[.int .i64 pf, .int .i64 pt, .string pd] 39)).cell? ⟨b, 0, none⟩ = some (Value.slice (some ⟨g, off, none⟩) n c) := (HQ.out.next HW3.out).c0
              have HONE : Hid (PsAt (w6.alloc (.cells #[.int .i64 pf, .int .i64 pt, .string pd] 39)) (some ⟨w6.heap.size, 0, none⟩) 1 [(pf, pt, pd)]) := Lib.hid (by
                have := psAt_one w6 pf pt pd
                exact this)
              have HROW1 := Lib.hid (HROW1.out.alloc (.cells #[.int .i64 pf, .int .i64 pt, .string pd] 39))
              refine hK.out _ _ ?_ (fun hH => ?_)
              · exact hk3
              clear hK K
              try simp only [pt]
              refine wpAnyH_ready (rs := [15]) (by kernel_rfl) (by simp) ?_
              refine rdH (fun K hK => ?_) ?_
              · obtain ⟨a2, c2, w8, hrun9, hrw8, hgr8, _⟩ := run_appP (w6.alloc (.cells #[.int .i64 pf, .int .i64 pt, .string pd] 39)) 26 w.heap.size _ (ps) HROW1.out (some ⟨w6.heap.size, 0, none⟩) 1 1 [(pf, pt, pd)] HONE.out (Nat.le_refl _) (fun e => by cases e) (by rw [HSZ.out]; have := HNN.out; omega) HW3.out.size
                rw [HSZ.out] at hrun9 hrw8
                have HW8 := Lib.hid (belP HROW1.out HW3.out hgr8 HW3.out.size)
                have hk8 := HKS.out _ HW8.out
                have HROW2 := Lib.hid hrw8
                have ck8 : w8.cell? ⟨b, 0, none⟩ = some (Value.slice (some ⟨g, off, none⟩) n c) := (HQ.out.next HW8.out).c0
                have fk8 := (HQ.out.next HW8.out).f0 0
                clear hrw8 hgr8
                refine step_append_run (by rfl) (.tmp 21) (.tmp 29) 26 rfl _ _ _ rfl rfl hrun9 ?_
                refine hK.out _ _ ?_ (fun hH => ?_)
                · exact hk8
                clear hK K
                try simp only [pt]
                refine tkH 16 ?_ ?_ ?_
                rotate_left
                · intro w h; try dsimp only at h
                  obtain ⟨x0, x1, x2⟩ := h; go_simp; all_goals with_reducible rfl
                try simp only [pt]
                refine tkH 17 ?_ ?_ ?_
                rotate_left
                · intro w h; try dsimp only at h
                  obtain ⟨x0, x1, x2⟩ := h; go_simp; all_goals with_reducible rfl
                try simp only [pt]
                refine wpAnyH_ready (rs := [18]) (by kernel_rfl) (by simp) ?_
                refine rdH (fun K hK => ?_) ?_
                · go_simp
                  refine hK.out _ _ ?_ (fun hH => ?_)
                  · exact (HKT.out _ _ HW8.out)
                  clear hK K
                  try simp only [pt]
                  refine wpAnyH_done (by kernel_rfl) ?_ _
                  have HFIN := Lib.hid (bd_put0 HQ.out HW8.out (HROW2.out.lower (Nat.le_refl _)))
                  clear hrun hrun9
                  go_wp2_with fail
                  go_meet
                  case rel => exact ⟨_, HFIN.out.1, HFIN.out.2⟩
                exact AllReadyH.nil
              exact AllReadyH.nil
            exact AllReadyH.nil
          refine rdH (fun K hK => ?_) ?_
          · go_simp
            have HW2 : Hid (Below w.heap.size w ((w.drew.alloc (.cells #[] 39)).alloc (.cells #[.int .i64 pf, .int .i64 pt, .string pd] 39))) := Lib.hid (Below.step HW1.out (.cells #[.int .i64 pf, .int .i64 pt, .string pd] 39) (Below.refl _ _))
            have hk2 := HKS.out _ HW2.out
            have ck2 : ((w.alloc (.cells #[] 39)).alloc (.cells #[.int .i64 pf, .int .i64 pt, .string pd] 39)).cell? ⟨b, 0, none⟩ = some (Value.slice (some ⟨g, off, none⟩) n c) := (HQ.out.next HW2.out).c0
            have HONE : Hid (PsAt ((w.drew.alloc (.cells #[] 39)).alloc (.cells #[.int .i64 pf, .int .i64 pt, .string pd] 39)) (some ⟨w.heap.size + 1, 0, none⟩) 1 [(pf, pt, pd)]) := Lib.hid (by
              have := psAt_one (w.drew.alloc (.cells #[] 39)) pf pt pd
              rw [show (w.drew.alloc (.cells #[] 39)).heap.size = w.heap.size + 1 by simp] at this
              exact this)
            have HROW := Lib.hid (HROW.out.alloc (.cells #[.int .i64 pf, .int .i64 pt, .string pd] 39))
            refine hK.out _ _ ?_ (fun hH => ?_)
            · exact hk2
            clear hK K
            try simp only [pt]
            refine wpAnyH_ready (rs := [6]) (by kernel_rfl) (by simp) ?_
            refine rdH (fun K hK => ?_) ?_
            · obtain ⟨a1, c1', w6, hrun, hrw6, hgr6, _⟩ := run_appP ((w.drew.alloc (.cells #[] 39)).alloc (.cells #[.int .i64 pf, .int .i64 pt, .string pd] 39)) 26 w.heap.size _ [] HROW.out (some ⟨g, off, none⟩) n c (ps) (psAt_below HX.out HW2.out) HC.out.1 HC.out.2 (by have := HNN.out; simp only [List.length_nil]; omega) HW2.out.size
              simp only [List.length_nil, Nat.zero_add, List.nil_append] at hrun hrw6
              have HW3 := Lib.hid (belP HROW.out HW2.out hgr6 HW2.out.size)
              have hk3 := HKS.out _ HW3.out
              have HROW1 := Lib.hid hrw6
              have ck3 : w6.cell? ⟨b, 0, none⟩ = some (Value.slice (some ⟨g, off, none⟩) n c) := (HQ.out.next HW3.out).c0
              have HONE := Lib.hid (psAt_keep HONE.out (fun g off e => hgr6.block g (by cases e; first | (simp; done) | (simp; omega)) (by cases e; simp [Value.ownBlock])) hgr6.size)
              clear hrw6 hgr6
              refine step_append_run (by rfl) (.tmp 16) (.tmp 20) 26 rfl _ _ _ rfl rfl hrun ?_
              refine hK.out _ _ ?_ (fun hH => ?_)
              · exact hk3
              clear hK K
              try simp only [pt]
              refine wpAnyH_ready (rs := [15]) (by kernel_rfl) (by simp) ?_
              refine rdH (fun K hK => ?_) ?_
              · obtain ⟨a2, c2, w8, hrun9, hrw8, hgr8, _⟩ := run_appP w6 26 w.heap.size _ (ps) HROW1.out (some ⟨w.heap.size + 1, 0, none⟩) 1 1 [(pf, pt, pd)] HONE.out (Nat.le_refl _) (fun e => by cases e) (by rw [HSZ.out]; have := HNN.out; omega) HW3.out.size
                rw [HSZ.out] at hrun9 hrw8
                have HW8 := Lib.hid (belP HROW1.out HW3.out hgr8 HW3.out.size)
                have hk8 := HKS.out _ HW8.out
                have HROW2 := Lib.hid hrw8
                have ck8 : w8.cell? ⟨b, 0, none⟩ = some (Value.slice (some ⟨g, off, none⟩) n c) := (HQ.out.next HW8.out).c0
                have fk8 := (HQ.out.next HW8.out).f0 0
                clear hrw8 hgr8
                refine step_append_run (by rfl) (.tmp 21) (.tmp 29) 26 rfl _ _ _ rfl rfl hrun9 ?_
                refine hK.out _ _ ?_ (fun hH => ?_)
                · exact hk8
                clear hK K
                try simp only [pt]
                refine tkH 16 ?_ ?_ ?_
                rotate_left
                · intro w h; try dsimp only at h
                  obtain ⟨x0, x1, x2⟩ := h; go_simp; all_goals with_reducible rfl
                try simp only [pt]
                refine tkH 17 ?_ ?_ ?_
                rotate_left
                · intro w h; try dsimp only at h
                  obtain ⟨x0, x1, x2⟩ := h; go_simp; all_goals with_reducible rfl
                try simp only [pt]
                refine wpAnyH_ready (rs := [18]) (by kernel_rfl) (by simp) ?_
                refine rdH (fun K hK => ?_) ?_
                · go_simp
                  refine hK.out _ _ ?_ (fun hH => ?_)
                  · exact (HKT.out _ _ HW8.out)
                  clear hK K
                  try simp only [pt]
                  refine wpAnyH_done (by kernel_rfl) ?_ _
                  have HFIN := Lib.hid (bd_put0 HQ.out HW8.out (HROW2.out.lower (Nat.le_refl _)))
                  clear hrun hrun9
                  go_wp2_with fail
                  go_meet
                  case rel => exact ⟨_, HFIN.out.1, HFIN.out.2⟩
                exact AllReadyH.nil
              exact AllReadyH.nil
            exact AllReadyH.nil
          exact AllReadyH.nil
        refine rdH (fun K hK => ?_) ?_
        · go_simp
          have HW2 : Hid (Below w.heap.size w ((w.drew.alloc (.cells #[] 39)).alloc (.cells #[.int .i64 pf, .int .i64 pt, .string pd] 39))) := Lib.hid (Below.step HW1.out (.cells #[.int .i64 pf, .int .i64 pt, .string pd] 39) (Below.refl _ _))
          have hk2 := HKS.out _ HW2.out
          have ck2 : ((w.alloc (.cells #[] 39)).alloc (.cells #[.int .i64 pf, .int .i64 pt, .string pd] 39)).cell? ⟨b, 0, none⟩ = some (Value.slice (some ⟨g, off, none⟩) n c) := (HQ.out.next HW2.out).c0
          have HONE : Hid (PsAt ((w.drew.alloc (.cells #[] 39)).alloc (.cells #[.int .i64 pf, .int .i64 pt, .string pd] 39)) (some ⟨w.heap.size + 1, 0, none⟩) 1 [(pf, pt, pd)]) := Lib.hid (by
            have := psAt_one (w.drew.alloc (.cells #[] 39)) pf pt pd
            rw [show (w.drew.alloc (.cells #[] 39)).heap.size = w.heap.size + 1 by simp] at this
            exact this)
          have HROW := Lib.hid (HROW.out.alloc (.cells #[.int .i64 pf, .int .i64 pt, .string pd] 39))
          refine hK.out _ _ ?_ (fun hH => ?_)
          · exact hk2
          clear hK K
          try simp only [pt]
          refine wpAnyH_ready (rs := [5]) (by kernel_rfl) (by simp) ?_
          refine rdH (fun K hK => ?_) ?_
          · go_simp
            refine hK.out _ _ ?_ (fun hH => ?_)
            · exact hk2
            clear hK K
            try simp only [pt]
            refine wpAnyH_ready (rs := [6]) (by kernel_rfl) (by simp) ?_
            refine rdH (fun K hK => ?_) ?_
            · obtain ⟨a1, c1', w6, hrun, hrw6, hgr6, _⟩ := run_appP ((w.drew.alloc (.cells #[] 39)).alloc (.cells #[.int .i64 pf, .int .i64 pt, .string pd] 39)) 26 w.heap.size _ [] HROW.out (some ⟨g, off, none⟩) n c (ps) (psAt_below HX.out HW2.out) HC.out.1 HC.out.2 (by have := HNN.out; simp only [List.length_nil]; omega) HW2.out.size
              simp only [List.length_nil, Nat.zero_add, List.nil_append] at hrun hrw6
              have HW3 := Lib.hid (belP HROW.out HW2.out hgr6 HW2.out.size)
              have hk3 := HKS.out _ HW3.out
              have HROW1 := Lib.hid hrw6
              have ck3 : w6.cell? ⟨b, 0, none⟩ = some (Value.slice (some ⟨g, off, none⟩) n c) := (HQ.out.next HW3.out).c0
              have HONE := Lib.hid (psAt_keep HONE.out (fun g off e => hgr6.block g (by cases e; first | (simp; done) | (simp; omega)) (by cases e; simp [Value.ownBlock])) hgr6.size)
              clear hrw6 hgr6
              refine step_append_run (by rfl) (.tmp 16) (.tmp 20) 26 rfl _ _ _ rfl rfl hrun ?_
              refine hK.out _ _ ?_ (fun hH => ?_)
              · exact hk3
              clear hK K
              try simp only [pt]
              refine wpAnyH_ready (rs := [15]) (by kernel_rfl) (by simp) ?_
              refine rdH (fun K hK => ?_) ?_
              · obtain ⟨a2, c2, w8, hrun9, hrw8, hgr8, _⟩ := run_appP w6 26 w.heap.size _ (ps) HROW1.out (some ⟨w.heap.size + 1, 0, none⟩) 1 1 [(pf, pt, pd)] HONE.out (Nat.le_refl _) (fun e => by cases e) (by rw [HSZ.out]; have := HNN.out; omega) HW3.out.size
                rw [HSZ.out] at hrun9 hrw8
                have HW8 := Lib.hid (belP HROW1.out HW3.out hgr8 HW3.out.size)
                have hk8 := HKS.out _ HW8.out
                have HROW2 := Lib.hid hrw8
                have ck8 : w8.cell? ⟨b, 0, none⟩ = some (Value.slice (some ⟨g, off, none⟩) n c) := (HQ.out.next HW8.out).c0
                have fk8 := (HQ.out.next HW8.out).f0 0
                clear hrw8 hgr8
                refine step_append_run (by rfl) (.tmp 21) (.tmp 29) 26 rfl _ _ _ rfl rfl hrun9 ?_
                refine hK.out _ _ ?_ (fun hH => ?_)
                · exact hk8
                clear hK K
                try simp only [pt]
                refine tkH 16 ?_ ?_ ?_
                rotate_left
                · intro w h; try dsimp only at h
                  obtain ⟨x0, x1, x2⟩ := h; go_simp; all_goals with_reducible rfl
                try simp only [pt]
                refine tkH 17 ?_ ?_ ?_
                rotate_left
                · intro w h; try dsimp only at h
                  obtain ⟨x0, x1, x2⟩ := h; go_simp; all_goals with_reducible rfl
                try simp only [pt]
                refine wpAnyH_ready (rs := [18]) (by kernel_rfl) (by simp) ?_
                refine rdH (fun K hK => ?_) ?_
                · go_simp
                  refine hK.out _ _ ?_ (fun hH => ?_)
                  · exact (HKT.out _ _ HW8.out)
                  clear hK K
                  try simp only [pt]
                  refine wpAnyH_done (by kernel_rfl) ?_ _
                  have HFIN := Lib.hid (bd_put0 HQ.out HW8.out (HROW2.out.lower (Nat.le_refl _)))
                  clear hrun hrun9
                  go_wp2_with fail
                  go_meet
                  case rel => exact ⟨_, HFIN.out.1, HFIN.out.2⟩
                exact AllReadyH.nil
              exact AllReadyH.nil
            exact AllReadyH.nil
          exact AllReadyH.nil
        exact AllReadyH.nil
      exact AllReadyH.nil
    refine rdH (fun K hK => ?_) ?_
    · go_simp
      refine hK.out _ _ ?_ (fun hH => ?_)
      · exact hk0
      clear hK K
      try simp only [pt]
      refine wpAnyH_ready (rs := [1, 10]) (by kernel_rfl) (by simp) ?_
      refine rdH (fun K hK => ?_) ?_
      · go_simp
        have HW1 : Hid (Below w.heap.size w (w.drew.alloc (.cells #[] 39))) := Lib.hid (Below.step HW0.out (.cells #[] 39) (Below.refl _ _))
        have hk1 := HKS.out _ HW1.out
        have ck1 : (w.alloc (.cells #[] 39)).cell? ⟨b, 0, none⟩ = some (Value.slice (some ⟨g, off, none⟩) n c) := (HQ.out.next HW1.out).c0
        have HROW : Hid (RowP w.heap.size (w.drew.alloc (.cells #[] 39)) (.slice (some ⟨w.heap.size, 0, none⟩) 0 0) []) := Lib.hid (by
          have := (rowP_new w.drew).lower (show w.heap.size ≤ w.drew.heap.size from HW0.out.size)
          rw [show w.drew.heap.size = w.heap.size by simp] at this
          exact this)
        refine hK.out _ _ ?_ (fun hH => ?_)
        · exact hk1
        clear hK K
        try simp only [pt]
        refine wpAnyH_ready (rs := [6, 10]) (by kernel_rfl) (by simp) ?_
        refine rdH (fun K hK => ?_) ?_
        · obtain ⟨a1, c1', w6, hrun, hrw6, hgr6, _⟩ := run_appP (w.drew.alloc (.cells #[] 39)) 26 w.heap.size _ [] HROW.out (some ⟨g, off, none⟩) n c (ps) (psAt_below HX.out HW1.out) HC.out.1 HC.out.2 (by have := HNN.out; simp only [List.length_nil]; omega) HW1.out.size
          simp only [List.length_nil, Nat.zero_add, List.nil_append] at hrun hrw6
          have HW2 := Lib.hid (belP HROW.out HW1.out hgr6 HW1.out.size)
          have hk2 := HKS.out _ HW2.out
          have HROW1 := Lib.hid hrw6
          have ck2 : w6.cell? ⟨b, 0, none⟩ = some (Value.slice (some ⟨g, off, none⟩) n c) := (HQ.out.next HW2.out).c0
          clear hrw6 hgr6
          refine step_append_run (by rfl) (.tmp 16) (.tmp 20) 26 rfl _ _ _ rfl rfl hrun ?_
          refine hK.out _ _ ?_ (fun hH => ?_)
          · exact hk2
          clear hK K
          try simp only [pt]
          refine wpAnyH_ready (rs := [10]) (by kernel_rfl) (by simp) ?_
          refine rdH (fun K hK => ?_) ?_
          · go_simp
            refine hK.out _ _ ?_ (fun hH => ?_)
            · exact hk2
            clear hK K
            try simp only [pt]
            refine tkH 12 ?_ ?_ ?_
            rotate_left
            · intro w h; try dsimp only at h
              obtain ⟨x0, x1, x2⟩ := h; go_simp; all_goals with_reducible rfl
            try simp only [pt]
            refine tkH 13 ?_ ?_ ?_
            rotate_left
            · intro w h; try dsimp only at h
              obtain ⟨x0, x1, x2⟩ := h; go_simp; all_goals with_reducible rfl
            try simp only [pt]
            refine wpAnyH_ready (rs := [14]) (by kernel_rfl) (by simp) ?_
            refine rdH (fun K hK => ?_) ?_
            · go_simp
              have HW3 : Hid (Below w.heap.size w (w6.alloc (.cells #[.int .i64 pf, .int .i64 pt, .string pd] 39))) := Lib.hid (Below.step HW2.out (.cells #[.int .i64 pf, .int .i64 pt, .string pd] 39) (Below.refl _ _))
              have hk3 := HKS.out _ HW3.out
              have ck3 : (w6.alloc (.cells #[.int .i64 pf, .int .i64 pt, .string pd] 39)).cell? ⟨b, 0, none⟩ = some (Value.slice (some ⟨g, off, none⟩) n c) := (HQ.out.next HW3.out).c0
              have HONE : Hid (PsAt (w6.alloc (.cells #[.int .i64 pf, .int .i64 pt, .string pd] 39)) (some ⟨w6.heap.size, 0, none⟩) 1 [(pf, pt, pd)]) := Lib.hid (by
                have := psAt_one w6 pf pt pd
                exact this)
              have HROW1 := Lib.hid (HROW1.out.alloc (.cells #[.int .i64 pf, .int .i64 pt, .string pd] 39))
              refine hK.out _ _ ?_ (fun hH => ?_)
              · exact hk3
              clear hK K
              try simp only [pt]
              refine wpAnyH_ready (rs := [15]) (by kernel_rfl) (by simp) ?_
              refine rdH (fun K hK => ?_) ?_
              · obtain ⟨a2, c2, w8, hrun9, hrw8, hgr8, _⟩ := run_appP (w6.alloc (.cells #[.int .i64 pf, .int .i64 pt, .string pd] 39)) 26 w.heap.size _ (ps) HROW1.out (some ⟨w6.heap.size, 0, none⟩) 1 1 [(pf, pt, pd)] HONE.out (Nat.le_refl _) (fun e => by cases e) (by rw [HSZ.out]; have := HNN.out; omega) HW3.out.size
                rw [HSZ.out] at hrun9 hrw8
                have HW8 := Lib.hid (belP HROW1.out HW3.out hgr8 HW3.out.size)
                have hk8 := HKS.out _ HW8.out
                have HROW2 := Lib.hid hrw8
                have ck8 : w8.cell? ⟨b, 0, none⟩ = some (Value.slice (some ⟨g, off, none⟩) n c) := (HQ.out.next HW8.out).c0
                have fk8 := (HQ.out.next HW8.out).f0 0
                clear hrw8 hgr8
                refine step_append_run (by rfl) (.tmp 21) (.tmp 29) 26 rfl _ _ _ rfl rfl hrun9 ?_
                refine hK.out _ _ ?_ (fun hH => ?_)
                · exact hk8
                clear hK K
                try simp only [pt]
                refine tkH 16 ?_ ?_ ?_
                rotate_left
                · intro w h; try dsimp only at h
                  obtain ⟨x0, x1, x2⟩ := h; go_simp; all_goals with_reducible rfl
                try simp only [pt]
                refine tkH 17 ?_ ?_ ?_
                rotate_left
                · intro w h; try dsimp only at h
                  obtain ⟨x0, x1, x2⟩ := h; go_simp; all_goals with_reducible rfl
                try simp only [pt]
                refine wpAnyH_ready (rs := [18]) (by kernel_rfl) (by simp) ?_
                refine rdH (fun K hK => ?_) ?_
                · go_simp
                  refine hK.out _ _ ?_ (fun hH => ?_)
                  · exact (HKT.out _ _ HW8.out)
                  clear hK K
                  try simp only [pt]
                  refine wpAnyH_done (by kernel_rfl) ?_ _
                  have HFIN := Lib.hid (bd_put0 HQ.out HW8.out (HROW2.out.lower (Nat.le_refl _)))
                  clear hrun hrun9
                  go_wp2_with fail
                  go_meet
                  case rel => exact ⟨_, HFIN.out.1, HFIN.out.2⟩
                exact AllReadyH.nil
              exact AllReadyH.nil
            exact AllReadyH.nil
          exact AllReadyH.nil
        refine rdH (fun K hK => ?_) ?_
        · go_simp
          refine hK.out _ _ ?_ (fun hH => ?_)
          · exact hk1
          clear hK K
          try simp only [pt]
          refine tkH 12 ?_ ?_ ?_
          rotate_left
          · intro w h; try dsimp only at h
            obtain ⟨x0, x1, x2⟩ := h; go_simp; all_goals with_reducible rfl
          try simp only [pt]
          refine tkH 13 ?_ ?_ ?_
          rotate_left
          · intro w h; try dsimp only at h
            obtain ⟨x0, x1, x2⟩ := h; go_simp; all_goals with_reducible rfl
          try simp only [pt]
          refine wpAnyH_ready (rs := [6, 14]) (by kernel_rfl) (by simp) ?_
          refine rdH (fun K hK => ?_) ?_
          · obtain ⟨a1, c1', w6, hrun, hrw6, hgr6, _⟩ := run_appP (w.drew.alloc (.cells #[] 39)) 26 w.heap.size _ [] HROW.out (some ⟨g, off, none⟩) n c (ps) (psAt_below HX.out HW1.out) HC.out.1 HC.out.2 (by have := HNN.out; simp only [List.length_nil]; omega) HW1.out.size
            simp only [List.length_nil, Nat.zero_add, List.nil_append] at hrun hrw6
            have HW2 := Lib.hid (belP HROW.out HW1.out hgr6 HW1.out.size)
            have hk2 := HKS.out _ HW2.out
            have HROW1 := Lib.hid hrw6
            have ck2 : w6.cell? ⟨b, 0, none⟩ = some (Value.slice (some ⟨g, off, none⟩) n c) := (HQ.out.next HW2.out).c0
            clear hrw6 hgr6
            refine step_append_run (by rfl) (.tmp 16) (.tmp 20) 26 rfl _ _ _ rfl rfl hrun ?_
            refine hK.out _ _ ?_ (fun hH => ?_)
            · exact hk2
            clear hK K
            try simp only [pt]
            refine wpAnyH_ready (rs := [14]) (by kernel_rfl) (by simp) ?_
            refine rdH (fun K hK => ?_) ?_
            · go_simp
              have HW3 : Hid (Below w.heap.size w (w6.alloc (.cells #[.int .i64 pf, .int .i64 pt, .string pd] 39))) := Lib.hid (Below.step HW2.out (.cells #[.int .i64 pf, .int .i64 pt, .string pd] 39) (Below.refl _ _))
              have hk3 := HKS.out _ HW3.out
              have ck3 : (w6.alloc (.cells #[.int .i64 pf, .int .i64 pt, .string pd] 39)).cell? ⟨b, 0, none⟩ = some (Value.slice (some ⟨g, off, none⟩) n c) := (HQ.out.next HW3.out).c0
              have HONE : Hid (PsAt (w6.alloc (.cells #[.int .i64 pf, .int .i64 pt, .string pd] 39)) (some ⟨w6.heap.size, 0, none⟩) 1 [(pf, pt, pd)]) := Lib.hid (by
                have := psAt_one w6 pf pt pd
                exact this)
              have HROW1 := Lib.hid (HROW1.out.alloc (.cells #[.int .i64 pf, .int .i64 pt, .string pd] 39))
              refine hK.out _ _ ?_ (fun hH => ?_)
              · exact hk3
              clear hK K
              try simp only [pt]
              refine wpAnyH_ready (rs := [15]) (by kernel_rfl) (by simp) ?_
              refine rdH (fun K hK => ?_) ?_
              · obtain ⟨a2, c2, w8, hrun9, hrw8, hgr8, _⟩ := run_appP (w6.alloc (.cells #[.int .i64 pf, .int .i64 pt, .string pd] 39)) 26 w.heap.size _ (ps) HROW1.out (some ⟨w6.heap.size, 0, none⟩) 1 1 [(pf, pt, pd)] HONE.out (Nat.le_refl _) (fun e => by cases e) (by rw [HSZ.out]; have := HNN.out; omega) HW3.out.size
                rw [HSZ.out] at hrun9 hrw8
                have HW8 := Lib.hid (belP HROW1.out HW3.out hgr8 HW3.out.size)
                have hk8 := HKS.out _ HW8.out
                have HROW2 := Lib.hid hrw8
                have ck8 : w8.cell? ⟨b, 0, none⟩ = some (Value.slice (some ⟨g, off, none⟩) n c) := (HQ.out.next HW8.out).c0
                have fk8 := (HQ.out.next HW8.out).f0 0
                clear hrw8 hgr8
                refine step_append_run (by rfl) (.tmp 21) (.tmp 29) 26 rfl _ _ _ rfl rfl hrun9 ?_
                refine hK.out _ _ ?_ (fun hH => ?_)
                · exact hk8
                clear hK K
                try simp only [pt]
                refine tkH 16 ?_ ?_ ?_
                rotate_left
                · intro w h; try dsimp only at h
                  obtain ⟨x0, x1, x2⟩ := h; go_simp; all_goals with_reducible rfl
                try simp only [pt]
                refine tkH 17 ?_ ?_ ?_
                rotate_left
                · intro w h; try dsimp only at h
                  obtain ⟨x0, x1, x2⟩ := h; go_simp; all_goals with_reducible rfl
                try simp only [pt]
                refine wpAnyH_ready (rs := [18]) (by kernel_rfl) (by simp) ?_
                refine rdH (fun K hK => ?_) ?_
                · go_simp
                  refine hK.out _ _ ?_ (fun hH => ?_)
                  · exact (HKT.out _ _ HW8.out)
                  clear hK K
                  try simp only [pt]
                  refine wpAnyH_done (by kernel_rfl) ?_ _
                  have HFIN := Lib.hid (bd_put0 HQ.out HW8.out (HROW2.out.lower (Nat.le_refl _)))
                  clear hrun hrun9
                  go_wp2_with fail
                  go_meet
                  case rel => exact ⟨_, HFIN.out.1, HFIN.out.2⟩
                exact AllReadyH.nil
              exact AllReadyH.nil
            exact AllReadyH.nil
          refine rdH (fun K hK => ?_) ?_
          · go_simp
            have HW2 : Hid (Below w.heap.size w ((w.drew.alloc (.cells #[] 39)).alloc (.cells #[.int .i64 pf, .int .i64 pt, .string pd] 39))) := Lib.hid (Below.step HW1.out (.cells #[.int .i64 pf, .int .i64 pt, .string pd] 39) (Below.refl _ _))
            have hk2 := HKS.out _ HW2.out
            have ck2 : ((w.alloc (.cells #[] 39)).alloc (.cells #[.int .i64 pf, .int .i64 pt, .string pd] 39)).cell? ⟨b, 0, none⟩ = some (Value.slice (some ⟨g, off, none⟩) n c) := (HQ.out.next HW2.out).c0
            have HONE : Hid (PsAt ((w.drew.alloc (.cells #[] 39)).alloc (.cells #[.int .i64 pf, .int .i64 pt, .string pd] 39)) (some ⟨w.heap.size + 1, 0, none⟩) 1 [(pf, pt, pd)]) := Lib.hid (by
              have := psAt_one (w.drew.alloc (.cells #[] 39)) pf pt pd
              rw [show (w.drew.alloc (.cells #[] 39)).heap.size = w.heap.size + 1 by simp] at this
              exact this)
            have HROW := Lib.hid (HROW.out.alloc (.cells #[.int .i64 pf, .int .i64 pt, .string pd] 39))
            refine hK.out _ _ ?_ (fun hH => ?_)
            · exact hk2
            clear hK K
            try simp only [pt]
            refine wpAnyH_ready (rs := [6]) (by kernel_rfl) (by simp) ?_
            refine rdH (fun K hK => ?_) ?_
            · obtain ⟨a1, c1', w6, hrun, hrw6, hgr6, _⟩ := run_appP ((w.drew.alloc (.cells #[] 39)).alloc (.cells #[.int .i64 pf, .int .i64 pt, .string pd] 39)) 26 w.heap.size _ [] HROW.out (some ⟨g, off, none⟩) n c (ps) (psAt_below HX.out HW2.out) HC.out.1 HC.out.2 (by have := HNN.out; simp only [List.length_nil]; omega) HW2.out.size
              simp only [List.length_nil, Nat.zero_add, List.nil_append] at hrun hrw6
              have HW3 := Lib.hid (belP HROW.out HW2.out hgr6 HW2.out.size)
              have hk3 := HKS.out _ HW3.out
              have HROW1 := Lib.hid hrw6
              have ck3 : w6.cell? ⟨b, 0, none⟩ = some (Value.slice (some ⟨g, off, none⟩) n c) := (HQ.out.next HW3.out).c0
              have HONE := Lib.hid (psAt_keep HONE.out (fun g off e => hgr6.block g (by cases e; first | (simp; done) | (simp; omega)) (by cases e; simp [Value.ownBlock])) hgr6.size)
              clear hrw6 hgr6
              refine step_append_run (by rfl) (.tmp 16) (.tmp 20) 26 rfl _ _ _ rfl rfl hrun ?_
              refine hK.out _ _ ?_ (fun hH => ?_)
              · exact hk3
              clear hK K
              try simp only [pt]
              refine wpAnyH_ready (rs := [15]) (by kernel_rfl) (by simp) ?_
              refine rdH (fun K hK => ?_) ?_
              · obtain ⟨a2, c2, w8, hrun9, hrw8, hgr8, _⟩ := run_appP w6 26 w.heap.size _ (ps) HROW1.out (some ⟨w.heap.size + 1, 0, none⟩) 1 1 [(pf, pt, pd)] HONE.out (Nat.le_refl _) (fun e => by cases e) (by rw [HSZ.out]; have := HNN.out; omega) HW3.out.size
                rw [HSZ.out] at hrun9 hrw8
                have HW8 := Lib.hid (belP HROW1.out HW3.out hgr8 HW3.out.size)
                have hk8 := HKS.out _ HW8.out
                have HROW2 := Lib.hid hrw8
                have ck8 : w8.cell? ⟨b, 0, none⟩ = some (Value.slice (some ⟨g, off, none⟩) n c) := (HQ.out.next HW8.out).c0
                have fk8 := (HQ.out.next HW8.out).f0 0
                clear hrw8 hgr8
                refine step_append_run (by rfl) (.tmp 21) (.tmp 29) 26 rfl _ _ _ rfl rfl hrun9 ?_
                refine hK.out _ _ ?_ (fun hH => ?_)
                · exact hk8
                clear hK K
                try simp only [pt]
                refine tkH 16 ?_ ?_ ?_
                rotate_left
                · intro w h; try dsimp only at h
                  obtain ⟨x0, x1, x2⟩ := h; go_simp; all_goals with_reducible rfl
                try simp only [pt]
                refine tkH 17 ?_ ?_ ?_
                rotate_left
                · intro w h; try dsimp only at h
                  obtain ⟨x0, x1, x2⟩ := h; go_simp; all_goals with_reducible rfl
                try simp only [pt]
                refine wpAnyH_ready (rs := [18]) (by kernel_rfl) (by simp) ?_
                refine rdH (fun K hK => ?_) ?_
                · go_simp
                  refine hK.out _ _ ?_ (fun hH => ?_)
                  · exact (HKT.out _ _ HW8.out)
                  clear hK K
                  try simp only [pt]
                  refine wpAnyH_done (by kernel_rfl) ?_ _
                  have HFIN := Lib.hid (bd_put0 HQ.out HW8.out (HROW2.out.lower (Nat.le_refl _)))
                  clear hrun hrun9
                  go_wp2_with fail
                  go_meet
                  case rel => exact ⟨_, HFIN.out.1, HFIN.out.2⟩
                exact AllReadyH.nil
              exact AllReadyH.nil
            exact AllReadyH.nil
          exact AllReadyH.nil
        exact AllReadyH.nil
      refine rdH (fun K hK => ?_) ?_
      · go_simp
        refine hK.out _ _ ?_ (fun hH => ?_)
        · exact hk0
        clear hK K
        try simp only [pt]
        refine tkH 12 ?_ ?_ ?_
        rotate_left
        · intro w h; try dsimp only at h
          obtain ⟨x0, x1, x2⟩ := h; go_simp; all_goals with_reducible rfl
        try simp only [pt]
        refine tkH 13 ?_ ?_ ?_
        rotate_left
        · intro w h; try dsimp only at h
          obtain ⟨x0, x1, x2⟩ := h; go_simp; all_goals with_reducible rfl
        try simp only [pt]
        refine wpAnyH_ready (rs := [1, 14]) (by kernel_rfl) (by simp) ?_
        refine rdH (fun K hK => ?_) ?_
        · go_simp
          have HW1 : Hid (Below w.heap.size w (w.drew.alloc (.cells #[] 39))) := Lib.hid (Below.step HW0.out (.cells #[] 39) (Below.refl _ _))
          have hk1 := HKS.out _ HW1.out
          have ck1 : (w.alloc (.cells #[] 39)).cell? ⟨b, 0, none⟩ = some (Value.slice (some ⟨g, off, none⟩) n c) := (HQ.out.next HW1.out).c0
          have HROW : Hid (RowP w.heap.size (w.drew.alloc (.cells #[] 39)) (.slice (some ⟨w.heap.size, 0, none⟩) 0 0) []) := Lib.hid (by
            have := (rowP_new w.drew).lower (show w.heap.size ≤ w.drew.heap.size from HW0.out.size)
            rw [show w.drew.heap.size = w.heap.size by simp] at this
            exact this)
          refine hK.out _ _ ?_ (fun hH => ?_)
          · exact hk1
          clear hK K
          try simp only [pt]
          refine wpAnyH_ready (rs := [6, 14]) (by kernel_rfl) (by simp) ?_
          refine rdH (fun K hK => ?_) ?_
          · obtain ⟨a1, c1', w6, hrun, hrw6, hgr6, _⟩ := run_appP (w.drew.alloc (.cells #[] 39)) 26 w.heap.size _ [] HROW.out (some ⟨g, off, none⟩) n c (ps) (psAt_below HX.out HW1.out) HC.out.1 HC.out.2 (by have := HNN.out; simp only [List.length_nil]; omega) HW1.out.size
            simp only [List.length_nil, Nat.zero_add, List.nil_append] at hrun hrw6
            have HW2 := Lib.hid (belP HROW.out HW1.out hgr6 HW1.out.size)
            have hk2 := HKS.out _ HW2.out
            have HROW1 := Lib.hid hrw6
            have ck2 : w6.cell? ⟨b, 0, none⟩ = some (Value.slice (some ⟨g, off, none⟩) n c) := (HQ.out.next HW2.out).c0
            clear hrw6 hgr6
            refine step_append_run (by rfl) (.tmp 16) (.tmp 20) 26 rfl _ _ _ rfl rfl hrun ?_
            refine hK.out _ _ ?_ (fun hH => ?_)
            · exact hk2
            clear hK K
            try simp only [pt]
            refine wpAnyH_ready (rs := [14]) (by kernel_rfl) (by simp) ?_
            refine rdH (fun K hK => ?_) ?_
            · go_simp
              have HW3 : Hid (Below w.heap.size w (w6.alloc (.cells #[.int .i64 pf, .int .i64 pt, .string pd] 39))) := Lib.hid (Below.step HW2.out (.cells #[.int .i64 pf, .int .i64 pt, .string pd] 39) (Below.refl _ _))
              have hk3 := HKS.out _ HW3.out
              have ck3 : (w6.alloc (.cells #[.int .i64 pf, .int .i64 pt, .string pd] 39)).cell? ⟨b, 0, none⟩ = some (Value.slice (some ⟨g, off, none⟩) n c) := (HQ.out.next HW3.out).c0
              have HONE : Hid (PsAt (w6.alloc (.cells #[.int .i64 pf, .int .i64 pt, .string pd] 39)) (some ⟨w6.heap.size, 0, none⟩) 1 [(pf, pt, pd)]) := Lib.hid (by
                have := psAt_one w6 pf pt pd
                exact this)
              have HROW1 := Lib.hid (HROW1.out.alloc (.cells #[.int .i64 pf, .int .i64 pt, .string pd] 39))
              refine hK.out _ _ ?_ (fun hH => ?_)
              · exact hk3
              clear hK K
              try simp only [pt]
              refine wpAnyH_ready (rs := [15]) (by kernel_rfl) (by simp) ?_
              refine rdH (fun K hK => ?_) ?_
              · obtain ⟨a2, c2, w8, hrun9, hrw8, hgr8, _⟩ := run_appP (w6.alloc (.cells #[.int .i64 pf, .int .i64 pt, .string pd] 39)) 26 w.heap.size _ (ps) HROW1.out (some ⟨w6.heap.size, 0, none⟩) 1 1 [(pf, pt, pd)] HONE.out (Nat.le_refl _) (fun e => by cases e) (by rw [HSZ.out]; have := HNN.out; omega) HW3.out.size
                rw [HSZ.out] at hrun9 hrw8
                have HW8 := Lib.hid (belP HROW1.out HW3.out hgr8 HW3.out.size)
                have hk8 := HKS.out _ HW8.out
                have HROW2 := Lib.hid hrw8
                have ck8 : w8.cell? ⟨b, 0, none⟩ = some (Value.slice (some ⟨g, off, none⟩) n c) := (HQ.out.next HW8.out).c0
                have fk8 := (HQ.out.next HW8.out).f0 0
                clear hrw8 hgr8
                refine step_append_run (by rfl) (.tmp 21) (.tmp 29) 26 rfl _ _ _ rfl rfl hrun9 ?_
                refine hK.out _ _ ?_ (fun hH => ?_)
                · exact hk8
                clear hK K
                try simp only [pt]
                refine tkH 16 ?_ ?_ ?_
                rotate_left
                · intro w h; try dsimp only at h
                  obtain ⟨x0, x1, x2⟩ := h; go_simp; all_goals with_reducible rfl
                try simp only [pt]
                refine tkH 17 ?_ ?_ ?_
                rotate_left
                · intro w h; try dsimp only at h
                  obtain ⟨x0, x1, x2⟩ := h; go_simp; all_goals with_reducible rfl
                try simp only [pt]
                refine wpAnyH_ready (rs := [18]) (by kernel_rfl) (by simp) ?_
                refine rdH (fun K hK => ?_) ?_
                · go_simp
                  refine hK.out _ _ ?_ (fun hH => ?_)
                  · exact (HKT.out _ _ HW8.out)
                  clear hK K
                  try simp only [pt]
                  refine wpAnyH_done (by kernel_rfl) ?_ _
                  have HFIN := Lib.hid (bd_put0 HQ.out HW8.out (HROW2.out.lower (Nat.le_refl _)))
                  clear hrun hrun9
                  go_wp2_with fail
                  go_meet
                  case rel => exact ⟨_, HFIN.out.1, HFIN.out.2⟩
                exact AllReadyH.nil
              exact AllReadyH.nil
            exact AllReadyH.nil
          refine rdH (fun K hK => ?_) ?_
          · go_simp
            have HW2 : Hid (Below w.heap.size w ((w.drew.alloc (.cells #[] 39)).alloc (.cells #[.int .i64 pf, .int .i64 pt, .string pd] 39))) := Lib.hid (Below.step HW1.out (.cells #[.int .i64 pf, .int .i64 pt, .string pd] 39) (Below.refl _ _))
            have hk2 := HKS.out _ HW2.out
            have ck2 : ((w.alloc (.cells #[] 39)).alloc (.cells #[.int .i64 pf, .int .i64 pt, .string pd] 39)).cell? ⟨b, 0, none⟩ = some (Value.slice (some ⟨g, off, none⟩) n c) := (HQ.out.next HW2.out).c0
            have HONE : Hid (PsAt ((w.drew.alloc (.cells #[] 39)).alloc (.cells #[.int .i64 pf, .int .i64 pt, .string pd] 39)) (some ⟨w.heap.size + 1, 0, none⟩) 1 [(pf, pt, pd)]) := Lib.hid (by
              have := psAt_one (w.drew.alloc (.cells #[] 39)) pf pt pd
              rw [show (w.drew.alloc (.cells #[] 39)).heap.size = w.heap.size + 1 by simp] at this
              exact this)
            have HROW := Lib.hid (HROW.out.alloc (.cells #[.int .i64 pf, .int .i64 pt, .string pd] 39))
            refine hK.out _ _ ?_ (fun hH => ?_)
            · exact hk2
            clear hK K
            try simp only [pt]
            refine wpAnyH_ready (rs := [6]) (by kernel_rfl) (by simp) ?_
            refine rdH (fun K hK => ?_) ?_
            · obtain ⟨a1, c1', w6, hrun, hrw6, hgr6, _⟩ := run_appP ((w.drew.alloc (.cells #[] 39)).alloc (.cells #[.int .i64 pf, .int .i64 pt, .string pd] 39)) 26 w.heap.size _ [] HROW.out (some ⟨g, off, none⟩) n c (ps) (psAt_below HX.out HW2.out) HC.out.1 HC.out.2 (by have := HNN.out; simp only [List.length_nil]; omega) HW2.out.size
              simp only [List.length_nil, Nat.zero_add, List.nil_append] at hrun hrw6
              have HW3 := Lib.hid (belP HROW.out HW2.out hgr6 HW2.out.size)
              have hk3 := HKS.out _ HW3.out
              have HROW1 := Lib.hid hrw6
              have ck3 : w6.cell? ⟨b, 0, none⟩ = some (Value.slice (some ⟨g, off, none⟩) n c) := (HQ.out.next HW3.out).c0
              have HONE := Lib.hid (psAt_keep HONE.out (fun g off e => hgr6.block g (by cases e; first | (simp; done) | (simp; omega)) (by cases e; simp [Value.ownBlock])) hgr6.size)
              clear hrw6 hgr6
              refine step_append_run (by rfl) (.tmp 16) (.tmp 20) 26 rfl _ _ _ rfl rfl hrun ?_
              refine hK.out _ _ ?_ (fun hH => ?_)
              · exact hk3
              clear hK K
              try simp only [pt]
              refine wpAnyH_ready (rs := [15]) (by kernel_rfl) (by simp) ?_
              refine rdH (fun K hK => ?_) ?_
              · obtain ⟨a2, c2, w8, hrun9, hrw8, hgr8, _⟩ := run_appP w6 26 w.heap.size _ (ps) HROW1.out (some ⟨w.heap.size + 1, 0, none⟩) 1 1 [(pf, pt, pd)] HONE.out (Nat.le_refl _) (fun e => by cases e) (by rw [HSZ.out]; have := HNN.out; omega) HW3.out.size
                rw [HSZ.out] at hrun9 hrw8
                have HW8 := Lib.hid (belP HROW1.out HW3.out hgr8 HW3.out.size)
                have hk8 := HKS.out _ HW8.out
                have HROW2 := Lib.hid hrw8
                have ck8 : w8.cell? ⟨b, 0, none⟩ = some (Value.slice (some ⟨g, off, none⟩) n c) := (HQ.out.next HW8.out).c0
                have fk8 := (HQ.out.next HW8.out).f0 0
                clear hrw8 hgr8
                refine step_append_run (by rfl) (.tmp 21) (.tmp 29) 26 rfl _ _ _ rfl rfl hrun9 ?_
                refine hK.out _ _ ?_ (fun hH => ?_)
                · exact hk8
                clear hK K
                try simp only [pt]
                refine tkH 16 ?_ ?_ ?_
                rotate_left
                · intro w h; try dsimp only at h
                  obtain ⟨x0, x1, x2⟩ := h; go_simp; all_goals with_reducible rfl
                try simp only [pt]
                refine tkH 17 ?_ ?_ ?_
                rotate_left
                · intro w h; try dsimp only at h
                  obtain ⟨x0, x1, x2⟩ := h; go_simp; all_goals with_reducible rfl
                try simp only [pt]
                refine wpAnyH_ready (rs := [18]) (by kernel_rfl) (by simp) ?_
                refine rdH (fun K hK => ?_) ?_
                · go_simp
                  refine hK.out _ _ ?_ (fun hH => ?_)
                  · exact (HKT.out _ _ HW8.out)
                  clear hK K
                  try simp only [pt]
                  refine wpAnyH_done (by kernel_rfl) ?_ _
                  have HFIN := Lib.hid (bd_put0 HQ.out HW8.out (HROW2.out.lower (Nat.le_refl _)))
                  clear hrun hrun9
                  go_wp2_with fail
                  go_meet
                  case rel => exact ⟨_, HFIN.out.1, HFIN.out.2⟩
                exact AllReadyH.nil
              exact AllReadyH.nil
            exact AllReadyH.nil
          exact AllReadyH.nil
        refine rdH (fun K hK => ?_) ?_
        · go_simp
          have HW1 : Hid (Below w.heap.size w (w.drew.alloc (.cells #[.int .i64 pf, .int .i64 pt, .string pd] 39))) := Lib.hid (Below.step HW0.out (.cells #[.int .i64 pf, .int .i64 pt, .string pd] 39) (Below.refl _ _))
          have hk1 := HKS.out _ HW1.out
          have ck1 : (w.alloc (.cells #[.int .i64 pf, .int .i64 pt, .string pd] 39)).cell? ⟨b, 0, none⟩ = some (Value.slice (some ⟨g, off, none⟩) n c) := (HQ.out.next HW1.out).c0
          have HONE : Hid (PsAt (w.drew.alloc (.cells #[.int .i64 pf, .int .i64 pt, .string pd] 39)) (some ⟨w.heap.size, 0, none⟩) 1 [(pf, pt, pd)]) := Lib.hid (by
            have := psAt_one w.drew pf pt pd
            rw [show w.drew.heap.size = w.heap.size by simp] at this
            exact this)
          refine hK.out _ _ ?_ (fun hH => ?_)
          · exact hk1
          clear hK K
          try simp only [pt]
          refine wpAnyH_ready (rs := [1]) (by kernel_rfl) (by simp) ?_
          refine rdH (fun K hK => ?_) ?_
          · go_simp
            have HW2 : Hid (Below w.heap.size w ((w.drew.alloc (.cells #[.int .i64 pf, .int .i64 pt, .string pd] 39)).alloc (.cells #[] 39))) := Lib.hid (Below.step HW1.out (.cells #[] 39) (Below.refl _ _))
            have hk2 := HKS.out _ HW2.out
            have ck2 : ((w.alloc (.cells #[.int .i64 pf, .int .i64 pt, .string pd] 39)).alloc (.cells #[] 39)).cell? ⟨b, 0, none⟩ = some (Value.slice (some ⟨g, off, none⟩) n c) := (HQ.out.next HW2.out).c0
            have HROW : Hid (RowP w.heap.size ((w.drew.alloc (.cells #[.int .i64 pf, .int .i64 pt, .string pd] 39)).alloc (.cells #[] 39)) (.slice (some ⟨w.heap.size + 1, 0, none⟩) 0 0) []) := Lib.hid (by
              have := (rowP_new (w.drew.alloc (.cells #[.int .i64 pf, .int .i64 pt, .string pd] 39))).lower (show w.heap.size ≤ (w.drew.alloc (.cells #[.int .i64 pf, .int .i64 pt, .string pd] 39)).heap.size from HW1.out.size)
              rw [show (w.drew.alloc (.cells #[.int .i64 pf, .int .i64 pt, .string pd] 39)).heap.size = w.heap.size + 1 by simp] at this
              exact this)
            have HONE := Lib.hid (psAt_below (w' := ((w.drew.alloc (.cells #[.int .i64 pf, .int .i64 pt, .string pd] 39)).alloc (.cells #[] 39))) HONE.out (Joins.below_alloc1 _ _))
            refine hK.out _ _ ?_ (fun hH => ?_)
            · exact hk2
            clear hK K
            try simp only [pt]
            refine wpAnyH_ready (rs := [6]) (by kernel_rfl) (by simp) ?_
            refine rdH (fun K hK => ?_) ?_
            · obtain ⟨a1, c1', w6, hrun, hrw6, hgr6, _⟩ := run_appP ((w.drew.alloc (.cells #[.int .i64 pf, .int .i64 pt, .string pd] 39)).alloc (.cells #[] 39)) 26 w.heap.size _ [] HROW.out (some ⟨g, off, none⟩) n c (ps) (psAt_below HX.out HW2.out) HC.out.1 HC.out.2 (by have := HNN.out; simp only [List.length_nil]; omega) HW2.out.size
              simp only [List.length_nil, Nat.zero_add, List.nil_append] at hrun hrw6
              have HW3 := Lib.hid (belP HROW.out HW2.out hgr6 HW2.out.size)
              have hk3 := HKS.out _ HW3.out
              have HROW1 := Lib.hid hrw6
              have ck3 : w6.cell? ⟨b, 0, none⟩ = some (Value.slice (some ⟨g, off, none⟩) n c) := (HQ.out.next HW3.out).c0
              have HONE := Lib.hid (psAt_keep HONE.out (fun g off e => hgr6.block g (by cases e; first | (simp; done) | (simp; omega)) (by cases e; simp [Value.ownBlock])) hgr6.size)
              clear hrw6 hgr6
              refine step_append_run (by rfl) (.tmp 16) (.tmp 20) 26 rfl _ _ _ rfl rfl hrun ?_
              refine hK.out _ _ ?_ (fun hH => ?_)
              · exact hk3
              clear hK K
              try simp only [pt]
              refine wpAnyH_ready (rs := [15]) (by kernel_rfl) (by simp) ?_
              refine rdH (fun K hK => ?_) ?_
              · obtain ⟨a2, c2, w8, hrun9, hrw8, hgr8, _⟩ := run_appP w6 26 w.heap.size _ (ps) HROW1.out (some ⟨w.heap.size, 0, none⟩) 1 1 [(pf, pt, pd)] HONE.out (Nat.le_refl _) (fun e => by cases e) (by rw [HSZ.out]; have := HNN.out; omega) HW3.out.size
                rw [HSZ.out] at hrun9 hrw8
                have HW8 := Lib.hid (belP HROW1.out HW3.out hgr8 HW3.out.size)
                have hk8 := HKS.out _ HW8.out
                have HROW2 := Lib.hid hrw8
                have ck8 : w8.cell? ⟨b, 0, none⟩ = some (Value.slice (some ⟨g, off, none⟩) n c) := (HQ.out.next HW8.out).c0
                have fk8 := (HQ.out.next HW8.out).f0 0
                clear hrw8 hgr8
                refine step_append_run (by rfl) (.tmp 21) (.tmp 29) 26 rfl _ _ _ rfl rfl hrun9 ?_
                refine hK.out _ _ ?_ (fun hH => ?_)
                · exact hk8
                clear hK K
                try simp only [pt]
                refine tkH 16 ?_ ?_ ?_
                rotate_left
                · intro w h; try dsimp only at h
                  obtain ⟨x0, x1, x2⟩ := h; go_simp; all_goals with_reducible rfl
                try simp only [pt]
                refine tkH 17 ?_ ?_ ?_
                rotate_left
                · intro w h; try dsimp only at h
                  obtain ⟨x0, x1, x2⟩ := h; go_simp; all_goals with_reducible rfl
                try simp only [pt]
                refine wpAnyH_ready (rs := [18]) (by kernel_rfl) (by simp) ?_
                refine rdH (fun K hK => ?_) ?_
                · go_simp
                  refine hK.out _ _ ?_ (fun hH => ?_)
                  · exact (HKT.out _ _ HW8.out)
                  clear hK K
                  try simp only [pt]
                  refine wpAnyH_done (by kernel_rfl) ?_ _
                  have HFIN := Lib.hid (bd_put0 HQ.out HW8.out (HROW2.out.lower (Nat.le_refl _)))
                  clear hrun hrun9
                  go_wp2_with fail
                  go_meet
                  case rel => exact ⟨_, HFIN.out.1, HFIN.out.2⟩
                exact AllReadyH.nil
              exact AllReadyH.nil
            exact AllReadyH.nil
          exact AllReadyH.nil
        exact AllReadyH.nil
      exact AllReadyH.nil
    refine rdH (fun K hK => ?_) ?_
    · go_simp
      refine hK.out _ _ ?_ (fun hH => ?_)
      · exact hk0
      clear hK K
      try simp only [pt]
      refine tkH 12 ?_ ?_ ?_
      rotate_left
      · intro w h; try dsimp only at h
        obtain ⟨x0, x1, x2⟩ := h; go_simp; all_goals with_reducible rfl
      try simp only [pt]
      refine tkH 13 ?_ ?_ ?_
      rotate_left
      · intro w h; try dsimp only at h
        obtain ⟨x0, x1, x2⟩ := h; go_simp; all_goals with_reducible rfl
      try simp only [pt]
      refine wpAnyH_ready (rs := [1, 5, 14]) (by kernel_rfl) (by simp) ?_
      refine rdH (fun K hK => ?_) ?_
      · go_simp
        have HW1 : Hid (Below w.heap.size w (w.drew.alloc (.cells #[] 39))) := Lib.hid (Below.step HW0.out (.cells #[] 39) (Below.refl _ _))
        have hk1 := HKS.out _ HW1.out
        have ck1 : (w.alloc (.cells #[] 39)).cell? ⟨b, 0, none⟩ = some (Value.slice (some ⟨g, off, none⟩) n c) := (HQ.out.next HW1.out).c0
        have HROW : Hid (RowP w.heap.size (w.drew.alloc (.cells #[] 39)) (.slice (some ⟨w.heap.size, 0, none⟩) 0 0) []) := Lib.hid (by
          have := (rowP_new w.drew).lower (show w.heap.size ≤ w.drew.heap.size from HW0.out.size)
          rw [show w.drew.heap.size = w.heap.size by simp] at this
          exact this)
        refine hK.out _ _ ?_ (fun hH => ?_)
        · exact hk1
        clear hK K
        try simp only [pt]
        refine wpAnyH_ready (rs := [5, 14]) (by kernel_rfl) (by simp) ?_
        refine rdH (fun K hK => ?_) ?_
        · go_simp
          refine hK.out _ _ ?_ (fun hH => ?_)
          · exact hk1
          clear hK K
          try simp only [pt]
          refine wpAnyH_ready (rs := [6, 14]) (by kernel_rfl) (by simp) ?_
          refine rdH (fun K hK => ?_) ?_
          · obtain ⟨a1, c1', w6, hrun, hrw6, hgr6, _⟩ := run_appP (w.drew.alloc (.cells #[] 39)) 26 w.heap.size _ [] HROW.out (some ⟨g, off, none⟩) n c (ps) (psAt_below HX.out HW1.out) HC.out.1 HC.out.2 (by have := HNN.out; simp only [List.length_nil]; omega) HW1.out.size
            simp only [List.length_nil, Nat.zero_add, List.nil_append] at hrun hrw6
            have HW2 := Lib.hid (belP HROW.out HW1.out hgr6 HW1.out.size)
            have hk2 := HKS.out _ HW2.out
            have HROW1 := Lib.hid hrw6
            have ck2 : w6.cell? ⟨b, 0, none⟩ = some (Value.slice (some ⟨g, off, none⟩) n c) := (HQ.out.next HW2.out).c0
            clear hrw6 hgr6
            refine step_append_run (by rfl) (.tmp 16) (.tmp 20) 26 rfl _ _ _ rfl rfl hrun ?_
            refine hK.out _ _ ?_ (fun hH => ?_)
            · exact hk2
            clear hK K
            try simp only [pt]
            refine wpAnyH_ready (rs := [14]) (by kernel_rfl) (by simp) ?_
            refine rdH (fun K hK => ?_) ?_
            · go_simp
              have HW3 : Hid (Below w.heap.size w (w6.alloc (.cells #[.int .i64 pf, .int .i64 pt, .string pd] 39))) := Lib.hid (Below.step HW2.out (.cells #[.int .i64 pf, .int .i64 pt, .string pd] 39) (Below.refl _ _))
              have hk3 := HKS.out _ HW3.out
              have ck3 : (w6.alloc (.cells #[.int .i64 pf, .int .i64 pt, .string pd] 39)).cell? ⟨b, 0, none⟩ = some (Value.slice (some ⟨g, off, none⟩) n c) := (HQ.out.next HW3.out).c0
              have HONE : Hid (PsAt (w6.alloc (.cells #[.int .i64 pf, .int .i64 pt, .string pd] 39)) (some ⟨w6.heap.size, 0, none⟩) 1 [(pf, pt, pd)]) := Lib.hid (by
                have := psAt_one w6 pf pt pd
                exact this)
              have HROW1 := Lib.hid (HROW1.out.alloc (.cells #[.int .i64 pf, .int .i64 pt, .string pd] 39))
              refine hK.out _ _ ?_ (fun hH => ?_)
              · exact hk3
              clear hK K
              try simp only [pt]
              refine wpAnyH_ready (rs := [15]) (by kernel_rfl) (by simp) ?_
              refine rdH (fun K hK => ?_) ?_
              · obtain ⟨a2, c2, w8, hrun9, hrw8, hgr8, _⟩ := run_appP (w6.alloc (.cells #[.int .i64 pf, .int .i64 pt, .string pd] 39)) 26 w.heap.size _ (ps) HROW1.out (some ⟨w6.heap.size, 0, none⟩) 1 1 [(pf, pt, pd)] HONE.out (Nat.le_refl _) (fun e => by cases e) (by rw [HSZ.out]; have := HNN.out; omega) HW3.out.size
                rw [HSZ.out] at hrun9 hrw8
                have HW8 := Lib.hid (belP HROW1.out HW3.out hgr8 HW3.out.size)
                have hk8 := HKS.out _ HW8.out
                have HROW2 := Lib.hid hrw8
                have ck8 : w8.cell? ⟨b, 0, none⟩ = some (Value.slice (some ⟨g, off, none⟩) n c) := (HQ.out.next HW8.out).c0
                have fk8 := (HQ.out.next HW8.out).f0 0
                clear hrw8 hgr8
                refine step_append_run (by rfl) (.tmp 21) (.tmp 29) 26 rfl _ _ _ rfl rfl hrun9 ?_
                refine hK.out _ _ ?_ (fun hH => ?_)
                · exact hk8
                clear hK K
                try simp only [pt]
                refine tkH 16 ?_ ?_ ?_
                rotate_left
                · intro w h; try dsimp only at h
                  obtain ⟨x0, x1, x2⟩ := h; go_simp; all_goals with_reducible rfl
                try simp only [pt]
                refine tkH 17 ?_ ?_ ?_
                rotate_left
                · intro w h; try dsimp only at h
                  obtain ⟨x0, x1, x2⟩ := h; go_simp; all_goals with_reducible rfl
                try simp only [pt]
                refine wpAnyH_ready (rs := [18]) (by kernel_rfl) (by simp) ?_
                refine rdH (fun K hK => ?_) ?_
                · go_simp
                  refine hK.out _ _ ?_ (fun hH => ?_)
                  · exact (HKT.out _ _ HW8.out)
                  clear hK K
                  try simp only [pt]
                  refine wpAnyH_done (by kernel_rfl) ?_ _
                  have HFIN := Lib.hid (bd_put0 HQ.out HW8.out (HROW2.out.lower (Nat.le_refl _)))
                  clear hrun hrun9
                  go_wp2_with fail
                  go_meet
                  case rel => exact ⟨_, HFIN.out.1, HFIN.out.2⟩
                exact AllReadyH.nil
              exact AllReadyH.nil
            exact AllReadyH.nil
          refine rdH (fun K hK => ?_) ?_
          · go_simp
            have HW2 : Hid (Below w.heap.size w ((w.drew.alloc (.cells #[] 39)).alloc (.cells #[.int .i64 pf, .int .i64 pt, .string pd] 39))) := Lib.hid (Below.step HW1.out (.cells #[.int .i64 pf, .int .i64 pt, .string pd] 39) (Below.refl _ _))
            have hk2 := HKS.out _ HW2.out
            have ck2 : ((w.alloc (.cells #[] 39)).alloc (.cells #[.int .i64 pf, .int .i64 pt, .string pd] 39)).cell? ⟨b, 0, none⟩ = some (Value.slice (some ⟨g, off, none⟩) n c) := (HQ.out.next HW2.out).c0
            have HONE : Hid (PsAt ((w.drew.alloc (.cells #[] 39)).alloc (.cells #[.int .i64 pf, .int .i64 pt, .string pd] 39)) (some ⟨w.heap.size + 1, 0, none⟩) 1 [(pf, pt, pd)]) := Lib.hid (by
              have := psAt_one (w.drew.alloc (.cells #[] 39)) pf pt pd
              rw [show (w.drew.alloc (.cells #[] 39)).heap.size = w.heap.size + 1 by simp] at this
              exact this)
            have HROW := Lib.hid (HROW.out.alloc (.cells #[.int .i64 pf, .int .i64 pt, .string pd] 39))
            refine hK.out _ _ ?_ (fun hH => ?_)
            · exact hk2
            clear hK K
            try simp only [pt]
            refine wpAnyH_ready (rs := [6]) (by kernel_rfl) (by simp) ?_
            refine rdH (fun K hK => ?_) ?_
            · obtain ⟨a1, c1', w6, hrun, hrw6, hgr6, _⟩ := run_appP ((w.drew.alloc (.cells #[] 39)).alloc (.cells #[.int .i64 pf, .int .i64 pt, .string pd] 39)) 26 w.heap.size _ [] HROW.out (some ⟨g, off, none⟩) n c (ps) (psAt_below HX.out HW2.out) HC.out.1 HC.out.2 (by have := HNN.out; simp only [List.length_nil]; omega) HW2.out.size
              simp only [List.length_nil, Nat.zero_add, List.nil_append] at hrun hrw6
              have HW3 := Lib.hid (belP HROW.out HW2.out hgr6 HW2.out.size)
              have hk3 := HKS.out _ HW3.out
              have HROW1 := Lib.hid hrw6
              have ck3 : w6.cell? ⟨b, 0, none⟩ = some (Value.slice (some ⟨g, off, none⟩) n c) := (HQ.out.next HW3.out).c0
              have HONE := Lib.hid (psAt_keep HONE.out (fun g off e => hgr6.block g (by cases e; first | (simp; done) | (simp; omega)) (by cases e; simp [Value.ownBlock])) hgr6.size)
              clear hrw6 hgr6
              refine step_append_run (by rfl) (.tmp 16) (.tmp 20) 26 rfl _ _ _ rfl rfl hrun ?_
              refine hK.out _ _ ?_ (fun hH => ?_)
              · exact hk3
              clear hK K
              try simp only [pt]
              refine wpAnyH_ready (rs := [15]) (by kernel_rfl) (by simp) ?_
              refine rdH (fun K hK => ?_) ?_
              · obtain ⟨a2, c2, w8, hrun9, hrw8, hgr8, _⟩ := run_appP w6 26 w.heap.size _ (ps) HROW1.out (some ⟨w.heap.size + 1, 0, none⟩) 1 1 [(pf, pt, pd)] HONE.out (Nat.le_refl _) (fun e => by cases e) (by rw [HSZ.out]; have := HNN.out; omega) HW3.out.size
                rw [HSZ.out] at hrun9 hrw8
                have HW8 := Lib.hid (belP HROW1.out HW3.out hgr8 HW3.out.size)
                have hk8 := HKS.out _ HW8.out
                have HROW2 := Lib.hid hrw8
                have ck8 : w8.cell? ⟨b, 0, none⟩ = some (Value.slice (some ⟨g, off, none⟩) n c) := (HQ.out.next HW8.out).c0
                have fk8 := (HQ.out.next HW8.out).f0 0
                clear hrw8 hgr8
                refine step_append_run (by rfl) (.tmp 21) (.tmp 29) 26 rfl _ _ _ rfl rfl hrun9 ?_
                refine hK.out _ _ ?_ (fun hH => ?_)
                · exact hk8
                clear hK K
                try simp only [pt]
                refine tkH 16 ?_ ?_ ?_
                rotate_left
                · intro w h; try dsimp only at h
                  obtain ⟨x0, x1, x2⟩ := h; go_simp; all_goals with_reducible rfl
                try simp only [pt]
                refine tkH 17 ?_ ?_ ?_
                rotate_left
                · intro w h; try dsimp only at h
                  obtain ⟨x0, x1, x2⟩ := h; go_simp; all_goals with_reducible rfl
                try simp only [pt]
                refine wpAnyH_ready (rs := [18]) (by kernel_rfl) (by simp) ?_
                refine rdH (fun K hK => ?_) ?_
                · go_simp
                  refine hK.out _ _ ?_ (fun hH => ?_)
                  · exact (HKT.out _ _ HW8.out)
                  clear hK K
                  try simp only [pt]
                  refine wpAnyH_done (by kernel_rfl) ?_ _
                  have HFIN := Lib.hid (bd_put0 HQ.out HW8.out (HROW2.out.lower (Nat.le_refl _)))
                  clear hrun hrun9
                  go_wp2_with fail
                  go_meet
                  case rel => exact ⟨_, HFIN.out.1, HFIN.out.2⟩
                exact AllReadyH.nil
              exact AllReadyH.nil
            exact AllReadyH.nil
          exact AllReadyH.nil
        refine rdH (fun K hK => ?_) ?_
        · go_simp
          have HW2 : Hid (Below w.heap.size w ((w.drew.alloc (.cells #[] 39)).alloc (.cells #[.int .i64 pf, .int .i64 pt, .string pd] 39))) := Lib.hid (Below.step HW1.out (.cells #[.int .i64 pf, .int .i64 pt, .string pd] 39) (Below.refl _ _))
          have hk2 := HKS.out _ HW2.out
          have ck2 : ((w.alloc (.cells #[] 39)).alloc (.cells #[.int .i64 pf, .int .i64 pt, .string pd] 39)).cell? ⟨b, 0, none⟩ = some (Value.slice (some ⟨g, off, none⟩) n c) := (HQ.out.next HW2.out).c0
          have HONE : Hid (PsAt ((w.drew.alloc (.cells #[] 39)).alloc (.cells #[.int .i64 pf, .int .i64 pt, .string pd] 39)) (some ⟨w.heap.size + 1, 0, none⟩) 1 [(pf, pt, pd)]) := Lib.hid (by
            have := psAt_one (w.drew.alloc (.cells #[] 39)) pf pt pd
            rw [show (w.drew.alloc (.cells #[] 39)).heap.size = w.heap.size + 1 by simp] at this
            exact this)
          have HROW := Lib.hid (HROW.out.alloc (.cells #[.int .i64 pf, .int .i64 pt, .string pd] 39))
          refine hK.out _ _ ?_ (fun hH => ?_)
          · exact hk2
          clear hK K
          try simp only [pt]
          refine wpAnyH_ready (rs := [5]) (by kernel_rfl) (by simp) ?_
          refine rdH (fun K hK => ?_) ?_
          · go_simp
            refine hK.out _ _ ?_ (fun hH => ?_)
            · exact hk2
            clear hK K
            try simp only [pt]
            refine wpAnyH_ready (rs := [6]) (by kernel_rfl) (by simp) ?_
            refine rdH (fun K hK => ?_) ?_
            · obtain ⟨a1, c1', w6, hrun, hrw6, hgr6, _⟩ := run_appP ((w.drew.alloc (.cells #[] 39)).alloc (.cells #[.int .i64 pf, .int .i64 pt, .string pd] 39)) 26 w.heap.size _ [] HROW.out (some ⟨g, off, none⟩) n c (ps) (psAt_below HX.out HW2.out) HC.out.1 HC.out.2 (by have := HNN.out; simp only [List.length_nil]; omega) HW2.out.size
              simp only [List.length_nil, Nat.zero_add, List.nil_append] at hrun hrw6
              have HW3 := Lib.hid (belP HROW.out HW2.out hgr6 HW2.out.size)
              have hk3 := HKS.out _ HW3.out
              have HROW1 := Lib.hid hrw6
              have ck3 : w6.cell? ⟨b, 0, none⟩ = some (Value.slice (some ⟨g, off, none⟩) n c) := (HQ.out.next HW3.out).c0
              have HONE := Lib.hid (psAt_keep HONE.out (fun g off e => hgr6.block g (by cases e; first | (simp; done) | (simp; omega)) (by cases e; simp [Value.ownBlock])) hgr6.size)
              clear hrw6 hgr6
              refine step_append_run (by rfl) (.tmp 16) (.tmp 20) 26 rfl _ _ _ rfl rfl hrun ?_
              refine hK.out _ _ ?_ (fun hH => ?_)
              · exact hk3
              clear hK K
              try simp only [pt]
              refine wpAnyH_ready (rs := [15]) (by kernel_rfl) (by simp) ?_
              refine rdH (fun K hK => ?_) ?_
              · obtain ⟨a2, c2, w8, hrun9, hrw8, hgr8, _⟩ := run_appP w6 26 w.heap.size _ (ps) HROW1.out (some ⟨w.heap.size + 1, 0, none⟩) 1 1 [(pf, pt, pd)] HONE.out (Nat.le_refl _) (fun e => by cases e) (by rw [HSZ.out]; have := HNN.out; omega) HW3.out.size
                rw [HSZ.out] at hrun9 hrw8
                have HW8 := Lib.hid (belP HROW1.out HW3.out hgr8 HW3.out.size)
                have hk8 := HKS.out _ HW8.out
                have HROW2 := Lib.hid hrw8
                have ck8 : w8.cell? ⟨b, 0, none⟩ = some (Value.slice (some ⟨g, off, none⟩) n c) := (HQ.out.next HW8.out).c0
                have fk8 := (HQ.out.next HW8.out).f0 0
                clear hrw8 hgr8
                refine step_append_run (by rfl) (.tmp 21) (.tmp 29) 26 rfl _ _ _ rfl rfl hrun9 ?_
                refine hK.out _ _ ?_ (fun hH => ?_)
                · exact hk8
                clear hK K
                try simp only [pt]
                refine tkH 16 ?_ ?_ ?_
                rotate_left
                · intro w h; try dsimp only at h
                  obtain ⟨x0, x1, x2⟩ := h; go_simp; all_goals with_reducible rfl
                try simp only [pt]
                refine tkH 17 ?_ ?_ ?_
                rotate_left
                · intro w h; try dsimp only at h
                  obtain ⟨x0, x1, x2⟩ := h; go_simp; all_goals with_reducible rfl
                try simp only [pt]
                refine wpAnyH_ready (rs := [18]) (by kernel_rfl) (by simp) ?_
                refine rdH (fun K hK => ?_) ?_
                · go_simp
                  refine hK.out _ _ ?_ (fun hH => ?_)
                  · exact (HKT.out _ _ HW8.out)
                  clear hK K
                  try simp only [pt]
                  refine wpAnyH_done (by kernel_rfl) ?_ _
                  have HFIN := Lib.hid (bd_put0 HQ.out HW8.out (HROW2.out.lower (Nat.le_refl _)))
                  clear hrun hrun9
                  go_wp2_with fail
                  go_meet
                  case rel => exact ⟨_, HFIN.out.1, HFIN.out.2⟩
                exact AllReadyH.nil
              exact AllReadyH.nil
            exact AllReadyH.nil
          exact AllReadyH.nil
        exact AllReadyH.nil
      refine rdH (fun K hK => ?_) ?_
      · go_simp
        refine hK.out _ _ ?_ (fun hH => ?_)
        · exact hk0
        clear hK K
        try simp only [pt]
        refine wpAnyH_ready (rs := [1, 14]) (by kernel_rfl) (by simp) ?_
        refine rdH (fun K hK => ?_) ?_
        · go_simp
          have HW1 : Hid (Below w.heap.size w (w.drew.alloc (.cells #[] 39))) := Lib.hid (Below.step HW0.out (.cells #[] 39) (Below.refl _ _))
          have hk1 := HKS.out _ HW1.out
          have ck1 : (w.alloc (.cells #[] 39)).cell? ⟨b, 0, none⟩ = some (Value.slice (some ⟨g, off, none⟩) n c) := (HQ.out.next HW1.out).c0
          have HROW : Hid (RowP w.heap.size (w.drew.alloc (.cells #[] 39)) (.slice (some ⟨w.heap.size, 0, none⟩) 0 0) []) := Lib.hid (by
            have := (rowP_new w.drew).lower (show w.heap.size ≤ w.drew.heap.size from HW0.out.size)
            rw [show w.drew.heap.size = w.heap.size by simp] at this
            exact this)
          refine hK.out _ _ ?_ (fun hH => ?_)
          · exact hk1
          clear hK K
          try simp only [pt]
          refine wpAnyH_ready (rs := [6, 14]) (by kernel_rfl) (by simp) ?_
          refine rdH (fun K hK => ?_) ?_
          · obtain ⟨a1, c1', w6, hrun, hrw6, hgr6, _⟩ := run_appP (w.drew.alloc (.cells #[] 39)) 26 w.heap.size _ [] HROW.out (some ⟨g, off, none⟩) n c (ps) (psAt_below HX.out HW1.out) HC.out.1 HC.out.2 (by have := HNN.out; simp only [List.length_nil]; omega) HW1.out.size
            simp only [List.length_nil, Nat.zero_add, List.nil_append] at hrun hrw6
            have HW2 := Lib.hid (belP HROW.out HW1.out hgr6 HW1.out.size)
            have hk2 := HKS.out _ HW2.out
            have HROW1 := Lib.hid hrw6
            have ck2 : w6.cell? ⟨b, 0, none⟩ = some (Value.slice (some ⟨g, off, none⟩) n c) := (HQ.out.next HW2.out).c0
            clear hrw6 hgr6
            refine step_append_run (by rfl) (.tmp 16) (.tmp 20) 26 rfl _ _ _ rfl rfl hrun ?_
            refine hK.out _ _ ?_ (fun hH => ?_)
            · exact hk2
            clear hK K
            try simp only [pt]
            refine wpAnyH_ready (rs := [14]) (by kernel_rfl) (by simp) ?_
            refine rdH (fun K hK => ?_) ?_
            · go_simp
              have HW3 : Hid (Below w.heap.size w (w6.alloc (.cells #[.int .i64 pf, .int .i64 pt, .string pd] 39))) := Lib.hid (Below.step HW2.out (.cells #[.int .i64 pf, .int .i64 pt, .string pd] 39) (Below.refl _ _))
              have hk3 := HKS.out _ HW3.out
              have ck3 : (w6.alloc (.cells #[.int .i64 pf, .int .i64 pt, .string pd] 39)).cell? ⟨b, 0, none⟩ = some (Value.slice (some ⟨g, off, none⟩) n c) := (HQ.out.next HW3.out).c0
              have HONE : Hid (PsAt (w6.alloc (.cells #[.int .i64 pf, .int .i64 pt, .string pd] 39)) (some ⟨w6.heap.size, 0, none⟩) 1 [(pf, pt, pd)]) := Lib.hid (by
                have := psAt_one w6 pf pt pd
                exact this)
              have HROW1 := Lib.hid (HROW1.out.alloc (.cells #[.int .i64 pf, .int .i64 pt, .string pd] 39))
              refine hK.out _ _ ?_ (fun hH => ?_)
              · exact hk3
              clear hK K
              try simp only [pt]
              refine wpAnyH_ready (rs := [15]) (by kernel_rfl) (by simp) ?_
              refine rdH (fun K hK => ?_) ?_
              · obtain ⟨a2, c2, w8, hrun9, hrw8, hgr8, _⟩ := run_appP (w6.alloc (.cells #[.int .i64 pf, .int .i64 pt, .string pd] 39)) 26 w.heap.size _ (ps) HROW1.out (some ⟨w6.heap.size, 0, none⟩) 1 1 [(pf, pt, pd)] HONE.out (Nat.le_refl _) (fun e => by cases e) (by rw [HSZ.out]; have := HNN.out; omega) HW3.out.size
                rw [HSZ.out] at hrun9 hrw8
                have HW8 := Lib.hid (belP HROW1.out HW3.out hgr8 HW3.out.size)
                have hk8 := HKS.out _ HW8.out
                have HROW2 := Lib.hid hrw8
                have ck8 : w8.cell? ⟨b, 0, none⟩ = some (Value.slice (some ⟨g, off, none⟩) n c) := (HQ.out.next HW8.out).c0
                have fk8 := (HQ.out.next HW8.out).f0 0
                clear hrw8 hgr8
                refine step_append_run (by rfl) (.tmp 21) (.tmp 29) 26 rfl _ _ _ rfl rfl hrun9 ?_
                refine hK.out _ _ ?_ (fun hH => ?_)
                · exact hk8
                clear hK K
                try simp only [pt]
                refine tkH 16 ?_ ?_ ?_
                rotate_left
                · intro w h; try dsimp only at h
                  obtain ⟨x0, x1, x2⟩ := h; go_simp; all_goals with_reducible rfl
                try simp only [pt]
                refine tkH 17 ?_ ?_ ?_
                rotate_left
                · intro w h; try dsimp only at h
                  obtain ⟨x0, x1, x2⟩ := h; go_simp; all_goals with_reducible rfl
                try simp only [pt]
                refine wpAnyH_ready (rs := [18]) (by kernel_rfl) (by simp) ?_
                refine rdH (fun K hK => ?_) ?_
                · go_simp
                  refine hK.out _ _ ?_ (fun hH => ?_)
                  · exact (HKT.out _ _ HW8.out)
                  clear hK K
                  try simp only [pt]
                  refine wpAnyH_done (by kernel_rfl) ?_ _
                  have HFIN := Lib.hid (bd_put0 HQ.out HW8.out (HROW2.out.lower (Nat.le_refl _)))
                  clear hrun hrun9
                  go_wp2_with fail
                  go_meet
                  case rel => exact ⟨_, HFIN.out.1, HFIN.out.2⟩
                exact AllReadyH.nil
              exact AllReadyH.nil
            exact AllReadyH.nil
          refine rdH (fun K hK => ?_) ?_
          · go_simp
            have HW2 : Hid (Below w.heap.size w ((w.drew.alloc (.cells #[] 39)).alloc (.cells #[.int .i64 pf, .int .i64 pt, .string pd] 39))) := Lib.hid (Below.step HW1.out (.cells #[.int .i64 pf, .int .i64 pt, .string pd] 39) (Below.refl _ _))
            have hk2 := HKS.out _ HW2.out
            have ck2 : ((w.alloc (.cells #[] 39)).alloc (.cells #[.int .i64 pf, .int .i64 pt, .string pd] 39)).cell? ⟨b, 0, none⟩ = some (Value.slice (some ⟨g, off, none⟩) n c) := (HQ.out.next HW2.out).c0
            have HONE : Hid (PsAt ((w.drew.alloc (.cells #[] 39)).alloc (.cells #[.int .i64 pf, .int .i64 pt, .string pd] 39)) (some ⟨w.heap.size + 1, 0, none⟩) 1 [(pf, pt, pd)]) := Lib.hid (by
              have := psAt_one (w.drew.alloc (.cells #[] 39)) pf pt pd
              rw [show (w.drew.alloc (.cells #[] 39)).heap.size = w.heap.size + 1 by simp] at this
              exact this)
            have HROW := Lib.hid (HROW.out.alloc (.cells #[.int .i64 pf, .int .i64 pt, .string pd] 39))
            refine hK.out _ _ ?_ (fun hH => ?_)
            · exact hk2
            clear hK K
            try simp only [pt]
            refine wpAnyH_ready (rs := [6]) (by kernel_rfl) (by simp) ?_
            refine rdH (fun K hK => ?_) ?_
            · obtain ⟨a1, c1', w6, hrun, hrw6, hgr6, _⟩ := run_appP ((w.drew.alloc (.cells #[] 39)).alloc (.cells #[.int .i64 pf, .int .i64 pt, .string pd] 39)) 26 w.heap.size _ [] HROW.out (some ⟨g, off, none⟩) n c (ps) (psAt_below HX.out HW2.out) HC.out.1 HC.out.2 (by have := HNN.out; simp only [List.length_nil]; omega) HW2.out.size
              simp only [List.length_nil, Nat.zero_add, List.nil_append] at hrun hrw6
              have HW3 := Lib.hid (belP HROW.out HW2.out hgr6 HW2.out.size)
              have hk3 := HKS.out _ HW3.out
              have HROW1 := Lib.hid hrw6
              have ck3 : w6.cell? ⟨b, 0, none⟩ = some (Value.slice (some ⟨g, off, none⟩) n c) := (HQ.out.next HW3.out).c0
              have HONE := Lib.hid (psAt_keep HONE.out (fun g off e => hgr6.block g (by cases e; first | (simp; done) | (simp; omega)) (by cases e; simp [Value.ownBlock])) hgr6.size)
              clear hrw6 hgr6
              refine step_append_run (by rfl) (.tmp 16) (.tmp 20) 26 rfl _ _ _ rfl rfl hrun ?_
              refine hK.out _ _ ?_ (fun hH => ?_)
              · exact hk3
              clear hK K
              try simp only [pt]
              refine wpAnyH_ready (rs := [15]) (by kernel_rfl) (by simp) ?_
              refine rdH (fun K hK => ?_) ?_
              · obtain ⟨a2, c2, w8, hrun9, hrw8, hgr8, _⟩ := run_appP w6 26 w.heap.size _ (ps) HROW1.out (some ⟨w.heap.size + 1, 0, none⟩) 1 1 [(pf, pt, pd)] HONE.out (Nat.le_refl _) (fun e => by cases e) (by rw [HSZ.out]; have := HNN.out; omega) HW3.out.size
                rw [HSZ.out] at hrun9 hrw8
                have HW8 := Lib.hid (belP HROW1.out HW3.out hgr8 HW3.out.size)
                have hk8 := HKS.out _ HW8.out
                have HROW2 := Lib.hid hrw8
                have ck8 : w8.cell? ⟨b, 0, none⟩ = some (Value.slice (some ⟨g, off, none⟩) n c) := (HQ.out.next HW8.out).c0
                have fk8 := (HQ.out.next HW8.out).f0 0
                clear hrw8 hgr8
                refine step_append_run (by rfl) (.tmp 21) (.tmp 29) 26 rfl _ _ _ rfl rfl hrun9 ?_
                refine hK.out _ _ ?_ (fun hH => ?_)
                · exact hk8
                clear hK K
                try simp only [pt]
                refine tkH 16 ?_ ?_ ?_
                rotate_left
                · intro w h; try dsimp only at h
                  obtain ⟨x0, x1, x2⟩ := h; go_simp; all_goals with_reducible rfl
                try simp only [pt]
                refine tkH 17 ?_ ?_ ?_
                rotate_left
                · intro w h; try dsimp only at h
                  obtain ⟨x0, x1, x2⟩ := h; go_simp; all_goals with_reducible rfl
                try simp only [pt]
                refine wpAnyH_ready (rs := [18]) (by kernel_rfl) (by simp) ?_
                refine rdH (fun K hK => ?_) ?_
                · go_simp
                  refine hK.out _ _ ?_ (fun hH => ?_)
                  · exact (HKT.out _ _ HW8.out)
                  clear hK K
                  try simp only [pt]
                  refine wpAnyH_done (by kernel_rfl) ?_ _
                  have HFIN := Lib.hid (bd_put0 HQ.out HW8.out (HROW2.out.lower (Nat.le_refl _)))
                  clear hrun hrun9
                  go_wp2_with fail
                  go_meet
                  case rel => exact ⟨_, HFIN.out.1, HFIN.out.2⟩
                exact AllReadyH.nil
              exact AllReadyH.nil
            exact AllReadyH.nil
          exact AllReadyH.nil
        refine rdH (fun K hK => ?_) ?_
        · go_simp
          have HW1 : Hid (Below w.heap.size w (w.drew.alloc (.cells #[.int .i64 pf, .int .i64 pt, .string pd] 39))) := Lib.hid (Below.step HW0.out (.cells #[.int .i64 pf, .int .i64 pt, .string pd] 39) (Below.refl _ _))
          have hk1 := HKS.out _ HW1.out
          have ck1 : (w.alloc (.cells #[.int .i64 pf, .int .i64 pt, .string pd] 39)).cell? ⟨b, 0, none⟩ = some (Value.slice (some ⟨g, off, none⟩) n c) := (HQ.out.next HW1.out).c0
          have HONE : Hid (PsAt (w.drew.alloc (.cells #[.int .i64 pf, .int .i64 pt, .string pd] 39)) (some ⟨w.heap.size, 0, none⟩) 1 [(pf, pt, pd)]) := Lib.hid (by
            have := psAt_one w.drew pf pt pd
            rw [show w.drew.heap.size = w.heap.size by simp] at this
            exact this)
          refine hK.out _ _ ?_ (fun hH => ?_)
          · exact hk1
          clear hK K
          try simp only [pt]
          refine wpAnyH_ready (rs := [1]) (by kernel_rfl) (by simp) ?_
          refine rdH (fun K hK => ?_) ?_
          · go_simp
            have HW2 : Hid (Below w.heap.size w ((w.drew.alloc (.cells #[.int .i64 pf, .int .i64 pt, .string pd] 39)).alloc (.cells #[] 39))) := Lib.hid (Below.step HW1.out (.cells #[] 39) (Below.refl _ _))
            have hk2 := HKS.out _ HW2.out
            have ck2 : ((w.alloc (.cells #[.int .i64 pf, .int .i64 pt, .string pd] 39)).alloc (.cells #[] 39)).cell? ⟨b, 0, none⟩ = some (Value.slice (some ⟨g, off, none⟩) n c) := (HQ.out.next HW2.out).c0
            have HROW : Hid (RowP w.heap.size ((w.drew.alloc (.cells #[.int .i64 pf, .int .i64 pt, .string pd] 39)).alloc (.cells #[] 39)) (.slice (some ⟨w.heap.size + 1, 0, none⟩) 0 0) []) := Lib.hid (by
              have := (rowP_new (w.drew.alloc (.cells #[.int .i64 pf, .int .i64 pt, .string pd] 39))).lower (show w.heap.size ≤ (w.drew.alloc (.cells #[.int .i64 pf, .int .i64 pt, .string pd] 39)).heap.size from HW1.out.size)
              rw [show (w.drew.alloc (.cells #[.int .i64 pf, .int .i64 pt, .string pd] 39)).heap.size = w.heap.size + 1 by simp] at this
              exact this)
            have HONE := Lib.hid (psAt_below (w' := ((w.drew.alloc (.cells #[.int .i64 pf, .int .i64 pt, .string pd] 39)).alloc (.cells #[] 39))) HONE.out (Joins.below_alloc1 _ _))
            refine hK.out _ _ ?_ (fun hH => ?_)
            · exact hk2
            clear hK K
            try simp only [pt]
            refine wpAnyH_ready (rs := [6]) (by kernel_rfl) (by simp) ?_
            refine rdH (fun K hK => ?_) ?_
            · obtain ⟨a1, c1', w6, hrun, hrw6, hgr6, _⟩ := run_appP ((w.drew.alloc (.cells #[.int .i64 pf, .int .i64 pt, .string pd] 39)).alloc (.cells #[] 39)) 26 w.heap.size _ [] HROW.out (some ⟨g, off, none⟩) n c (ps) (psAt_below HX.out HW2.out) HC.out.1 HC.out.2 (by have := HNN.out; simp only [List.length_nil]; omega) HW2.out.size
              simp only [List.length_nil, Nat.zero_add, List.nil_append] at hrun hrw6
              have HW3 := Lib.hid (belP HROW.out HW2.out hgr6 HW2.out.size)
              have hk3 := HKS.out _ HW3.out
              have HROW1 := Lib.hid hrw6
              have ck3 : w6.cell? ⟨b, 0, none⟩ = some (Value.slice (some ⟨g, off, none⟩) n c) := (HQ.out.next HW3.out).c0
              have HONE := Lib.hid (psAt_keep HONE.out (fun g off e => hgr6.block g (by cases e; first | (simp; done) | (simp; omega)) (by cases e; simp [Value.ownBlock])) hgr6.size)
              clear hrw6 hgr6
              refine step_append_run (by rfl) (.tmp 16) (.tmp 20) 26 rfl _ _ _ rfl rfl hrun ?_
              refine hK.out _ _ ?_ (fun hH => ?_)
              · exact hk3
              clear hK K
              try simp only [pt]
              refine wpAnyH_ready (rs := [15]) (by kernel_rfl) (by simp) ?_
              refine rdH (fun K hK => ?_) ?_
              · obtain ⟨a2, c2, w8, hrun9, hrw8, hgr8, _⟩ := run_appP w6 26 w.heap.size _ (ps) HROW1.out (some ⟨w.heap.size, 0, none⟩) 1 1 [(pf, pt, pd)] HONE.out (Nat.le_refl _) (fun e => by cases e) (by rw [HSZ.out]; have := HNN.out; omega) HW3.out.size
                rw [HSZ.out] at hrun9 hrw8
                have HW8 := Lib.hid (belP HROW1.out HW3.out hgr8 HW3.out.size)
                have hk8 := HKS.out _ HW8.out
                have HROW2 := Lib.hid hrw8
                have ck8 : w8.cell? ⟨b, 0, none⟩ = some (Value.slice (some ⟨g, off, none⟩) n c) := (HQ.out.next HW8.out).c0
                have fk8 := (HQ.out.next HW8.out).f0 0
                clear hrw8 hgr8
                refine step_append_run (by rfl) (.tmp 21) (.tmp 29) 26 rfl _ _ _ rfl rfl hrun9 ?_
                refine hK.out _ _ ?_ (fun hH => ?_)
                · exact hk8
                clear hK K
                try simp only [pt]
                refine tkH 16 ?_ ?_ ?_
                rotate_left
                · intro w h; try dsimp only at h
                  obtain ⟨x0, x1, x2⟩ := h; go_simp; all_goals with_reducible rfl
                try simp only [pt]
                refine tkH 17 ?_ ?_ ?_
                rotate_left
                · intro w h; try dsimp only at h
                  obtain ⟨x0, x1, x2⟩ := h; go_simp; all_goals with_reducible rfl
                try simp only [pt]
                refine wpAnyH_ready (rs := [18]) (by kernel_rfl) (by simp) ?_
                refine rdH (fun K hK => ?_) ?_
                · go_simp
                  refine hK.out _ _ ?_ (fun hH => ?_)
                  · exact (HKT.out _ _ HW8.out)
                  clear hK K
                  try simp only [pt]
                  refine wpAnyH_done (by kernel_rfl) ?_ _
                  have HFIN := Lib.hid (bd_put0 HQ.out HW8.out (HROW2.out.lower (Nat.le_refl _)))
                  clear hrun hrun9
                  go_wp2_with fail
                  go_meet
                  case rel => exact ⟨_, HFIN.out.1, HFIN.out.2⟩
                exact AllReadyH.nil
              exact AllReadyH.nil
            exact AllReadyH.nil
          exact AllReadyH.nil
        exact AllReadyH.nil
      refine rdH (fun K hK => ?_) ?_
      · go_simp
        have HW1 : Hid (Below w.heap.size w (w.drew.alloc (.cells #[.int .i64 pf, .int .i64 pt, .string pd] 39))) := Lib.hid (Below.step HW0.out (.cells #[.int .i64 pf, .int .i64 pt, .string pd] 39) (Below.refl _ _))
        have hk1 := HKS.out _ HW1.out
        have ck1 : (w.alloc (.cells #[.int .i64 pf, .int .i64 pt, .string pd] 39)).cell? ⟨b, 0, none⟩ = some (Value.slice (some ⟨g, off, none⟩) n c) := (HQ.out.next HW1.out).c0
        have HONE : Hid (PsAt (w.drew.alloc (.cells #[.int .i64 pf, .int .i64 pt, .string pd] 39)) (some ⟨w.heap.size, 0, none⟩) 1 [(pf, pt, pd)]) := Lib.hid (by
          have := psAt_one w.drew pf pt pd
          rw [show w.drew.heap.size = w.heap.size by simp] at this
          exact this)
        refine hK.out _ _ ?_ (fun hH => ?_)
        · exact hk1
        clear hK K
        try simp only [pt]
        refine wpAnyH_ready (rs := [1, 5]) (by kernel_rfl) (by simp) ?_
        refine rdH (fun K hK => ?_) ?_
        · go_simp
          have HW2 : Hid (Below w.heap.size w ((w.drew.alloc (.cells #[.int .i64 pf, .int .i64 pt, .string pd] 39)).alloc (.cells #[] 39))) := Lib.hid (Below.step HW1.out (.cells #[] 39) (Below.refl _ _))
          have hk2 := HKS.out _ HW2.out
          have ck2 : ((w.alloc (.cells #[.int .i64 pf, .int .i64 pt, .string pd] 39)).alloc (.cells #[] 39)).cell? ⟨b, 0, none⟩ = some (Value.slice (some ⟨g, off, none⟩) n c) := (HQ.out.next HW2.out).c0
          have HROW : Hid (RowP w.heap.size ((w.drew.alloc (.cells #[.int .i64 pf, .int .i64 pt, .string pd] 39)).alloc (.cells #[] 39)) (.slice (some ⟨w.heap.size + 1, 0, none⟩) 0 0) []) := Lib.hid (by
            have := (rowP_new (w.drew.alloc (.cells #[.int .i64 pf, .int .i64 pt, .string pd] 39))).lower (show w.heap.size ≤ (w.drew.alloc (.cells #[.int .i64 pf, .int .i64 pt, .string pd] 39)).heap.size from HW1.out.size)
            rw [show (w.drew.alloc (.cells #[.int .i64 pf, .int .i64 pt, .string pd] 39)).heap.size = w.heap.size + 1 by simp] at this
            exact this)
          have HONE := Lib.hid (psAt_below (w' := ((w.drew.alloc (.cells #[.int .i64 pf, .int .i64 pt, .string pd] 39)).alloc (.cells #[] 39))) HONE.out (Joins.below_alloc1 _ _))
          refine hK.out _ _ ?_ (fun hH => ?_)
          · exact hk2
          clear hK K
          try simp only [pt]
          refine wpAnyH_ready (rs := [5]) (by kernel_rfl) (by simp) ?_
          refine rdH (fun K hK => ?_) ?_
          · go_simp
            refine hK.out _ _ ?_ (fun hH => ?_)
            · exact hk2
            clear hK K
            try simp only [pt]
            refine wpAnyH_ready (rs := [6]) (by kernel_rfl) (by simp) ?_
            refine rdH (fun K hK => ?_) ?_
            · obtain ⟨a1, c1', w6, hrun, hrw6, hgr6, _⟩ := run_appP ((w.drew.alloc (.cells #[.int .i64 pf, .int .i64 pt, .string pd] 39)).alloc (.cells #[] 39)) 26 w.heap.size _ [] HROW.out (some ⟨g, off, none⟩) n c (ps) (psAt_below HX.out HW2.out) HC.out.1 HC.out.2 (by have := HNN.out; simp only [List.length_nil]; omega) HW2.out.size
              simp only [List.length_nil, Nat.zero_add, List.nil_append] at hrun hrw6
              have HW3 := Lib.hid (belP HROW.out HW2.out hgr6 HW2.out.size)
              have hk3 := HKS.out _ HW3.out
              have HROW1 := Lib.hid hrw6
              have ck3 : w6.cell? ⟨b, 0, none⟩ = some (Value.slice (some ⟨g, off, none⟩) n c) := (HQ.out.next HW3.out).c0
              have HONE := Lib.hid (psAt_keep HONE.out (fun g off e => hgr6.block g (by cases e; first | (simp; done) | (simp; omega)) (by cases e; simp [Value.ownBlock])) hgr6.size)
              clear hrw6 hgr6
              refine step_append_run (by rfl) (.tmp 16) (.tmp 20) 26 rfl _ _ _ rfl rfl hrun ?_
              refine hK.out _ _ ?_ (fun hH => ?_)
              · exact hk3
              clear hK K
              try simp only [pt]
              refine wpAnyH_ready (rs := [15]) (by kernel_rfl) (by simp) ?_
              refine rdH (fun K hK => ?_) ?_
              · obtain ⟨a2, c2, w8, hrun9, hrw8, hgr8, _⟩ := run_appP w6 26 w.heap.size _ (ps) HROW1.out (some ⟨w.heap.size, 0, none⟩) 1 1 [(pf, pt, pd)] HONE.out (Nat.le_refl _) (fun e => by cases e) (by rw [HSZ.out]; have := HNN.out; omega) HW3.out.size
                rw [HSZ.out] at hrun9 hrw8
                have HW8 := Lib.hid (belP HROW1.out HW3.out hgr8 HW3.out.size)
                have hk8 := HKS.out _ HW8.out
                have HROW2 := Lib.hid hrw8
                have ck8 : w8.cell? ⟨b, 0, none⟩ = some (Value.slice (some ⟨g, off, none⟩) n c) := (HQ.out.next HW8.out).c0
                have fk8 := (HQ.out.next HW8.out).f0 0
                clear hrw8 hgr8
                refine step_append_run (by rfl) (.tmp 21) (.tmp 29) 26 rfl _ _ _ rfl rfl hrun9 ?_
                refine hK.out _ _ ?_ (fun hH => ?_)
                · exact hk8
                clear hK K
                try simp only [pt]
                refine tkH 16 ?_ ?_ ?_
                rotate_left
                · intro w h; try dsimp only at h
                  obtain ⟨x0, x1, x2⟩ := h; go_simp; all_goals with_reducible rfl
                try simp only [pt]
                refine tkH 17 ?_ ?_ ?_
                rotate_left
                · intro w h; try dsimp only at h
                  obtain ⟨x0, x1, x2⟩ := h; go_simp; all_goals with_reducible rfl
                try simp only [pt]
                refine wpAnyH_ready (rs := [18]) (by kernel_rfl) (by simp) ?_
                refine rdH (fun K hK => ?_) ?_
                · go_simp
                  refine hK.out _ _ ?_ (fun hH => ?_)
                  · exact (HKT.out _ _ HW8.out)
                  clear hK K
                  try simp only [pt]
                  refine wpAnyH_done (by kernel_rfl) ?_ _
                  have HFIN := Lib.hid (bd_put0 HQ.out HW8.out (HROW2.out.lower (Nat.le_refl _)))
                  clear hrun hrun9
                  go_wp2_with fail
                  go_meet
                  case rel => exact ⟨_, HFIN.out.1, HFIN.out.2⟩
                exact AllReadyH.nil
              exact AllReadyH.nil
            exact AllReadyH.nil
          exact AllReadyH.nil
        refine rdH (fun K hK => ?_) ?_
        · go_simp
          refine hK.out _ _ ?_ (fun hH => ?_)
          · exact hk1
          clear hK K
          try simp only [pt]
          refine wpAnyH_ready (rs := [1]) (by kernel_rfl) (by simp) ?_
          refine rdH (fun K hK => ?_) ?_
          · go_simp
            have HW2 : Hid (Below w.heap.size w ((w.drew.alloc (.cells #[.int .i64 pf, .int .i64 pt, .string pd] 39)).alloc (.cells #[] 39))) := Lib.hid (Below.step HW1.out (.cells #[] 39) (Below.refl _ _))
            have hk2 := HKS.out _ HW2.out
            have ck2 : ((w.alloc (.cells #[.int .i64 pf, .int .i64 pt, .string pd] 39)).alloc (.cells #[] 39)).cell? ⟨b, 0, none⟩ = some (Value.slice (some ⟨g, off, none⟩) n c) := (HQ.out.next HW2.out).c0
            have HROW : Hid (RowP w.heap.size ((w.drew.alloc (.cells #[.int .i64 pf, .int .i64 pt, .string pd] 39)).alloc (.cells #[] 39)) (.slice (some ⟨w.heap.size + 1, 0, none⟩) 0 0) []) := Lib.hid (by
              have := (rowP_new (w.drew.alloc (.cells #[.int .i64 pf, .int .i64 pt, .string pd] 39))).lower (show w.heap.size ≤ (w.drew.alloc (.cells #[.int .i64 pf, .int .i64 pt, .string pd] 39)).heap.size from HW1.out.size)
              rw [show (w.drew.alloc (.cells #[.int .i64 pf, .int .i64 pt, .string pd] 39)).heap.size = w.heap.size + 1 by simp] at this
              exact this)
            have HONE := Lib.hid (psAt_below (w' := ((w.drew.alloc (.cells #[.int .i64 pf, .int .i64 pt, .string pd] 39)).alloc (.cells #[] 39))) HONE.out (Joins.below_alloc1 _ _))
            refine hK.out _ _ ?_ (fun hH => ?_)
            · exact hk2
            clear hK K
            try simp only [pt]
            refine wpAnyH_ready (rs := [6]) (by kernel_rfl) (by simp) ?_
            refine rdH (fun K hK => ?_) ?_
            · obtain ⟨a1, c1', w6, hrun, hrw6, hgr6, _⟩ := run_appP ((w.drew.alloc (.cells #[.int .i64 pf, .int .i64 pt, .string pd] 39)).alloc (.cells #[] 39)) 26 w.heap.size _ [] HROW.out (some ⟨g, off, none⟩) n c (ps) (psAt_below HX.out HW2.out) HC.out.1 HC.out.2 (by have := HNN.out; simp only [List.length_nil]; omega) HW2.out.size
              simp only [List.length_nil, Nat.zero_add, List.nil_append] at hrun hrw6
              have HW3 := Lib.hid (belP HROW.out HW2.out hgr6 HW2.out.size)
              have hk3 := HKS.out _ HW3.out
              have HROW1 := Lib.hid hrw6
              have ck3 : w6.cell? ⟨b, 0, none⟩ = some (Value.slice (some ⟨g, off, none⟩) n c) := (HQ.out.next HW3.out).c0
              have HONE := Lib.hid (psAt_keep HONE.out (fun g off e => hgr6.block g (by cases e; first | (simp; done) | (simp; omega)) (by cases e; simp [Value.ownBlock])) hgr6.size)
              clear hrw6 hgr6
              refine step_append_run (by rfl) (.tmp 16) (.tmp 20) 26 rfl _ _ _ rfl rfl hrun ?_
              refine hK.out _ _ ?_ (fun hH => ?_)
              · exact hk3
              clear hK K
              try simp only [pt]
              refine wpAnyH_ready (rs := [15]) (by kernel_rfl) (by simp) ?_
              refine rdH (fun K hK => ?_) ?_
              · obtain ⟨a2, c2, w8, hrun9, hrw8, hgr8, _⟩ := run_appP w6 26 w.heap.size _ (ps) HROW1.out (some ⟨w.heap.size, 0, none⟩) 1 1 [(pf, pt, pd)] HONE.out (Nat.le_refl _) (fun e => by cases e) (by rw [HSZ.out]; have := HNN.out; omega) HW3.out.size
                rw [HSZ.out] at hrun9 hrw8
                have HW8 := Lib.hid (belP HROW1.out HW3.out hgr8 HW3.out.size)
                have hk8 := HKS.out _ HW8.out
                have HROW2 := Lib.hid hrw8
                have ck8 : w8.cell? ⟨b, 0, none⟩ = some (Value.slice (some ⟨g, off, none⟩) n c) := (HQ.out.next HW8.out).c0
                have fk8 := (HQ.out.next HW8.out).f0 0
                clear hrw8 hgr8
                refine step_append_run (by rfl) (.tmp 21) (.tmp 29) 26 rfl _ _ _ rfl rfl hrun9 ?_
                refine hK.out _ _ ?_ (fun hH => ?_)
                · exact hk8
                clear hK K
                try simp only [pt]
                refine tkH 16 ?_ ?_ ?_
                rotate_left
                · intro w h; try dsimp only at h
                  obtain ⟨x0, x1, x2⟩ := h; go_simp; all_goals with_reducible rfl
                try simp only [pt]
                refine tkH 17 ?_ ?_ ?_
                rotate_left
                · intro w h; try dsimp only at h
                  obtain ⟨x0, x1, x2⟩ := h; go_simp; all_goals with_reducible rfl
                try simp only [pt]
                refine wpAnyH_ready (rs := [18]) (by kernel_rfl) (by simp) ?_
                refine rdH (fun K hK => ?_) ?_
                · go_simp
                  refine hK.out _ _ ?_ (fun hH => ?_)
                  · exact (HKT.out _ _ HW8.out)
                  clear hK K
                  try simp only [pt]
                  refine wpAnyH_done (by kernel_rfl) ?_ _
                  have HFIN := Lib.hid (bd_put0 HQ.out HW8.out (HROW2.out.lower (Nat.le_refl _)))
                  clear hrun hrun9
                  go_wp2_with fail
                  go_meet
                  case rel => exact ⟨_, HFIN.out.1, HFIN.out.2⟩
                exact AllReadyH.nil
              exact AllReadyH.nil
            exact AllReadyH.nil
          exact AllReadyH.nil
        exact AllReadyH.nil
      exact AllReadyH.nil
    exact AllReadyH.nil
  case rest =>
    obtain ⟨v2, hq, hg⟩ := hcut
    clear hk0 ck0 HKS HKT HX HC HW0 HQ HGB HGL x0 x1 x2 HSZ HQ0
    obtain ⟨a2, c', rfl, hx, hcx⟩ := hq.mks.is
    rw [HMS.out] at hq hx hcx
    obtain ⟨g2, rfl⟩ := hq.mks.spot (by omega)
    obtain ⟨off2, hoff⟩ : ∃ off : Nat, 0 = off := ⟨_, rfl⟩
    obtain ⟨g', off', e', hgl, hf4⟩ := hx.lies (by omega)
    obtain ⟨rfl, rfl⟩ : g2 = g' ∧ 0 = off' := by cases e'; exact ⟨rfl, rfl⟩
    have hfk := hf4 k HK.out
    rw [HMK.out, hoff] at hfk
    have x0 := hfk.m
    simp only [Nat.mul_one] at x0
    have hgb : g2 ≠ b := fun e => by
      obtain ⟨cur, hc⟩ := hq.mks.typ g2 rfl
      exact two_types hc hq.blk (by decide) e
    rw [hoff] at hq hx
    have HX := Lib.hid hx
    have HC : Hid (n ≤ c' ∧ ((some ⟨g2, off2, none⟩ : Option Addr) = none → c' = 0)) := Lib.hid ⟨hcx.1, fun e => by cases e⟩
    have HQ := Lib.hid hq
    have HSZ := HMS
    have HGB := Lib.hid hgb
    have HGL := Lib.hid hgl
    have HG1 := Lib.hid hg
    clear hq hg hx hcx hfk hf4 hgb hgl e' hoff
    have HKS : Hid (∀ W, Below wc.heap.size wc W → W.cell? ⟨g2, off2 + k, none⟩ = some (.bool mk)) := Lib.hid fun W hW => (hW.cell HGL.out).trans x0
    have HKT : Hid (∀ W z, Below wc.heap.size wc W → (W.setCell ⟨b, 1, none⟩ z).cell? ⟨g2, off2 + k, none⟩ = some (.bool mk)) := Lib.hid fun W z hW => by
      have hc : ∀ j, (W.setCell ⟨b, 1, none⟩ z).cell? ⟨g2, j, none⟩ = W.cell? ⟨g2, j, none⟩ := fun j => by
        unfold World.cell?
        rw [Below.heap_setCell _ _ _ _ HGB.out]
      rw [hc]
      exact HKS.out W hW
    have HW0 : Hid (Below wc.heap.size wc wc.drew) := Lib.hid (Below.refl wc.heap.size wc).drew
    have hk0 := HKS.out _ HW0.out
    have ck0 := HQ.out.c1
    go_upto_region 6 with fail
    go_cut [] from 33 to 50 (fun wx => ∃ u2, Bd B wx b v2 u2 (ps ++ [(pf, pt, pd)]) (ms ++ [mk]) ∧ wc.grownBy wx (some b))
    case first =>
      go_wp2_with fail
      refine wp_region_held_drew (S := fun w' => w'.cell? ⟨g2, off2 + k, none⟩ = some (.bool mk)) (by kernel_rfl) ?_ (fun hH => ?_)
      · exact hk0
      refine tkH 0 ?_ ?_ ?_
      rotate_left
      · intro w hSw
        try dsimp only at hSw
        go_simp
        all_goals with_reducible rfl
      try simp only [pt]
      refine tkH 2 ?_ ?_ ?_
      rotate_left
      · intro w hSw
        try dsimp only at hSw
        go_simp
        all_goals with_reducible rfl
      try simp only [pt]
      refine tkH 3 ?_ ?_ ?_
      rotate_left
      · intro w hSw
        try dsimp only at hSw
        go_simp
        all_goals with_reducible rfl
      try simp only [pt]
      refine tkH 4 ?_ ?_ ?_
      rotate_left
      · intro w hSw
        try dsimp only at hSw
        go_simp
        all_goals with_reducible rfl
      try simp only [pt]
      refine tkH 7 ?_ ?_ ?_
      rotate_left
      · intro w hSw
        try dsimp only at hSw
        go_simp
        all_goals with_reducible rfl
      try simp only [pt]
      refine tkH 8 ?_ ?_ ?_
      rotate_left
      · intro w hSw
        try dsimp only at hSw
        go_simp
        all_goals with_reducible rfl
      try simp only [pt]
      refine tkH 9 ?_ ?_ ?_
      rotate_left
      · intro w hSw
        try dsimp only at hSw
        go_simp
        all_goals with_reducible rfl
      try simp only [pt]
      refine tkH 11 ?_ ?_ ?_
      rotate_left
      · intro w hSw
        try dsimp only at hSw
        go_simp
        all_goals with_reducible rfl
      try simp only [pt]
      refine wpAnyH_ready (rs := [1, 5, 10]) (by kernel_rfl) (by simp) ?_
      refine rdH (fun K hK => ?_) ?_
      · go_simp
        have HW1 : Hid (Below wc.heap.size wc (wc.drew.alloc (.cells #[] 4))) := Lib.hid (Below.step HW0.out (.cells #[] 4) (Below.refl _ _))
        have hk1 := HKS.out _ HW1.out
        have ck1 : (wc.alloc (.cells #[] 4)).cell? ⟨b, 1, none⟩ = some (Value.slice (some ⟨g2, off2, none⟩) n c') := (HQ.out.next HW1.out).c1
        have HROW : Hid (RowB wc.heap.size (wc.drew.alloc (.cells #[] 4)) (.slice (some ⟨wc.heap.size, 0, none⟩) 0 0) []) := Lib.hid (by
          have := (rowB_new wc.drew).lower (show wc.heap.size ≤ wc.drew.heap.size from HW0.out.size)
          rw [show wc.drew.heap.size = wc.heap.size by simp] at this
          exact this)
        refine hK.out _ _ ?_ (fun hH => ?_)
        · exact hk1
        clear hK K
        try simp only [pt]
        refine wpAnyH_ready (rs := [5, 10]) (by kernel_rfl) (by simp) ?_
        refine rdH (fun K hK => ?_) ?_
        · go_simp
          refine hK.out _ _ ?_ (fun hH => ?_)
          · exact hk1
          clear hK K
          try simp only [pt]
          refine wpAnyH_ready (rs := [6, 10]) (by kernel_rfl) (by simp) ?_
          refine rdH (fun K hK => ?_) ?_
          · obtain ⟨a1, c1', w6, hrun, hrw6, hgr6, _⟩ := run_appB (wc.drew.alloc (.cells #[] 4)) 27 wc.heap.size _ [] HROW.out (some ⟨g2, off2, none⟩) n c' (ms) (bsAt_below HX.out HW1.out) HC.out.1 HC.out.2 (by have := HNN.out; simp only [List.length_nil]; omega) HW1.out.size
            simp only [List.length_nil, Nat.zero_add, List.nil_append] at hrun hrw6
            have HW2 := Lib.hid (belB HROW.out HW1.out hgr6 HW1.out.size)
            have hk2 := HKS.out _ HW2.out
            have HROW1 := Lib.hid hrw6
            have ck2 : w6.cell? ⟨b, 1, none⟩ = some (Value.slice (some ⟨g2, off2, none⟩) n c') := (HQ.out.next HW2.out).c1
            clear hrw6 hgr6
            refine step_append_run (by rfl) (.tmp 34) (.tmp 38) 27 rfl _ _ _ rfl rfl hrun ?_
            refine hK.out _ _ ?_ (fun hH => ?_)
            · exact hk2
            clear hK K
            try simp only [pt]
            refine wpAnyH_ready (rs := [10]) (by kernel_rfl) (by simp) ?_
            refine rdH (fun K hK => ?_) ?_
            · go_simp
              refine hK.out _ _ ?_ (fun hH => ?_)
              · exact hk2
              clear hK K
              try simp only [pt]
              refine tkH 12 ?_ ?_ ?_
              rotate_left
              · intro w hSw
                try dsimp only at hSw
                go_simp
                all_goals with_reducible rfl
              try simp only [pt]
              refine tkH 13 ?_ ?_ ?_
              rotate_left
              · intro w hSw
                try dsimp only at hSw
                go_simp
                all_goals with_reducible rfl
              try simp only [pt]
              refine wpAnyH_ready (rs := [14]) (by kernel_rfl) (by simp) ?_
              refine rdH (fun K hK => ?_) ?_
              · go_simp
                have HW3 : Hid (Below wc.heap.size wc (w6.alloc (.cells #[.bool mk] 4))) := Lib.hid (Below.step HW2.out (.cells #[.bool mk] 4) (Below.refl _ _))
                have hk3 := HKS.out _ HW3.out
                have ck3 : (w6.alloc (.cells #[.bool mk] 4)).cell? ⟨b, 1, none⟩ = some (Value.slice (some ⟨g2, off2, none⟩) n c') := (HQ.out.next HW3.out).c1
                have HONE : Hid (BsAt (w6.alloc (.cells #[.bool mk] 4)) (some ⟨w6.heap.size, 0, none⟩) 1 [mk]) := Lib.hid (by
                  have := bsAt_one w6 mk
                  exact this)
                have HROW1 := Lib.hid (HROW1.out.alloc (.cells #[.bool mk] 4))
                refine hK.out _ _ ?_ (fun hH => ?_)
                · exact hk3
                clear hK K
                try simp only [pt]
                refine wpAnyH_ready (rs := [15]) (by kernel_rfl) (by simp) ?_
                refine rdH (fun K hK => ?_) ?_
                · obtain ⟨a2, c2, w8, hrun9, hrw8, hgr8, _⟩ := run_appB (w6.alloc (.cells #[.bool mk] 4)) 27 wc.heap.size _ (ms) HROW1.out (some ⟨w6.heap.size, 0, none⟩) 1 1 [mk] HONE.out (Nat.le_refl _) (fun e => by cases e) (by rw [HSZ.out]; have := HNN.out; omega) HW3.out.size
                  rw [HSZ.out] at hrun9 hrw8
                  have HW8 := Lib.hid (belB HROW1.out HW3.out hgr8 HW3.out.size)
                  have hk8 := HKS.out _ HW8.out
                  have HROW2 := Lib.hid hrw8
                  have ck8 : w8.cell? ⟨b, 1, none⟩ = some (Value.slice (some ⟨g2, off2, none⟩) n c') := (HQ.out.next HW8.out).c1
                  have fk8 := (HQ.out.next HW8.out).f0 1
                  clear hrw8 hgr8
                  refine step_append_run (by rfl) (.tmp 39) (.tmp 47) 27 rfl _ _ _ rfl rfl hrun9 ?_
                  refine hK.out _ _ ?_ (fun hH => ?_)
                  · exact hk8
                  clear hK K
                  try simp only [pt]
                  refine tkH 16 ?_ ?_ ?_
                  rotate_left
                  · intro w hSw
                    try dsimp only at hSw
                    go_simp
                    all_goals with_reducible rfl
                  try simp only [pt]
                  refine tkH 17 ?_ ?_ ?_
                  rotate_left
                  · intro w hSw
                    try dsimp only at hSw
                    go_simp
                    all_goals with_reducible rfl
                  try simp only [pt]
                  refine wpAnyH_ready (rs := [18]) (by kernel_rfl) (by simp) ?_
                  refine rdH (fun K hK => ?_) ?_
                  · go_simp
                    refine hK.out _ _ ?_ (fun hH => ?_)
                    · exact (HKT.out _ _ HW8.out)
                    clear hK K
                    try simp only [pt]
                    refine wpAnyH_done (by kernel_rfl) ?_ _
                    have HFIN := Lib.hid (bd_put1 HQ.out HW8.out (HROW2.out.lower (Nat.le_refl _)))
                    clear hrun hrun9
                    go_wp2_with fail
                    go_meet
                    case rel => exact ⟨_, HFIN.out.1, HFIN.out.2⟩
                  exact AllReadyH.nil
                exact AllReadyH.nil
              exact AllReadyH.nil
            exact AllReadyH.nil
          refine rdH (fun K hK => ?_) ?_
          · go_simp
            refine hK.out _ _ ?_ (fun hH => ?_)
            · exact hk1
            clear hK K
            try simp only [pt]
            refine tkH 12 ?_ ?_ ?_
            rotate_left
            · intro w hSw
              try dsimp only at hSw
              go_simp
              all_goals with_reducible rfl
            try simp only [pt]
            refine tkH 13 ?_ ?_ ?_
            rotate_left
            · intro w hSw
              try dsimp only at hSw
              go_simp
              all_goals with_reducible rfl
            try simp only [pt]
            refine wpAnyH_ready (rs := [6, 14]) (by kernel_rfl) (by simp) ?_
            refine rdH (fun K hK => ?_) ?_
            · obtain ⟨a1, c1', w6, hrun, hrw6, hgr6, _⟩ := run_appB (wc.drew.alloc (.cells #[] 4)) 27 wc.heap.size _ [] HROW.out (some ⟨g2, off2, none⟩) n c' (ms) (bsAt_below HX.out HW1.out) HC.out.1 HC.out.2 (by have := HNN.out; simp only [List.length_nil]; omega) HW1.out.size
              simp only [List.length_nil, Nat.zero_add, List.nil_append] at hrun hrw6
              have HW2 := Lib.hid (belB HROW.out HW1.out hgr6 HW1.out.size)
              have hk2 := HKS.out _ HW2.out
              have HROW1 := Lib.hid hrw6
              have ck2 : w6.cell? ⟨b, 1, none⟩ = some (Value.slice (some ⟨g2, off2, none⟩) n c') := (HQ.out.next HW2.out).c1
              clear hrw6 hgr6
              refine step_append_run (by rfl) (.tmp 34) (.tmp 38) 27 rfl _ _ _ rfl rfl hrun ?_
              refine hK.out _ _ ?_ (fun hH => ?_)
              · exact hk2
              clear hK K
              try simp only [pt]
              refine wpAnyH_ready (rs := [14]) (by kernel_rfl) (by simp) ?_
              refine rdH (fun K hK => ?_) ?_
              · go_simp
                have HW3 : Hid (Below wc.heap.size wc (w6.alloc (.cells #[.bool mk] 4))) := Lib.hid (Below.step HW2.out (.cells #[.bool mk] 4) (Below.refl _ _))
                have hk3 := HKS.out _ HW3.out
                have ck3 : (w6.alloc (.cells #[.bool mk] 4)).cell? ⟨b, 1, none⟩ = some (Value.slice (some ⟨g2, off2, none⟩) n c') := (HQ.out.next HW3.out).c1
                have HONE : Hid (BsAt (w6.alloc (.cells #[.bool mk] 4)) (some ⟨w6.heap.size, 0, none⟩) 1 [mk]) := Lib.hid (by
                  have := bsAt_one w6 mk
                  exact this)
                have HROW1 := Lib.hid (HROW1.out.alloc (.cells #[.bool mk] 4))
                refine hK.out _ _ ?_ (fun hH => ?_)
                · exact hk3
                clear hK K
                try simp only [pt]
                refine wpAnyH_ready (rs := [15]) (by kernel_rfl) (by simp) ?_
                refine rdH (fun K hK => ?_) ?_
                · obtain ⟨a2, c2, w8, hrun9, hrw8, hgr8, _⟩ := run_appB (w6.alloc (.cells #[.bool mk] 4)) 27 wc.heap.size _ (ms) HROW1.out (some ⟨w6.heap.size, 0, none⟩) 1 1 [mk] HONE.out (Nat.le_refl _) (fun e => by cases e) (by rw [HSZ.out]; have := HNN.out; omega) HW3.out.size
                  rw [HSZ.out] at hrun9 hrw8
                  have HW8 := Lib.hid (belB HROW1.out HW3.out hgr8 HW3.out.size)
                  have hk8 := HKS.out _ HW8.out
                  have HROW2 := Lib.hid hrw8
                  have ck8 : w8.cell? ⟨b, 1, none⟩ = some (Value.slice (some ⟨g2, off2, none⟩) n c') := (HQ.out.next HW8.out).c1
                  have fk8 := (HQ.out.next HW8.out).f0 1
                  clear hrw8 hgr8
                  refine step_append_run (by rfl) (.tmp 39) (.tmp 47) 27 rfl _ _ _ rfl rfl hrun9 ?_
                  refine hK.out _ _ ?_ (fun hH => ?_)
                  · exact hk8
                  clear hK K
                  try simp only [pt]
                  refine tkH 16 ?_ ?_ ?_
                  rotate_left
                  · intro w hSw
                    try dsimp only at hSw
                    go_simp
                    all_goals with_reducible rfl
                  try simp only [pt]
                  refine tkH 17 ?_ ?_ ?_
                  rotate_left
                  · intro w hSw
                    try dsimp only at hSw
                    go_simp
                    all_goals with_reducible rfl
                  try simp only [pt]
                  refine wpAnyH_ready (rs := [18]) (by kernel_rfl) (by simp) ?_
                  refine rdH (fun K hK => ?_) ?_
                  · go_simp
                    refine hK.out _ _ ?_ (fun hH => ?_)
                    · exact (HKT.out _ _ HW8.out)
                    clear hK K
                    try simp only [pt]
                    refine wpAnyH_done (by kernel_rfl) ?_ _
                    have HFIN := Lib.hid (bd_put1 HQ.out HW8.out (HROW2.out.lower (Nat.le_refl _)))
                    clear hrun hrun9
                    go_wp2_with fail
                    go_meet
                    case rel => exact ⟨_, HFIN.out.1, HFIN.out.2⟩
                  exact AllReadyH.nil
                exact AllReadyH.nil
              exact AllReadyH.nil
            refine rdH (fun K hK => ?_) ?_
            · go_simp
              have HW2 : Hid (Below wc.heap.size wc ((wc.drew.alloc (.cells #[] 4)).alloc (.cells #[.bool mk] 4))) := Lib.hid (Below.step HW1.out (.cells #[.bool mk] 4) (Below.refl _ _))
              have hk2 := HKS.out _ HW2.out
              have ck2 : ((wc.alloc (.cells #[] 4)).alloc (.cells #[.bool mk] 4)).cell? ⟨b, 1, none⟩ = some (Value.slice (some ⟨g2, off2, none⟩) n c') := (HQ.out.next HW2.out).c1
              have HONE : Hid (BsAt ((wc.drew.alloc (.cells #[] 4)).alloc (.cells #[.bool mk] 4)) (some ⟨wc.heap.size + 1, 0, none⟩) 1 [mk]) := Lib.hid (by
                have := bsAt_one (wc.drew.alloc (.cells #[] 4)) mk
                rw [show (wc.drew.alloc (.cells #[] 4)).heap.size = wc.heap.size + 1 by simp] at this
                exact this)
              have HROW := Lib.hid (HROW.out.alloc (.cells #[.bool mk] 4))
              refine hK.out _ _ ?_ (fun hH => ?_)
              · exact hk2
              clear hK K
              try simp only [pt]
              refine wpAnyH_ready (rs := [6]) (by kernel_rfl) (by simp) ?_
              refine rdH (fun K hK => ?_) ?_
              · obtain ⟨a1, c1', w6, hrun, hrw6, hgr6, _⟩ := run_appB ((wc.drew.alloc (.cells #[] 4)).alloc (.cells #[.bool mk] 4)) 27 wc.heap.size _ [] HROW.out (some ⟨g2, off2, none⟩) n c' (ms) (bsAt_below HX.out HW2.out) HC.out.1 HC.out.2 (by have := HNN.out; simp only [List.length_nil]; omega) HW2.out.size
                simp only [List.length_nil, Nat.zero_add, List.nil_append] at hrun hrw6
                have HW3 := Lib.hid (belB HROW.out HW2.out hgr6 HW2.out.size)
                have hk3 := HKS.out _ HW3.out
                have HROW1 := Lib.hid hrw6
                have ck3 : w6.cell? ⟨b, 1, none⟩ = some (Value.slice (some ⟨g2, off2, none⟩) n c') := (HQ.out.next HW3.out).c1
                have HONE := Lib.hid (bsAt_keep HONE.out (fun g off e => hgr6.block g (by cases e; first | (simp; done) | (simp; omega)) (by cases e; simp [Value.ownBlock])) hgr6.size)
                clear hrw6 hgr6
                refine step_append_run (by rfl) (.tmp 34) (.tmp 38) 27 rfl _ _ _ rfl rfl hrun ?_
                refine hK.out _ _ ?_ (fun hH => ?_)
                · exact hk3
                clear hK K
                try simp only [pt]
                refine wpAnyH_ready (rs := [15]) (by kernel_rfl) (by simp) ?_
                refine rdH (fun K hK => ?_) ?_
                · obtain ⟨a2, c2, w8, hrun9, hrw8, hgr8, _⟩ := run_appB w6 27 wc.heap.size _ (ms) HROW1.out (some ⟨wc.heap.size + 1, 0, none⟩) 1 1 [mk] HONE.out (Nat.le_refl _) (fun e => by cases e) (by rw [HSZ.out]; have := HNN.out; omega) HW3.out.size
                  rw [HSZ.out] at hrun9 hrw8
                  have HW8 := Lib.hid (belB HROW1.out HW3.out hgr8 HW3.out.size)
                  have hk8 := HKS.out _ HW8.out
                  have HROW2 := Lib.hid hrw8
                  have ck8 : w8.cell? ⟨b, 1, none⟩ = some (Value.slice (some ⟨g2, off2, none⟩) n c') := (HQ.out.next HW8.out).c1
                  have fk8 := (HQ.out.next HW8.out).f0 1
                  clear hrw8 hgr8
                  refine step_append_run (by rfl) (.tmp 39) (.tmp 47) 27 rfl _ _ _ rfl rfl hrun9 ?_
                  refine hK.out _ _ ?_ (fun hH => ?_)
                  · exact hk8
                  clear hK K
                  try simp only [pt]
                  refine tkH 16 ?_ ?_ ?_
                  rotate_left
                  · intro w hSw
                    try dsimp only at hSw
                    go_simp
                    all_goals with_reducible rfl
                  try simp only [pt]
                  refine tkH 17 ?_ ?_ ?_
                  rotate_left
                  · intro w hSw
                    try dsimp only at hSw
                    go_simp
                    all_goals with_reducible rfl
                  try simp only [pt]
                  refine wpAnyH_ready (rs := [18]) (by kernel_rfl) (by simp) ?_
                  refine rdH (fun K hK => ?_) ?_
                  · go_simp
                    refine hK.out _ _ ?_ (fun hH => ?_)
                    · exact (HKT.out _ _ HW8.out)
                    clear hK K
                    try simp only [pt]
                    refine wpAnyH_done (by kernel_rfl) ?_ _
                    have HFIN := Lib.hid (bd_put1 HQ.out HW8.out (HROW2.out.lower (Nat.le_refl _)))
                    clear hrun hrun9
                    go_wp2_with fail
                    go_meet
                    case rel => exact ⟨_, HFIN.out.1, HFIN.out.2⟩
                  exact AllReadyH.nil
                exact AllReadyH.nil
              exact AllReadyH.nil
            exact AllReadyH.nil
          exact AllReadyH.nil
        refine rdH (fun K hK => ?_) ?_
        · go_simp
          refine hK.out _ _ ?_ (fun hH => ?_)
          · exact hk1
          clear hK K
          try simp only [pt]
          refine tkH 12 ?_ ?_ ?_
          rotate_left
          · intro w hSw
            try dsimp only at hSw
            go_simp
            all_goals with_reducible rfl
          try simp only [pt]
          refine tkH 13 ?_ ?_ ?_
          rotate_left
          · intro w hSw
            try dsimp only at hSw
            go_simp
            all_goals with_reducible rfl
          try simp only [pt]
          refine wpAnyH_ready (rs := [5, 14]) (by kernel_rfl) (by simp) ?_
          refine rdH (fun K hK => ?_) ?_
          · go_simp
            refine hK.out _ _ ?_ (fun hH => ?_)
            · exact hk1
            clear hK K
            try simp only [pt]
            refine wpAnyH_ready (rs := [6, 14]) (by kernel_rfl) (by simp) ?_
            refine rdH (fun K hK => ?_) ?_
            · obtain ⟨a1, c1', w6, hrun, hrw6, hgr6, _⟩ := run_appB (wc.drew.alloc (.cells #[] 4)) 27 wc.heap.size _ [] HROW.out (some ⟨g2, off2, none⟩) n c' (ms) (bsAt_below HX.out HW1.out) HC.out.1 HC.out.2 (by have := HNN.out; simp only [List.length_nil]; omega) HW1.out.size
              simp only [List.length_nil, Nat.zero_add, List.nil_append] at hrun hrw6
              have HW2 := Lib.hid (belB HROW.out HW1.out hgr6 HW1.out.size)
              have hk2 := HKS.out _ HW2.out
              have HROW1 := Lib.hid hrw6
              have ck2 : w6.cell? ⟨b, 1, none⟩ = some (Value.slice (some ⟨g2, off2, none⟩) n c') := (HQ.out.next HW2.out).c1
              clear hrw6 hgr6
              refine step_append_run (by rfl) (.tmp 34) (.tmp 38) 27 rfl _ _ _ rfl rfl hrun ?_
              refine hK.out _ _ ?_ (fun hH => ?_)
              · exact hk2
              clear hK K
              try simp only [pt]
              refine wpAnyH_ready (rs := [14]) (by kernel_rfl) (by simp) ?_
              refine rdH (fun K hK => ?_) ?_
              · go_simp
                have HW3 : Hid (Below wc.heap.size wc (w6.alloc (.cells #[.bool mk] 4))) := Lib.hid (Below.step HW2.out (.cells #[.bool mk] 4) (Below.refl _ _))
                have hk3 := HKS.out _ HW3.out
                have ck3 : (w6.alloc (.cells #[.bool mk] 4)).cell? ⟨b, 1, none⟩ = some (Value.slice (some ⟨g2, off2, none⟩) n c') := (HQ.out.next HW3.out).c1
                have HONE : Hid (BsAt (w6.alloc (.cells #[.bool mk] 4)) (some ⟨w6.heap.size, 0, none⟩) 1 [mk]) := Lib.hid (by
                  have := bsAt_one w6 mk
                  exact this)
                have HROW1 := Lib.hid (HROW1.out.alloc (.cells #[.bool mk] 4))
                refine hK.out _ _ ?_ (fun hH => ?_)
                · exact hk3
                clear hK K
                try simp only [pt]
                refine wpAnyH_ready (rs := [15]) (by kernel_rfl) (by simp) ?_
                refine rdH (fun K hK => ?_) ?_
                · obtain ⟨a2, c2, w8, hrun9, hrw8, hgr8, _⟩ := run_appB (w6.alloc (.cells #[.bool mk] 4)) 27 wc.heap.size _ (ms) HROW1.out (some ⟨w6.heap.size, 0, none⟩) 1 1 [mk] HONE.out (Nat.le_refl _) (fun e => by cases e) (by rw [HSZ.out]; have := HNN.out; omega) HW3.out.size
                  rw [HSZ.out] at hrun9 hrw8
                  have HW8 := Lib.hid (belB HROW1.out HW3.out hgr8 HW3.out.size)
                  have hk8 := HKS.out _ HW8.out
                  have HROW2 := Lib.hid hrw8
                  have ck8 : w8.cell? ⟨b, 1, none⟩ = some (Value.slice (some ⟨g2, off2, none⟩) n c') := (HQ.out.next HW8.out).c1
                  have fk8 := (HQ.out.next HW8.out).f0 1
                  clear hrw8 hgr8
                  refine step_append_run (by rfl) (.tmp 39) (.tmp 47) 27 rfl _ _ _ rfl rfl hrun9 ?_
                  refine hK.out _ _ ?_ (fun hH => ?_)
                  · exact hk8
                  clear hK K
                  try simp only [pt]
                  refine tkH 16 ?_ ?_ ?_
                  rotate_left
                  · intro w hSw
                    try dsimp only at hSw
                    go_simp
                    all_goals with_reducible rfl
                  try simp only [pt]
                  refine tkH 17 ?_ ?_ ?_
                  rotate_left
                  · intro w hSw
                    try dsimp only at hSw
                    go_simp
                    all_goals with_reducible rfl
                  try simp only [pt]
                  refine wpAnyH_ready (rs := [18]) (by kernel_rfl) (by simp) ?_
                  refine rdH (fun K hK => ?_) ?_
                  · go_simp
                    refine hK.out _ _ ?_ (fun hH => ?_)
                    · exact (HKT.out _ _ HW8.out)
                    clear hK K
                    try simp only [pt]
                    refine wpAnyH_done (by kernel_rfl) ?_ _
                    have HFIN := Lib.hid (bd_put1 HQ.out HW8.out (HROW2.out.lower (Nat.le_refl _)))
                    clear hrun hrun9
                    go_wp2_with fail
                    go_meet
                    case rel => exact ⟨_, HFIN.out.1, HFIN.out.2⟩
                  exact AllReadyH.nil
                exact AllReadyH.nil
              exact AllReadyH.nil
            refine rdH (fun K hK => ?_) ?_
            · go_simp
              have HW2 : Hid (Below wc.heap.size wc ((wc.drew.alloc (.cells #[] 4)).alloc (.cells #[.bool mk] 4))) := Lib.hid (Below.step HW1.out (.cells #[.bool mk] 4) (Below.refl _ _))
              have hk2 := HKS.out _ HW2.out
              have ck2 : ((wc.alloc (.cells #[] 4)).alloc (.cells #[.bool mk] 4)).cell? ⟨b, 1, none⟩ = some (Value.slice (some ⟨g2, off2, none⟩) n c') := (HQ.out.next HW2.out).c1
              have HONE : Hid (BsAt ((wc.drew.alloc (.cells #[] 4)).alloc (.cells #[.bool mk] 4)) (some ⟨wc.heap.size + 1, 0, none⟩) 1 [mk]) := Lib.hid (by
                have := bsAt_one (wc.drew.alloc (.cells #[] 4)) mk
                rw [show (wc.drew.alloc (.cells #[] 4)).heap.size = wc.heap.size + 1 by simp] at this
                exact this)
              have HROW := Lib.hid (HROW.out.alloc (.cells #[.bool mk] 4))
              refine hK.out _ _ ?_ (fun hH => ?_)
              · exact hk2
              clear hK K
              try simp only [pt]
              refine wpAnyH_ready (rs := [6]) (by kernel_rfl) (by simp) ?_
              refine rdH (fun K hK => ?_) ?_
              · obtain ⟨a1, c1', w6, hrun, hrw6, hgr6, _⟩ := run_appB ((wc.drew.alloc (.cells #[] 4)).alloc (.cells #[.bool mk] 4)) 27 wc.heap.size _ [] HROW.out (some ⟨g2, off2, none⟩) n c' (ms) (bsAt_below HX.out HW2.out) HC.out.1 HC.out.2 (by have := HNN.out; simp only [List.length_nil]; omega) HW2.out.size
                simp only [List.length_nil, Nat.zero_add, List.nil_append] at hrun hrw6
                have HW3 := Lib.hid (belB HROW.out HW2.out hgr6 HW2.out.size)
                have hk3 := HKS.out _ HW3.out
                have HROW1 := Lib.hid hrw6
                have ck3 : w6.cell? ⟨b, 1, none⟩ = some (Value.slice (some ⟨g2, off2, none⟩) n c') := (HQ.out.next HW3.out).c1
                have HONE := Lib.hid (bsAt_keep HONE.out (fun g off e => hgr6.block g (by cases e; first | (simp; done) | (simp; omega)) (by cases e; simp [Value.ownBlock])) hgr6.size)
                clear hrw6 hgr6
                refine step_append_run (by rfl) (.tmp 34) (.tmp 38) 27 rfl _ _ _ rfl rfl hrun ?_
                refine hK.out _ _ ?_ (fun hH => ?_)
                · exact hk3
                clear hK K
                try simp only [pt]
                refine wpAnyH_ready (rs := [15]) (by kernel_rfl) (by simp) ?_
                refine rdH (fun K hK => ?_) ?_
                · obtain ⟨a2, c2, w8, hrun9, hrw8, hgr8, _⟩ := run_appB w6 27 wc.heap.size _ (ms) HROW1.out (some ⟨wc.heap.size + 1, 0, none⟩) 1 1 [mk] HONE.out (Nat.le_refl _) (fun e => by cases e) (by rw [HSZ.out]; have := HNN.out; omega) HW3.out.size
                  rw [HSZ.out] at hrun9 hrw8
                  have HW8 := Lib.hid (belB HROW1.out HW3.out hgr8 HW3.out.size)
                  have hk8 := HKS.out _ HW8.out
                  have HROW2 := Lib.hid hrw8
                  have ck8 : w8.cell? ⟨b, 1, none⟩ = some (Value.slice (some ⟨g2, off2, none⟩) n c') := (HQ.out.next HW8.out).c1
                  have fk8 := (HQ.out.next HW8.out).f0 1
                  clear hrw8 hgr8
                  refine step_append_run (by rfl) (.tmp 39) (.tmp 47) 27 rfl _ _ _ rfl rfl hrun9 ?_
                  refine hK.out _ _ ?_ (fun hH => ?_)
                  · exact hk8
                  clear hK K
                  try simp only [pt]
                  refine tkH 16 ?_ ?_ ?_
                  rotate_left
                  · intro w hSw
                    try dsimp only at hSw
                    go_simp
                    all_goals with_reducible rfl
                  try simp only [pt]
                  refine tkH 17 ?_ ?_ ?_
                  rotate_left
                  · intro w hSw
                    try dsimp only at hSw
                    go_simp
                    all_goals with_reducible rfl
                  try simp only [pt]
                  refine wpAnyH_ready (rs := [18]) (by kernel_rfl) (by simp) ?_
                  refine rdH (fun K hK => ?_) ?_
                  · go_simp
                    refine hK.out _ _ ?_ (fun hH => ?_)
                    · exact (HKT.out _ _ HW8.out)
                    clear hK K
                    try simp only [pt]
                    refine wpAnyH_done (by kernel_rfl) ?_ _
                    have HFIN := Lib.hid (bd_put1 HQ.out HW8.out (HROW2.out.lower (Nat.le_refl _)))
                    clear hrun hrun9
                    go_wp2_with fail
                    go_meet
                    case rel => exact ⟨_, HFIN.out.1, HFIN.out.2⟩
                  exact AllReadyH.nil
                exact AllReadyH.nil
              exact AllReadyH.nil
            exact AllReadyH.nil
          refine rdH (fun K hK => ?_) ?_
          · go_simp
            have HW2 : Hid (Below wc.heap.size wc ((wc.drew.alloc (.cells #[] 4)).alloc (.cells #[.bool mk] 4))) := Lib.hid (Below.step HW1.out (.cells #[.bool mk] 4) (Below.refl _ _))
            have hk2 := HKS.out _ HW2.out
            have ck2 : ((wc.alloc (.cells #[] 4)).alloc (.cells #[.bool mk] 4)).cell? ⟨b, 1, none⟩ = some (Value.slice (some ⟨g2, off2, none⟩) n c') := (HQ.out.next HW2.out).c1
            have HONE : Hid (BsAt ((wc.drew.alloc (.cells #[] 4)).alloc (.cells #[.bool mk] 4)) (some ⟨wc.heap.size + 1, 0, none⟩) 1 [mk]) := Lib.hid (by
              have := bsAt_one (wc.drew.alloc (.cells #[] 4)) mk
              rw [show (wc.drew.alloc (.cells #[] 4)).heap.size = wc.heap.size + 1 by simp] at this
              exact this)
            have HROW := Lib.hid (HROW.out.alloc (.cells #[.bool mk] 4))
            refine hK.out _ _ ?_ (fun hH => ?_)
            · exact hk2
            clear hK K
            try simp only [pt]
            refine wpAnyH_ready (rs := [5]) (by kernel_rfl) (by simp) ?_
            refine rdH (fun K hK => ?_) ?_
            · go_simp
              refine hK.out _ _ ?_ (fun hH => ?_)
              · exact hk2
              clear hK K
              try simp only [pt]
              refine wpAnyH_ready (rs := [6]) (by kernel_rfl) (by simp) ?_
              refine rdH (fun K hK => ?_) ?_
              · obtain ⟨a1, c1', w6, hrun, hrw6, hgr6, _⟩ := run_appB ((wc.drew.alloc (.cells #[] 4)).alloc (.cells #[.bool mk] 4)) 27 wc.heap.size _ [] HROW.out (some ⟨g2, off2, none⟩) n c' (ms) (bsAt_below HX.out HW2.out) HC.out.1 HC.out.2 (by have := HNN.out; simp only [List.length_nil]; omega) HW2.out.size
                simp only [List.length_nil, Nat.zero_add, List.nil_append] at hrun hrw6
                have HW3 := Lib.hid (belB HROW.out HW2.out hgr6 HW2.out.size)
                have hk3 := HKS.out _ HW3.out
                have HROW1 := Lib.hid hrw6
                have ck3 : w6.cell? ⟨b, 1, none⟩ = some (Value.slice (some ⟨g2, off2, none⟩) n c') := (HQ.out.next HW3.out).c1
                have HONE := Lib.hid (bsAt_keep HONE.out (fun g off e => hgr6.block g (by cases e; first | (simp; done) | (simp; omega)) (by cases e; simp [Value.ownBlock])) hgr6.size)
                clear hrw6 hgr6
                refine step_append_run (by rfl) (.tmp 34) (.tmp 38) 27 rfl _ _ _ rfl rfl hrun ?_
                refine hK.out _ _ ?_ (fun hH => ?_)
                · exact hk3
                clear hK K
                try simp only [pt]
                refine wpAnyH_ready (rs := [15]) (by kernel_rfl) (by simp) ?_
                refine rdH (fun K hK => ?_) ?_
                · obtain ⟨a2, c2, w8, hrun9, hrw8, hgr8, _⟩ := run_appB w6 27 wc.heap.size _ (ms) HROW1.out (some ⟨wc.heap.size + 1, 0, none⟩) 1 1 [mk] HONE.out (Nat.le_refl _) (fun e => by cases e) (by rw [HSZ.out]; have := HNN.out; omega) HW3.out.size
                  rw [HSZ.out] at hrun9 hrw8
                  have HW8 := Lib.hid (belB HROW1.out HW3.out hgr8 HW3.out.size)
                  have hk8 := HKS.out _ HW8.out
                  have HROW2 := Lib.hid hrw8
                  have ck8 : w8.cell? ⟨b, 1, none⟩ = some (Value.slice (some ⟨g2, off2, none⟩) n c') := (HQ.out.next HW8.out).c1
                  have fk8 := (HQ.out.next HW8.out).f0 1
                  clear hrw8 hgr8
                  refine step_append_run (by rfl) (.tmp 39) (.tmp 47) 27 rfl _ _ _ rfl rfl hrun9 ?_
                  refine hK.out _ _ ?_ (fun hH => ?_)
                  · exact hk8
                  clear hK K
                  try simp only [pt]
                  refine tkH 16 ?_ ?_ ?_
                  rotate_left
                  · intro w hSw
                    try dsimp only at hSw
                    go_simp
                    all_goals with_reducible rfl
                  try simp only [pt]
                  refine tkH 17 ?_ ?_ ?_
                  rotate_left
                  · intro w hSw
                    try dsimp only at hSw
                    go_simp
                    all_goals with_reducible rfl
                  try simp only [pt]
                  refine wpAnyH_ready (rs := [18]) (by kernel_rfl) (by simp) ?_
                  refine rdH (fun K hK => ?_) ?_
                  · go_simp
                    refine hK.out _ _ ?_ (fun hH => ?_)
                    · exact (HKT.out _ _ HW8.out)
                    clear hK K
                    try simp only [pt]
                    refine wpAnyH_done (by kernel_rfl) ?_ _
                    have HFIN := Lib.hid (bd_put1 HQ.out HW8.out (HROW2.out.lower (Nat.le_refl _)))
                    clear hrun hrun9
                    go_wp2_with fail
                    go_meet
                    case rel => exact ⟨_, HFIN.out.1, HFIN.out.2⟩
                  exact AllReadyH.nil
                exact AllReadyH.nil
              exact AllReadyH.nil
            exact AllReadyH.nil
          exact AllReadyH.nil
        exact AllReadyH.nil
      refine rdH (fun K hK => ?_) ?_
      · go_simp
        refine hK.out _ _ ?_ (fun hH => ?_)
        · exact hk0
        clear hK K
        try simp only [pt]
        refine wpAnyH_ready (rs := [1, 10]) (by kernel_rfl) (by simp) ?_
        refine rdH (fun K hK => ?_) ?_
        · go_simp
          have HW1 : Hid (Below wc.heap.size wc (wc.drew.alloc (.cells #[] 4))) := Lib.hid (Below.step HW0.out (.cells #[] 4) (Below.refl _ _))
          have hk1 := HKS.out _ HW1.out
          have ck1 : (wc.alloc (.cells #[] 4)).cell? ⟨b, 1, none⟩ = some (Value.slice (some ⟨g2, off2, none⟩) n c') := (HQ.out.next HW1.out).c1
          have HROW : Hid (RowB wc.heap.size (wc.drew.alloc (.cells #[] 4)) (.slice (some ⟨wc.heap.size, 0, none⟩) 0 0) []) := Lib.hid (by
            have := (rowB_new wc.drew).lower (show wc.heap.size ≤ wc.drew.heap.size from HW0.out.size)
            rw [show wc.drew.heap.size = wc.heap.size by simp] at this
            exact this)
          refine hK.out _ _ ?_ (fun hH => ?_)
          · exact hk1
          clear hK K
          try simp only [pt]
          refine wpAnyH_ready (rs := [6, 10]) (by kernel_rfl) (by simp) ?_
          refine rdH (fun K hK => ?_) ?_
          · obtain ⟨a1, c1', w6, hrun, hrw6, hgr6, _⟩ := run_appB (wc.drew.alloc (.cells #[] 4)) 27 wc.heap.size _ [] HROW.out (some ⟨g2, off2, none⟩) n c' (ms) (bsAt_below HX.out HW1.out) HC.out.1 HC.out.2 (by have := HNN.out; simp only [List.length_nil]; omega) HW1.out.size
            simp only [List.length_nil, Nat.zero_add, List.nil_append] at hrun hrw6
            have HW2 := Lib.hid (belB HROW.out HW1.out hgr6 HW1.out.size)
            have hk2 := HKS.out _ HW2.out
            have HROW1 := Lib.hid hrw6
            have ck2 : w6.cell? ⟨b, 1, none⟩ = some (Value.slice (some ⟨g2, off2, none⟩) n c') := (HQ.out.next HW2.out).c1
            clear hrw6 hgr6
            refine step_append_run (by rfl) (.tmp 34) (.tmp 38) 27 rfl _ _ _ rfl rfl hrun ?_
            refine hK.out _ _ ?_ (fun hH => ?_)
            · exact hk2
            clear hK K
            try simp only [pt]
            refine wpAnyH_ready (rs := [10]) (by kernel_rfl) (by simp) ?_
            refine rdH (fun K hK => ?_) ?_
            · go_simp
              refine hK.out _ _ ?_ (fun hH => ?_)
              · exact hk2
              clear hK K
              try simp only [pt]
              refine tkH 12 ?_ ?_ ?_
              rotate_left
              · intro w hSw
                try dsimp only at hSw
                go_simp
                all_goals with_reducible rfl
              try simp only [pt]
              refine tkH 13 ?_ ?_ ?_
              rotate_left
              · intro w hSw
                try dsimp only at hSw
                go_simp
                all_goals with_reducible rfl
              try simp only [pt]
              refine wpAnyH_ready (rs := [14]) (by kernel_rfl) (by simp) ?_
              refine rdH (fun K hK => ?_) ?_
              · go_simp
                have HW3 : Hid (Below wc.heap.size wc (w6.alloc (.cells #[.bool mk] 4))) := Lib.hid (Below.step HW2.out (.cells #[.bool mk] 4) (Below.refl _ _))
                have hk3 := HKS.out _ HW3.out
                have ck3 : (w6.alloc (.cells #[.bool mk] 4)).cell? ⟨b, 1, none⟩ = some (Value.slice (some ⟨g2, off2, none⟩) n c') := (HQ.out.next HW3.out).c1
                have HONE : Hid (BsAt (w6.alloc (.cells #[.bool mk] 4)) (some ⟨w6.heap.size, 0, none⟩) 1 [mk]) := Lib.hid (by
                  have := bsAt_one w6 mk
                  exact this)
                have HROW1 := Lib.hid (HROW1.out.alloc (.cells #[.bool mk] 4))
                refine hK.out _ _ ?_ (fun hH => ?_)
                · exact hk3
                clear hK K
                try simp only [pt]
                refine wpAnyH_ready (rs := [15]) (by kernel_rfl) (by simp) ?_
                refine rdH (fun K hK => ?_) ?_
                · obtain ⟨a2, c2, w8, hrun9, hrw8, hgr8, _⟩ := run_appB (w6.alloc (.cells #[.bool mk] 4)) 27 wc.heap.size _ (ms) HROW1.out (some ⟨w6.heap.size, 0, none⟩) 1 1 [mk] HONE.out (Nat.le_refl _) (fun e => by cases e) (by rw [HSZ.out]; have := HNN.out; omega) HW3.out.size
                  rw [HSZ.out] at hrun9 hrw8
                  have HW8 := Lib.hid (belB HROW1.out HW3.out hgr8 HW3.out.size)
                  have hk8 := HKS.out _ HW8.out
                  have HROW2 := Lib.hid hrw8
                  have ck8 : w8.cell? ⟨b, 1, none⟩ = some (Value.slice (some ⟨g2, off2, none⟩) n c') := (HQ.out.next HW8.out).c1
                  have fk8 := (HQ.out.next HW8.out).f0 1
                  clear hrw8 hgr8
                  refine step_append_run (by rfl) (.tmp 39) (.tmp 47) 27 rfl _ _ _ rfl rfl hrun9 ?_
                  refine hK.out _ _ ?_ (fun hH => ?_)
                  · exact hk8
                  clear hK K
                  try simp only [pt]
                  refine tkH 16 ?_ ?_ ?_
                  rotate_left
                  · intro w hSw
                    try dsimp only at hSw
                    go_simp
                    all_goals with_reducible rfl
                  try simp only [pt]
                  refine tkH 17 ?_ ?_ ?_
                  rotate_left
                  · intro w hSw
                    try dsimp only at hSw
                    go_simp
                    all_goals with_reducible rfl
                  try simp only [pt]
                  refine wpAnyH_ready (rs := [18]) (by kernel_rfl) (by simp) ?_
                  refine rdH (fun K hK => ?_) ?_
                  · go_simp
                    refine hK.out _ _ ?_ (fun hH => ?_)
                    · exact (HKT.out _ _ HW8.out)
                    clear hK K
                    try simp only [pt]
                    refine wpAnyH_done (by kernel_rfl) ?_ _
                    have HFIN := Lib.hid (bd_put1 HQ.out HW8.out (HROW2.out.lower (Nat.le_refl _)))
                    clear hrun hrun9
                    go_wp2_with fail
                    go_meet
                    case rel => exact ⟨_, HFIN.out.1, HFIN.out.2⟩
                  exact AllReadyH.nil
                exact AllReadyH.nil
              exact AllReadyH.nil
            exact AllReadyH.nil
          refine rdH (fun K hK => ?_) ?_
          · go_simp
            refine hK.out _ _ ?_ (fun hH => ?_)
            · exact hk1
            clear hK K
            try simp only [pt]
            refine tkH 12 ?_ ?_ ?_
            rotate_left
            · intro w hSw
              try dsimp only at hSw
              go_simp
              all_goals with_reducible rfl
            try simp only [pt]
            refine tkH 13 ?_ ?_ ?_
            rotate_left
            · intro w hSw
              try dsimp only at hSw
              go_simp
              all_goals with_reducible rfl
            try simp only [pt]
            refine wpAnyH_ready (rs := [6, 14]) (by kernel_rfl) (by simp) ?_
            refine rdH (fun K hK => ?_) ?_
            · obtain ⟨a1, c1', w6, hrun, hrw6, hgr6, _⟩ := run_appB (wc.drew.alloc (.cells #[] 4)) 27 wc.heap.size _ [] HROW.out (some ⟨g2, off2, none⟩) n c' (ms) (bsAt_below HX.out HW1.out) HC.out.1 HC.out.2 (by have := HNN.out; simp only [List.length_nil]; omega) HW1.out.size
              simp only [List.length_nil, Nat.zero_add, List.nil_append] at hrun hrw6
              have HW2 := Lib.hid (belB HROW.out HW1.out hgr6 HW1.out.size)
              have hk2 := HKS.out _ HW2.out
              have HROW1 := Lib.hid hrw6
              have ck2 : w6.cell? ⟨b, 1, none⟩ = some (Value.slice (some ⟨g2, off2, none⟩) n c') := (HQ.out.next HW2.out).c1
              clear hrw6 hgr6
              refine step_append_run (by rfl) (.tmp 34) (.tmp 38) 27 rfl _ _ _ rfl rfl hrun ?_
              refine hK.out _ _ ?_ (fun hH => ?_)
              · exact hk2
              clear hK K
              try simp only [pt]
              refine wpAnyH_ready (rs := [14]) (by kernel_rfl) (by simp) ?_
              refine rdH (fun K hK => ?_) ?_
              · go_simp
                have HW3 : Hid (Below wc.heap.size wc (w6.alloc (.cells #[.bool mk] 4))) := Lib.hid (Below.step HW2.out (.cells #[.bool mk] 4) (Below.refl _ _))
                have hk3 := HKS.out _ HW3.out
                have ck3 : (w6.alloc (.cells #[.bool mk] 4)).cell? ⟨b, 1, none⟩ = some (Value.slice (some ⟨g2, off2, none⟩) n c') := (HQ.out.next HW3.out).c1
                have HONE : Hid (BsAt (w6.alloc (.cells #[.bool mk] 4)) (some ⟨w6.heap.size, 0, none⟩) 1 [mk]) := Lib.hid (by
                  have := bsAt_one w6 mk
                  exact this)
                have HROW1 := Lib.hid (HROW1.out.alloc (.cells #[.bool mk] 4))
                refine hK.out _ _ ?_ (fun hH => ?_)
                · exact hk3
                clear hK K
                try simp only [pt]
                refine wpAnyH_ready (rs := [15]) (by kernel_rfl) (by simp) ?_
                refine rdH (fun K hK => ?_) ?_
                · obtain ⟨a2, c2, w8, hrun9, hrw8, hgr8, _⟩ := run_appB (w6.alloc (.cells #[.bool mk] 4)) 27 wc.heap.size _ (ms) HROW1.out (some ⟨w6.heap.size, 0, none⟩) 1 1 [mk] HONE.out (Nat.le_refl _) (fun e => by cases e) (by rw [HSZ.out]; have := HNN.out; omega) HW3.out.size
                  rw [HSZ.out] at hrun9 hrw8
                  have HW8 := Lib.hid (belB HROW1.out HW3.out hgr8 HW3.out.size)
                  have hk8 := HKS.out _ HW8.out
                  have HROW2 := Lib.hid hrw8
                  have ck8 : w8.cell? ⟨b, 1, none⟩ = some (Value.slice (some ⟨g2, off2, none⟩) n c') := (HQ.out.next HW8.out).c1
                  have fk8 := (HQ.out.next HW8.out).f0 1
                  clear hrw8 hgr8
                  refine step_append_run (by rfl) (.tmp 39) (.tmp 47) 27 rfl _ _ _ rfl rfl hrun9 ?_
                  refine hK.out _ _ ?_ (fun hH => ?_)
                  · exact hk8
                  clear hK K
                  try simp only [pt]
                  refine tkH 16 ?_ ?_ ?_
                  rotate_left
                  · intro w hSw
                    try dsimp only at hSw
                    go_simp
                    all_goals with_reducible rfl
                  try simp only [pt]
                  refine tkH 17 ?_ ?_ ?_
                  rotate_left
                  · intro w hSw
                    try dsimp only at hSw
                    go_simp
                    all_goals with_reducible rfl
                  try simp only [pt]
                  refine wpAnyH_ready (rs := [18]) (by kernel_rfl) (by simp) ?_
                  refine rdH (fun K hK => ?_) ?_
                  · go_simp
                    refine hK.out _ _ ?_ (fun hH => ?_)
                    · exact (HKT.out _ _ HW8.out)
                    clear hK K
                    try simp only [pt]
                    refine wpAnyH_done (by kernel_rfl) ?_ _
                    have HFIN := Lib.hid (bd_put1 HQ.out HW8.out (HROW2.out.lower (Nat.le_refl _)))
                    clear hrun hrun9
                    go_wp2_with fail
                    go_meet
                    case rel => exact ⟨_, HFIN.out.1, HFIN.out.2⟩
                  exact AllReadyH.nil
                exact AllReadyH.nil
              exact AllReadyH.nil
            refine rdH (fun K hK => ?_) ?_
            · go_simp
              have HW2 : Hid (Below wc.heap.size wc ((wc.drew.alloc (.cells #[] 4)).alloc (.cells #[.bool mk] 4))) := Lib.hid (Below.step HW1.out (.cells #[.bool mk] 4) (Below.refl _ _))
              have hk2 := HKS.out _ HW2.out
              have ck2 : ((wc.alloc (.cells #[] 4)).alloc (.cells #[.bool mk] 4)).cell? ⟨b, 1, none⟩ = some (Value.slice (some ⟨g2, off2, none⟩) n c') := (HQ.out.next HW2.out).c1
              have HONE : Hid (BsAt ((wc.drew.alloc (.cells #[] 4)).alloc (.cells #[.bool mk] 4)) (some ⟨wc.heap.size + 1, 0, none⟩) 1 [mk]) := Lib.hid (by
                have := bsAt_one (wc.drew.alloc (.cells #[] 4)) mk
                rw [show (wc.drew.alloc (.cells #[] 4)).heap.size = wc.heap.size + 1 by simp] at this
                exact this)
              have HROW := Lib.hid (HROW.out.alloc (.cells #[.bool mk] 4))
              refine hK.out _ _ ?_ (fun hH => ?_)
              · exact hk2
              clear hK K
              try simp only [pt]
              refine wpAnyH_ready (rs := [6]) (by kernel_rfl) (by simp) ?_
              refine rdH (fun K hK => ?_) ?_
              · obtain ⟨a1, c1', w6, hrun, hrw6, hgr6, _⟩ := run_appB ((wc.drew.alloc (.cells #[] 4)).alloc (.cells #[.bool mk] 4)) 27 wc.heap.size _ [] HROW.out (some ⟨g2, off2, none⟩) n c' (ms) (bsAt_below HX.out HW2.out) HC.out.1 HC.out.2 (by have := HNN.out; simp only [List.length_nil]; omega) HW2.out.size
                simp only [List.length_nil, Nat.zero_add, List.nil_append] at hrun hrw6
                have HW3 := Lib.hid (belB HROW.out HW2.out hgr6 HW2.out.size)
                have hk3 := HKS.out _ HW3.out
                have HROW1 := Lib.hid hrw6
                have ck3 : w6.cell? ⟨b, 1, none⟩ = some (Value.slice (some ⟨g2, off2, none⟩) n c') := (HQ.out.next HW3.out).c1
                have HONE := Lib.hid (bsAt_keep HONE.out (fun g off e => hgr6.block g (by cases e; first | (simp; done) | (simp; omega)) (by cases e; simp [Value.ownBlock])) hgr6.size)
                clear hrw6 hgr6
                refine step_append_run (by rfl) (.tmp 34) (.tmp 38) 27 rfl _ _ _ rfl rfl hrun ?_
                refine hK.out _ _ ?_ (fun hH => ?_)
                · exact hk3
                clear hK K
                try simp only [pt]
                refine wpAnyH_ready (rs := [15]) (by kernel_rfl) (by simp) ?_
                refine rdH (fun K hK => ?_) ?_
                · obtain ⟨a2, c2, w8, hrun9, hrw8, hgr8, _⟩ := run_appB w6 27 wc.heap.size _ (ms) HROW1.out (some ⟨wc.heap.size + 1, 0, none⟩) 1 1 [mk] HONE.out (Nat.le_refl _) (fun e => by cases e) (by rw [HSZ.out]; have := HNN.out; omega) HW3.out.size
                  rw [HSZ.out] at hrun9 hrw8
                  have HW8 := Lib.hid (belB HROW1.out HW3.out hgr8 HW3.out.size)
                  have hk8 := HKS.out _ HW8.out
                  have HROW2 := Lib.hid hrw8
                  have ck8 : w8.cell? ⟨b, 1, none⟩ = some (Value.slice (some ⟨g2, off2, none⟩) n c') := (HQ.out.next HW8.out).c1
                  have fk8 := (HQ.out.next HW8.out).f0 1
                  clear hrw8 hgr8
                  refine step_append_run (by rfl) (.tmp 39) (.tmp 47) 27 rfl _ _ _ rfl rfl hrun9 ?_
                  refine hK.out _ _ ?_ (fun hH => ?_)
                  · exact hk8
                  clear hK K
                  try simp only [pt]
                  refine tkH 16 ?_ ?_ ?_
                  rotate_left
                  · intro w hSw
                    try dsimp only at hSw
                    go_simp
                    all_goals with_reducible rfl
                  try simp only [pt]
                  refine tkH 17 ?_ ?_ ?_
                  rotate_left
                  · intro w hSw
                    try dsimp only at hSw
                    go_simp
                    all_goals with_reducible rfl
                  try simp only [pt]
                  refine wpAnyH_ready (rs := [18]) (by kernel_rfl) (by simp) ?_
                  refine rdH (fun K hK => ?_) ?_
                  · go_simp
                    refine hK.out _ _ ?_ (fun hH => ?_)
                    · exact (HKT.out _ _ HW8.out)
                    clear hK K
                    try simp only [pt]
                    refine wpAnyH_done (by kernel_rfl) ?_ _
                    have HFIN := Lib.hid (bd_put1 HQ.out HW8.out (HROW2.out.lower (Nat.le_refl _)))
                    clear hrun hrun9
                    go_wp2_with fail
                    go_meet
                    case rel => exact ⟨_, HFIN.out.1, HFIN.out.2⟩
                  exact AllReadyH.nil
                exact AllReadyH.nil
              exact AllReadyH.nil
            exact AllReadyH.nil
          exact AllReadyH.nil
        refine rdH (fun K hK => ?_) ?_
        · go_simp
          refine hK.out _ _ ?_ (fun hH => ?_)
          · exact hk0
          clear hK K
          try simp only [pt]
          refine tkH 12 ?_ ?_ ?_
          rotate_left
          · intro w hSw
            try dsimp only at hSw
            go_simp
            all_goals with_reducible rfl
          try simp only [pt]
          refine tkH 13 ?_ ?_ ?_
          rotate_left
          · intro w hSw
            try dsimp only at hSw
            go_simp
            all_goals with_reducible rfl
          try simp only [pt]
          refine wpAnyH_ready (rs := [1, 14]) (by kernel_rfl) (by simp) ?_
          refine rdH (fun K hK => ?_) ?_
          · go_simp
            have HW1 : Hid (Below wc.heap.size wc (wc.drew.alloc (.cells #[] 4))) := Lib.hid (Below.step HW0.out (.cells #[] 4) (Below.refl _ _))
            have hk1 := HKS.out _ HW1.out
            have ck1 : (wc.alloc (.cells #[] 4)).cell? ⟨b, 1, none⟩ = some (Value.slice (some ⟨g2, off2, none⟩) n c') := (HQ.out.next HW1.out).c1
            have HROW : Hid (RowB wc.heap.size (wc.drew.alloc (.cells #[] 4)) (.slice (some ⟨wc.heap.size, 0, none⟩) 0 0) []) := Lib.hid (by
              have := (rowB_new wc.drew).lower (show wc.heap.size ≤ wc.drew.heap.size from HW0.out.size)
              rw [show wc.drew.heap.size = wc.heap.size by simp] at this
              exact this)
            refine hK.out _ _ ?_ (fun hH => ?_)
            · exact hk1
            clear hK K
            try simp only [pt]
            refine wpAnyH_ready (rs := [6, 14]) (by kernel_rfl) (by simp) ?_
            refine rdH (fun K hK => ?_) ?_
            · obtain ⟨a1, c1', w6, hrun, hrw6, hgr6, _⟩ := run_appB (wc.drew.alloc (.cells #[] 4)) 27 wc.heap.size _ [] HROW.out (some ⟨g2, off2, none⟩) n c' (ms) (bsAt_below HX.out HW1.out) HC.out.1 HC.out.2 (by have := HNN.out; simp only [List.length_nil]; omega) HW1.out.size
              simp only [List.length_nil, Nat.zero_add, List.nil_append] at hrun hrw6
              have HW2 := Lib.hid (belB HROW.out HW1.out hgr6 HW1.out.size)
              have hk2 := HKS.out _ HW2.out
              have HROW1 := Lib.hid hrw6
              have ck2 : w6.cell? ⟨b, 1, none⟩ = some (Value.slice (some ⟨g2, off2, none⟩) n c') := (HQ.out.next HW2.out).c1
              clear hrw6 hgr6
              refine step_append_run (by rfl) (.tmp 34) (.tmp 38) 27 rfl _ _ _ rfl rfl hrun ?_
              refine hK.out _ _ ?_ (fun hH => ?_)
              · exact hk2
              clear hK K
              try simp only [pt]
              refine wpAnyH_ready (rs := [14]) (by kernel_rfl) (by simp) ?_
              refine rdH (fun K hK => ?_) ?_
              · go_simp
                have HW3 : Hid (Below wc.heap.size wc (w6.alloc (.cells #[.bool mk] 4))) := Lib.hid (Below.step HW2.out (.cells #[.bool mk] 4) (Below.refl _ _))
                have hk3 := HKS.out _ HW3.out
                have ck3 : (w6.alloc (.cells #[.bool mk] 4)).cell? ⟨b, 1, none⟩ = some (Value.slice (some ⟨g2, off2, none⟩) n c') := (HQ.out.next HW3.out).c1
                have HONE : Hid (BsAt (w6.alloc (.cells #[.bool mk] 4)) (some ⟨w6.heap.size, 0, none⟩) 1 [mk]) := Lib.hid (by
                  have := bsAt_one w6 mk
                  exact this)
                have HROW1 := Lib.hid (HROW1.out.alloc (.cells #[.bool mk] 4))
                refine hK.out _ _ ?_ (fun hH => ?_)
                · exact hk3
                clear hK K
                try simp only [pt]
                refine wpAnyH_ready (rs := [15]) (by kernel_rfl) (by simp) ?_
                refine rdH (fun K hK => ?_) ?_
                · obtain ⟨a2, c2, w8, hrun9, hrw8, hgr8, _⟩ := run_appB (w6.alloc (.cells #[.bool mk] 4)) 27 wc.heap.size _ (ms) HROW1.out (some ⟨w6.heap.size, 0, none⟩) 1 1 [mk] HONE.out (Nat.le_refl _) (fun e => by cases e) (by rw [HSZ.out]; have := HNN.out; omega) HW3.out.size
                  rw [HSZ.out] at hrun9 hrw8
                  have HW8 := Lib.hid (belB HROW1.out HW3.out hgr8 HW3.out.size)
                  have hk8 := HKS.out _ HW8.out
                  have HROW2 := Lib.hid hrw8
                  have ck8 : w8.cell? ⟨b, 1, none⟩ = some (Value.slice (some ⟨g2, off2, none⟩) n c') := (HQ.out.next HW8.out).c1
                  have fk8 := (HQ.out.next HW8.out).f0 1
                  clear hrw8 hgr8
                  refine step_append_run (by rfl) (.tmp 39) (.tmp 47) 27 rfl _ _ _ rfl rfl hrun9 ?_
                  refine hK.out _ _ ?_ (fun hH => ?_)
                  · exact hk8
                  clear hK K
                  try simp only [pt]
                  refine tkH 16 ?_ ?_ ?_
                  rotate_left
                  · intro w hSw
                    try dsimp only at hSw
                    go_simp
                    all_goals with_reducible rfl
                  try simp only [pt]
                  refine tkH 17 ?_ ?_ ?_
                  rotate_left
                  · intro w hSw
                    try dsimp only at hSw
                    go_simp
                    all_goals with_reducible rfl
                  try simp only [pt]
                  refine wpAnyH_ready (rs := [18]) (by kernel_rfl) (by simp) ?_
                  refine rdH (fun K hK => ?_) ?_
                  · go_simp
                    refine hK.out _ _ ?_ (fun hH => ?_)
                    · exact (HKT.out _ _ HW8.out)
                    clear hK K
                    try simp only [pt]
                    refine wpAnyH_done (by kernel_rfl) ?_ _
                    have HFIN := Lib.hid (bd_put1 HQ.out HW8.out (HROW2.out.lower (Nat.le_refl _)))
                    clear hrun hrun9
                    go_wp2_with fail
                    go_meet
                    case rel => exact ⟨_, HFIN.out.1, HFIN.out.2⟩
                  exact AllReadyH.nil
                exact AllReadyH.nil
              exact AllReadyH.nil
            refine rdH (fun K hK => ?_) ?_
            · go_simp
              have HW2 : Hid (Below wc.heap.size wc ((wc.drew.alloc (.cells #[] 4)).alloc (.cells #[.bool mk] 4))) := Lib.hid (Below.step HW1.out (.cells #[.bool mk] 4) (Below.refl _ _))
              have hk2 := HKS.out _ HW2.out
              have ck2 : ((wc.alloc (.cells #[] 4)).alloc (.cells #[.bool mk] 4)).cell? ⟨b, 1, none⟩ = some (Value.slice (some ⟨g2, off2, none⟩) n c') := (HQ.out.next HW2.out).c1
              have HONE : Hid (BsAt ((wc.drew.alloc (.cells #[] 4)).alloc (.cells #[.bool mk] 4)) (some ⟨wc.heap.size + 1, 0, none⟩) 1 [mk]) := Lib.hid (by
                have := bsAt_one (wc.drew.alloc (.cells #[] 4)) mk
                rw [show (wc.drew.alloc (.cells #[] 4)).heap.size = wc.heap.size + 1 by simp] at this
                exact this)
              have HROW := Lib.hid (HROW.out.alloc (.cells #[.bool mk] 4))
              refine hK.out _ _ ?_ (fun hH => ?_)
              · exact hk2
              clear hK K
              try simp only [pt]
              refine wpAnyH_ready (rs := [6]) (by kernel_rfl) (by simp) ?_
              refine rdH (fun K hK => ?_) ?_
              · obtain ⟨a1, c1', w6, hrun, hrw6, hgr6, _⟩ := run_appB ((wc.drew.alloc (.cells #[] 4)).alloc (.cells #[.bool mk] 4)) 27 wc.heap.size _ [] HROW.out (some ⟨g2, off2, none⟩) n c' (ms) (bsAt_below HX.out HW2.out) HC.out.1 HC.out.2 (by have := HNN.out; simp only [List.length_nil]; omega) HW2.out.size
                simp only [List.length_nil, Nat.zero_add, List.nil_append] at hrun hrw6
                have HW3 := Lib.hid (belB HROW.out HW2.out hgr6 HW2.out.size)
                have hk3 := HKS.out _ HW3.out
                have HROW1 := Lib.hid hrw6
                have ck3 : w6.cell? ⟨b, 1, none⟩ = some (Value.slice (some ⟨g2, off2, none⟩) n c') := (HQ.out.next HW3.out).c1
                have HONE := Lib.hid (bsAt_keep HONE.out (fun g off e => hgr6.block g (by cases e; first | (simp; done) | (simp; omega)) (by cases e; simp [Value.ownBlock])) hgr6.size)
                clear hrw6 hgr6
                refine step_append_run (by rfl) (.tmp 34) (.tmp 38) 27 rfl _ _ _ rfl rfl hrun ?_
                refine hK.out _ _ ?_ (fun hH => ?_)
                · exact hk3
                clear hK K
                try simp only [pt]
                refine wpAnyH_ready (rs := [15]) (by kernel_rfl) (by simp) ?_
                refine rdH (fun K hK => ?_) ?_
                · obtain ⟨a2, c2, w8, hrun9, hrw8, hgr8, _⟩ := run_appB w6 27 wc.heap.size _ (ms) HROW1.out (some ⟨wc.heap.size + 1, 0, none⟩) 1 1 [mk] HONE.out (Nat.le_refl _) (fun e => by cases e) (by rw [HSZ.out]; have := HNN.out; omega) HW3.out.size
                  rw [HSZ.out] at hrun9 hrw8
                  have HW8 := Lib.hid (belB HROW1.out HW3.out hgr8 HW3.out.size)
                  have hk8 := HKS.out _ HW8.out
                  have HROW2 := Lib.hid hrw8
                  have ck8 : w8.cell? ⟨b, 1, none⟩ = some (Value.slice (some ⟨g2, off2, none⟩) n c') := (HQ.out.next HW8.out).c1
                  have fk8 := (HQ.out.next HW8.out).f0 1
                  clear hrw8 hgr8
                  refine step_append_run (by rfl) (.tmp 39) (.tmp 47) 27 rfl _ _ _ rfl rfl hrun9 ?_
                  refine hK.out _ _ ?_ (fun hH => ?_)
                  · exact hk8
                  clear hK K
                  try simp only [pt]
                  refine tkH 16 ?_ ?_ ?_
                  rotate_left
                  · intro w hSw
                    try dsimp only at hSw
                    go_simp
                    all_goals with_reducible rfl
                  try simp only [pt]
                  refine tkH 17 ?_ ?_ ?_
                  rotate_left
                  · intro w hSw
                    try dsimp only at hSw
                    go_simp
                    all_goals with_reducible rfl
                  try simp only [pt]
                  refine wpAnyH_ready (rs := [18]) (by kernel_rfl) (by simp) ?_
                  refine rdH (fun K hK => ?_) ?_
                  · go_simp
                    refine hK.out _ _ ?_ (fun hH => ?_)
                    · exact (HKT.out _ _ HW8.out)
                    clear hK K
                    try simp only [pt]
                    refine wpAnyH_done (by kernel_rfl) ?_ _
                    have HFIN := Lib.hid (bd_put1 HQ.out HW8.out (HROW2.out.lower (Nat.le_refl _)))
                    clear hrun hrun9
                    go_wp2_with fail
                    go_meet
                    case rel => exact ⟨_, HFIN.out.1, HFIN.out.2⟩
                  exact AllReadyH.nil
                exact AllReadyH.nil
              exact AllReadyH.nil
            exact AllReadyH.nil
          refine rdH (fun K hK => ?_) ?_
          · go_simp
            have HW1 : Hid (Below wc.heap.size wc (wc.drew.alloc (.cells #[.bool mk] 4))) := Lib.hid (Below.step HW0.out (.cells #[.bool mk] 4) (Below.refl _ _))
            have hk1 := HKS.out _ HW1.out
            have ck1 : (wc.alloc (.cells #[.bool mk] 4)).cell? ⟨b, 1, none⟩ = some (Value.slice (some ⟨g2, off2, none⟩) n c') := (HQ.out.next HW1.out).c1
            have HONE : Hid (BsAt (wc.drew.alloc (.cells #[.bool mk] 4)) (some ⟨wc.heap.size, 0, none⟩) 1 [mk]) := Lib.hid (by
              have := bsAt_one wc.drew mk
              rw [show wc.drew.heap.size = wc.heap.size by simp] at this
              exact this)
            refine hK.out _ _ ?_ (fun hH => ?_)
            · exact hk1
            clear hK K
            try simp only [pt]
            refine wpAnyH_ready (rs := [1]) (by kernel_rfl) (by simp) ?_
            refine rdH (fun K hK => ?_) ?_
            · go_simp
              have HW2 : Hid (Below wc.heap.size wc ((wc.drew.alloc (.cells #[.bool mk] 4)).alloc (.cells #[] 4))) := Lib.hid (Below.step HW1.out (.cells #[] 4) (Below.refl _ _))
              have hk2 := HKS.out _ HW2.out
              have ck2 : ((wc.alloc (.cells #[.bool mk] 4)).alloc (.cells #[] 4)).cell? ⟨b, 1, none⟩ = some (Value.slice (some ⟨g2, off2, none⟩) n c') := (HQ.out.next HW2.out).c1
              have HROW : Hid (RowB wc.heap.size ((wc.drew.alloc (.cells #[.bool mk] 4)).alloc (.cells #[] 4)) (.slice (some ⟨wc.heap.size + 1, 0, none⟩) 0 0) []) := Lib.hid (by
                have := (rowB_new (wc.drew.alloc (.cells #[.bool mk] 4))).lower (show wc.heap.size ≤ (wc.drew.alloc (.cells #[.bool mk] 4)).heap.size from HW1.out.size)
                rw [show (wc.drew.alloc (.cells #[.bool mk] 4)).heap.size = wc.heap.size + 1 by simp] at this
                exact this)
              have HONE := Lib.hid (bsAt_below (w' := ((wc.drew.alloc (.cells #[.bool mk] 4)).alloc (.cells #[] 4))) HONE.out (Joins.below_alloc1 _ _))
              refine hK.out _ _ ?_ (fun hH => ?_)
              · exact hk2
              clear hK K
              try simp only [pt]
              refine wpAnyH_ready (rs := [6]) (by kernel_rfl) (by simp) ?_
              refine rdH (fun K hK => ?_) ?_
              · obtain ⟨a1, c1', w6, hrun, hrw6, hgr6, _⟩ := run_appB ((wc.drew.alloc (.cells #[.bool mk] 4)).alloc (.cells #[] 4)) 27 wc.heap.size _ [] HROW.out (some ⟨g2, off2, none⟩) n c' (ms) (bsAt_below HX.out HW2.out) HC.out.1 HC.out.2 (by have := HNN.out; simp only [List.length_nil]; omega) HW2.out.size
                simp only [List.length_nil, Nat.zero_add, List.nil_append] at hrun hrw6
                have HW3 := Lib.hid (belB HROW.out HW2.out hgr6 HW2.out.size)
                have hk3 := HKS.out _ HW3.out
                have HROW1 := Lib.hid hrw6
                have ck3 : w6.cell? ⟨b, 1, none⟩ = some (Value.slice (some ⟨g2, off2, none⟩) n c') := (HQ.out.next HW3.out).c1
                have HONE := Lib.hid (bsAt_keep HONE.out (fun g off e => hgr6.block g (by cases e; first | (simp; done) | (simp; omega)) (by cases e; simp [Value.ownBlock])) hgr6.size)
                clear hrw6 hgr6
                refine step_append_run (by rfl) (.tmp 34) (.tmp 38) 27 rfl _ _ _ rfl rfl hrun ?_
                refine hK.out _ _ ?_ (fun hH => ?_)
                · exact hk3
                clear hK K
                try simp only [pt]
                refine wpAnyH_ready (rs := [15]) (by kernel_rfl) (by simp) ?_
                refine rdH (fun K hK => ?_) ?_
                · obtain ⟨a2, c2, w8, hrun9, hrw8, hgr8, _⟩ := run_appB w6 27 wc.heap.size _ (ms) HROW1.out (some ⟨wc.heap.size, 0, none⟩) 1 1 [mk] HONE.out (Nat.le_refl _) (fun e => by cases e) (by rw [HSZ.out]; have := HNN.out; omega) HW3.out.size
                  rw [HSZ.out] at hrun9 hrw8
                  have HW8 := Lib.hid (belB HROW1.out HW3.out hgr8 HW3.out.size)
                  have hk8 := HKS.out _ HW8.out
                  have HROW2 := Lib.hid hrw8
                  have ck8 : w8.cell? ⟨b, 1, none⟩ = some (Value.slice (some ⟨g2, off2, none⟩) n c') := (HQ.out.next HW8.out).c1
                  have fk8 := (HQ.out.next HW8.out).f0 1
                  clear hrw8 hgr8
                  refine step_append_run (by rfl) (.tmp 39) (.tmp 47) 27 rfl _ _ _ rfl rfl hrun9 ?_
                  refine hK.out _ _ ?_ (fun hH => ?_)
                  · exact hk8
                  clear hK K
                  try simp only [pt]
                  refine tkH 16 ?_ ?_ ?_
                  rotate_left
                  · intro w hSw
                    try dsimp only at hSw
                    go_simp
                    all_goals with_reducible rfl
                  try simp only [pt]
                  refine tkH 17 ?_ ?_ ?_
                  rotate_left
                  · intro w hSw
                    try dsimp only at hSw
                    go_simp
                    all_goals with_reducible rfl
                  try simp only [pt]
                  refine wpAnyH_ready (rs := [18]) (by kernel_rfl) (by simp) ?_
                  refine rdH (fun K hK => ?_) ?_
                  · go_simp
                    refine hK.out _ _ ?_ (fun hH => ?_)
                    · exact (HKT.out _ _ HW8.out)
                    clear hK K
                    try simp only [pt]
                    refine wpAnyH_done (by kernel_rfl) ?_ _
                    have HFIN := Lib.hid (bd_put1 HQ.out HW8.out (HROW2.out.lower (Nat.le_refl _)))
                    clear hrun hrun9
                    go_wp2_with fail
                    go_meet
                    case rel => exact ⟨_, HFIN.out.1, HFIN.out.2⟩
                  exact AllReadyH.nil
                exact AllReadyH.nil
              exact AllReadyH.nil
            exact AllReadyH.nil
          exact AllReadyH.nil
        exact AllReadyH.nil
      refine rdH (fun K hK => ?_) ?_
      · go_simp
        refine hK.out _ _ ?_ (fun hH => ?_)
        · exact hk0
        clear hK K
        try simp only [pt]
        refine tkH 12 ?_ ?_ ?_
        rotate_left
        · intro w hSw
          try dsimp only at hSw
          go_simp
          all_goals with_reducible rfl
        try simp only [pt]
        refine tkH 13 ?_ ?_ ?_
        rotate_left
        · intro w hSw
          try dsimp only at hSw
          go_simp
          all_goals with_reducible rfl
        try simp only [pt]
        refine wpAnyH_ready (rs := [1, 5, 14]) (by kernel_rfl) (by simp) ?_
        refine rdH (fun K hK => ?_) ?_
        · go_simp
          have HW1 : Hid (Below wc.heap.size wc (wc.drew.alloc (.cells #[] 4))) := Lib.hid (Below.step HW0.out (.cells #[] 4) (Below.refl _ _))
          have hk1 := HKS.out _ HW1.out
          have ck1 : (wc.alloc (.cells #[] 4)).cell? ⟨b, 1, none⟩ = some (Value.slice (some ⟨g2, off2, none⟩) n c') := (HQ.out.next HW1.out).c1
          have HROW : Hid (RowB wc.heap.size (wc.drew.alloc (.cells #[] 4)) (.slice (some ⟨wc.heap.size, 0, none⟩) 0 0) []) := Lib.hid (by
            have := (rowB_new wc.drew).lower (show wc.heap.size ≤ wc.drew.heap.size from HW0.out.size)
            rw [show wc.drew.heap.size = wc.heap.size by simp] at this
            exact this)
          refine hK.out _ _ ?_ (fun hH => ?_)
          · exact hk1
          clear hK K
          try simp only [pt]
          refine wpAnyH_ready (rs := [5, 14]) (by kernel_rfl) (by simp) ?_
          refine rdH (fun K hK => ?_) ?_
          · go_simp
            refine hK.out _ _ ?_ (fun hH => ?_)
            · exact hk1
            clear hK K
            try simp only [pt]
            refine wpAnyH_ready (rs := [6, 14]) (by kernel_rfl) (by simp) ?_
            refine rdH (fun K hK => ?_) ?_
            · obtain ⟨a1, c1', w6, hrun, hrw6, hgr6, _⟩ := run_appB (wc.drew.alloc (.cells #[] 4)) 27 wc.heap.size _ [] HROW.out (some ⟨g2, off2, none⟩) n c' (ms) (bsAt_below HX.out HW1.out) HC.out.1 HC.out.2 (by have := HNN.out; simp only [List.length_nil]; omega) HW1.out.size
              simp only [List.length_nil, Nat.zero_add, List.nil_append] at hrun hrw6
              have HW2 := Lib.hid (belB HROW.out HW1.out hgr6 HW1.out.size)
              have hk2 := HKS.out _ HW2.out
              have HROW1 := Lib.hid hrw6
              have ck2 : w6.cell? ⟨b, 1, none⟩ = some (Value.slice (some ⟨g2, off2, none⟩) n c') := (HQ.out.next HW2.out).c1
              clear hrw6 hgr6
              refine step_append_run (by rfl) (.tmp 34) (.tmp 38) 27 rfl _ _ _ rfl rfl hrun ?_
              refine hK.out _ _ ?_ (fun hH => ?_)
              · exact hk2
              clear hK K
              try simp only [pt]
              refine wpAnyH_ready (rs := [14]) (by kernel_rfl) (by simp) ?_
              refine rdH (fun K hK => ?_) ?_
              · go_simp
                have HW3 : Hid (Below wc.heap.size wc (w6.alloc (.cells #[.bool mk] 4))) := Lib.hid (Below.step HW2.out (.cells #[.bool mk] 4) (Below.refl _ _))
                have hk3 := HKS.out _ HW3.out
                have ck3 : (w6.alloc (.cells #[.bool mk] 4)).cell? ⟨b, 1, none⟩ = some (Value.slice (some ⟨g2, off2, none⟩) n c') := (HQ.out.next HW3.out).c1
                have HONE : Hid (BsAt (w6.alloc (.cells #[.bool mk] 4)) (some ⟨w6.heap.size, 0, none⟩) 1 [mk]) := Lib.hid (by
                  have := bsAt_one w6 mk
                  exact this)
                have HROW1 := Lib.hid (HROW1.out.alloc (.cells #[.bool mk] 4))
                refine hK.out _ _ ?_ (fun hH => ?_)
                · exact hk3
                clear hK K
                try simp only [pt]
                refine wpAnyH_ready (rs := [15]) (by kernel_rfl) (by simp) ?_
                refine rdH (fun K hK => ?_) ?_
                · obtain ⟨a2, c2, w8, hrun9, hrw8, hgr8, _⟩ := run_appB (w6.alloc (.cells #[.bool mk] 4)) 27 wc.heap.size _ (ms) HROW1.out (some ⟨w6.heap.size, 0, none⟩) 1 1 [mk] HONE.out (Nat.le_refl _) (fun e => by cases e) (by rw [HSZ.out]; have := HNN.out; omega) HW3.out.size
                  rw [HSZ.out] at hrun9 hrw8
                  have HW8 := Lib.hid (belB HROW1.out HW3.out hgr8 HW3.out.size)
                  have hk8 := HKS.out _ HW8.out
                  have HROW2 := Lib.hid hrw8
                  have ck8 : w8.cell? ⟨b, 1, none⟩ = some (Value.slice (some ⟨g2, off2, none⟩) n c') := (HQ.out.next HW8.out).c1
                  have fk8 := (HQ.out.next HW8.out).f0 1
                  clear hrw8 hgr8
                  refine step_append_run (by rfl) (.tmp 39) (.tmp 47) 27 rfl _ _ _ rfl rfl hrun9 ?_
                  refine hK.out _ _ ?_ (fun hH => ?_)
                  · exact hk8
                  clear hK K
                  try simp only [pt]
                  refine tkH 16 ?_ ?_ ?_
                  rotate_left
                  · intro w hSw
                    try dsimp only at hSw
                    go_simp
                    all_goals with_reducible rfl
                  try simp only [pt]
                  refine tkH 17 ?_ ?_ ?_
                  rotate_left
                  · intro w hSw
                    try dsimp only at hSw
                    go_simp
                    all_goals with_reducible rfl
                  try simp only [pt]
                  refine wpAnyH_ready (rs := [18]) (by kernel_rfl) (by simp) ?_
                  refine rdH (fun K hK => ?_) ?_
                  · go_simp
                    refine hK.out _ _ ?_ (fun hH => ?_)
                    · exact (HKT.out _ _ HW8.out)
                    clear hK K
                    try simp only [pt]
                    refine wpAnyH_done (by kernel_rfl) ?_ _
                    have HFIN := Lib.hid (bd_put1 HQ.out HW8.out (HROW2.out.lower (Nat.le_refl _)))
                    clear hrun hrun9
                    go_wp2_with fail
                    go_meet
                    case rel => exact ⟨_, HFIN.out.1, HFIN.out.2⟩
                  exact AllReadyH.nil
                exact AllReadyH.nil
              exact AllReadyH.nil
            refine rdH (fun K hK => ?_) ?_
            · go_simp
              have HW2 : Hid (Below wc.heap.size wc ((wc.drew.alloc (.cells #[] 4)).alloc (.cells #[.bool mk] 4))) := Lib.hid (Below.step HW1.out (.cells #[.bool mk] 4) (Below.refl _ _))
              have hk2 := HKS.out _ HW2.out
              have ck2 : ((wc.alloc (.cells #[] 4)).alloc (.cells #[.bool mk] 4)).cell? ⟨b, 1, none⟩ = some (Value.slice (some ⟨g2, off2, none⟩) n c') := (HQ.out.next HW2.out).c1
              have HONE : Hid (BsAt ((wc.drew.alloc (.cells #[] 4)).alloc (.cells #[.bool mk] 4)) (some ⟨wc.heap.size + 1, 0, none⟩) 1 [mk]) := Lib.hid (by
                have := bsAt_one (wc.drew.alloc (.cells #[] 4)) mk
                rw [show (wc.drew.alloc (.cells #[] 4)).heap.size = wc.heap.size + 1 by simp] at this
                exact this)
              have HROW := Lib.hid (HROW.out.alloc (.cells #[.bool mk] 4))
              refine hK.out _ _ ?_ (fun hH => ?_)
              · exact hk2
              clear hK K
              try simp only [pt]
              refine wpAnyH_ready (rs := [6]) (by kernel_rfl) (by simp) ?_
              refine rdH (fun K hK => ?_) ?_
              · obtain ⟨a1, c1', w6, hrun, hrw6, hgr6, _⟩ := run_appB ((wc.drew.alloc (.cells #[] 4)).alloc (.cells #[.bool mk] 4)) 27 wc.heap.size _ [] HROW.out (some ⟨g2, off2, none⟩) n c' (ms) (bsAt_below HX.out HW2.out) HC.out.1 HC.out.2 (by have := HNN.out; simp only [List.length_nil]; omega) HW2.out.size
                simp only [List.length_nil, Nat.zero_add, List.nil_append] at hrun hrw6
                have HW3 := Lib.hid (belB HROW.out HW2.out hgr6 HW2.out.size)
                have hk3 := HKS.out _ HW3.out
                have HROW1 := Lib.hid hrw6
                have ck3 : w6.cell? ⟨b, 1, none⟩ = some (Value.slice (some ⟨g2, off2, none⟩) n c') := (HQ.out.next HW3.out).c1
                have HONE := Lib.hid (bsAt_keep HONE.out (fun g off e => hgr6.block g (by cases e; first | (simp; done) | (simp; omega)) (by cases e; simp [Value.ownBlock])) hgr6.size)
                clear hrw6 hgr6
                refine step_append_run (by rfl) (.tmp 34) (.tmp 38) 27 rfl _ _ _ rfl rfl hrun ?_
                refine hK.out _ _ ?_ (fun hH => ?_)
                · exact hk3
                clear hK K
                try simp only [pt]
                refine wpAnyH_ready (rs := [15]) (by kernel_rfl) (by simp) ?_
                refine rdH (fun K hK => ?_) ?_
                · obtain ⟨a2, c2, w8, hrun9, hrw8, hgr8, _⟩ := run_appB w6 27 wc.heap.size _ (ms) HROW1.out (some ⟨wc.heap.size + 1, 0, none⟩) 1 1 [mk] HONE.out (Nat.le_refl _) (fun e => by cases e) (by rw [HSZ.out]; have := HNN.out; omega) HW3.out.size
                  rw [HSZ.out] at hrun9 hrw8
                  have HW8 := Lib.hid (belB HROW1.out HW3.out hgr8 HW3.out.size)
                  have hk8 := HKS.out _ HW8.out
                  have HROW2 := Lib.hid hrw8
                  have ck8 : w8.cell? ⟨b, 1, none⟩ = some (Value.slice (some ⟨g2, off2, none⟩) n c') := (HQ.out.next HW8.out).c1
                  have fk8 := (HQ.out.next HW8.out).f0 1
                  clear hrw8 hgr8
                  refine step_append_run (by rfl) (.tmp 39) (.tmp 47) 27 rfl _ _ _ rfl rfl hrun9 ?_
                  refine hK.out _ _ ?_ (fun hH => ?_)
                  · exact hk8
                  clear hK K
                  try simp only [pt]
                  refine tkH 16 ?_ ?_ ?_
                  rotate_left
                  · intro w hSw
                    try dsimp only at hSw
                    go_simp
                    all_goals with_reducible rfl
                  try simp only [pt]
                  refine tkH 17 ?_ ?_ ?_
                  rotate_left
                  · intro w hSw
                    try dsimp only at hSw
                    go_simp
                    all_goals with_reducible rfl
                  try simp only [pt]
                  refine wpAnyH_ready (rs := [18]) (by kernel_rfl) (by simp) ?_
                  refine rdH (fun K hK => ?_) ?_
                  · go_simp
                    refine hK.out _ _ ?_ (fun hH => ?_)
                    · exact (HKT.out _ _ HW8.out)
                    clear hK K
                    try simp only [pt]
                    refine wpAnyH_done (by kernel_rfl) ?_ _
                    have HFIN := Lib.hid (bd_put1 HQ.out HW8.out (HROW2.out.lower (Nat.le_refl _)))
                    clear hrun hrun9
                    go_wp2_with fail
                    go_meet
                    case rel => exact ⟨_, HFIN.out.1, HFIN.out.2⟩
                  exact AllReadyH.nil
                exact AllReadyH.nil
              exact AllReadyH.nil
            exact AllReadyH.nil
          refine rdH (fun K hK => ?_) ?_
          · go_simp
            have HW2 : Hid (Below wc.heap.size wc ((wc.drew.alloc (.cells #[] 4)).alloc (.cells #[.bool mk] 4))) := Lib.hid (Below.step HW1.out (.cells #[.bool mk] 4) (Below.refl _ _))
            have hk2 := HKS.out _ HW2.out
            have ck2 : ((wc.alloc (.cells #[] 4)).alloc (.cells #[.bool mk] 4)).cell? ⟨b, 1, none⟩ = some (Value.slice (some ⟨g2, off2, none⟩) n c') := (HQ.out.next HW2.out).c1
            have HONE : Hid (BsAt ((wc.drew.alloc (.cells #[] 4)).alloc (.cells #[.bool mk] 4)) (some ⟨wc.heap.size + 1, 0, none⟩) 1 [mk]) := Lib.hid (by
              have := bsAt_one (wc.drew.alloc (.cells #[] 4)) mk
              rw [show (wc.drew.alloc (.cells #[] 4)).heap.size = wc.heap.size + 1 by simp] at this
              exact this)
            have HROW := Lib.hid (HROW.out.alloc (.cells #[.bool mk] 4))
            refine hK.out _ _ ?_ (fun hH => ?_)
            · exact hk2
            clear hK K
            try simp only [pt]
            refine wpAnyH_ready (rs := [5]) (by kernel_rfl) (by simp) ?_
            refine rdH (fun K hK => ?_) ?_
            · go_simp
              refine hK.out _ _ ?_ (fun hH => ?_)
              · exact hk2
              clear hK K
              try simp only [pt]
              refine wpAnyH_ready (rs := [6]) (by kernel_rfl) (by simp) ?_
              refine rdH (fun K hK => ?_) ?_
              · obtain ⟨a1, c1', w6, hrun, hrw6, hgr6, _⟩ := run_appB ((wc.drew.alloc (.cells #[] 4)).alloc (.cells #[.bool mk] 4)) 27 wc.heap.size _ [] HROW.out (some ⟨g2, off2, none⟩) n c' (ms) (bsAt_below HX.out HW2.out) HC.out.1 HC.out.2 (by have := HNN.out; simp only [List.length_nil]; omega) HW2.out.size
                simp only [List.length_nil, Nat.zero_add, List.nil_append] at hrun hrw6
                have HW3 := Lib.hid (belB HROW.out HW2.out hgr6 HW2.out.size)
                have hk3 := HKS.out _ HW3.out
                have HROW1 := Lib.hid hrw6
                have ck3 : w6.cell? ⟨b, 1, none⟩ = some (Value.slice (some ⟨g2, off2, none⟩) n c') := (HQ.out.next HW3.out).c1
                have HONE := Lib.hid (bsAt_keep HONE.out (fun g off e => hgr6.block g (by cases e; first | (simp; done) | (simp; omega)) (by cases e; simp [Value.ownBlock])) hgr6.size)
                clear hrw6 hgr6
                refine step_append_run (by rfl) (.tmp 34) (.tmp 38) 27 rfl _ _ _ rfl rfl hrun ?_
                refine hK.out _ _ ?_ (fun hH => ?_)
                · exact hk3
                clear hK K
                try simp only [pt]
                refine wpAnyH_ready (rs := [15]) (by kernel_rfl) (by simp) ?_
                refine rdH (fun K hK => ?_) ?_
                · obtain ⟨a2, c2, w8, hrun9, hrw8, hgr8, _⟩ := run_appB w6 27 wc.heap.size _ (ms) HROW1.out (some ⟨wc.heap.size + 1, 0, none⟩) 1 1 [mk] HONE.out (Nat.le_refl _) (fun e => by cases e) (by rw [HSZ.out]; have := HNN.out; omega) HW3.out.size
                  rw [HSZ.out] at hrun9 hrw8
                  have HW8 := Lib.hid (belB HROW1.out HW3.out hgr8 HW3.out.size)
                  have hk8 := HKS.out _ HW8.out
                  have HROW2 := Lib.hid hrw8
                  have ck8 : w8.cell? ⟨b, 1, none⟩ = some (Value.slice (some ⟨g2, off2, none⟩) n c') := (HQ.out.next HW8.out).c1
                  have fk8 := (HQ.out.next HW8.out).f0 1
                  clear hrw8 hgr8
                  refine step_append_run (by rfl) (.tmp 39) (.tmp 47) 27 rfl _ _ _ rfl rfl hrun9 ?_
                  refine hK.out _ _ ?_ (fun hH => ?_)
                  · exact hk8
                  clear hK K
                  try simp only [pt]
                  refine tkH 16 ?_ ?_ ?_
                  rotate_left
                  · intro w hSw
                    try dsimp only at hSw
                    go_simp
                    all_goals with_reducible rfl
                  try simp only [pt]
                  refine tkH 17 ?_ ?_ ?_
                  rotate_left
                  · intro w hSw
                    try dsimp only at hSw
                    go_simp
                    all_goals with_reducible rfl
                  try simp only [pt]
                  refine wpAnyH_ready (rs := [18]) (by kernel_rfl) (by simp) ?_
                  refine rdH (fun K hK => ?_) ?_
                  · go_simp
                    refine hK.out _ _ ?_ (fun hH => ?_)
                    · exact (HKT.out _ _ HW8.out)
                    clear hK K
                    try simp only [pt]
                    refine wpAnyH_done (by kernel_rfl) ?_ _
                    have HFIN := Lib.hid (bd_put1 HQ.out HW8.out (HROW2.out.lower (Nat.le_refl _)))
                    clear hrun hrun9
                    go_wp2_with fail
                    go_meet
                    case rel => exact ⟨_, HFIN.out.1, HFIN.out.2⟩
                  exact AllReadyH.nil
                exact AllReadyH.nil
              exact AllReadyH.nil
            exact AllReadyH.nil
          exact AllReadyH.nil
        refine rdH (fun K hK => ?_) ?_
        · go_simp
          refine hK.out _ _ ?_ (fun hH => ?_)
          · exact hk0
          clear hK K
          try simp only [pt]
          refine wpAnyH_ready (rs := [1, 14]) (by kernel_rfl) (by simp) ?_
          refine rdH (fun K hK => ?_) ?_
          · go_simp
            have HW1 : Hid (Below wc.heap.size wc (wc.drew.alloc (.cells #[] 4))) := Lib.hid (Below.step HW0.out (.cells #[] 4) (Below.refl _ _))
            have hk1 := HKS.out _ HW1.out
            have ck1 : (wc.alloc (.cells #[] 4)).cell? ⟨b, 1, none⟩ = some (Value.slice (some ⟨g2, off2, none⟩) n c') := (HQ.out.next HW1.out).c1
            have HROW : Hid (RowB wc.heap.size (wc.drew.alloc (.cells #[] 4)) (.slice (some ⟨wc.heap.size, 0, none⟩) 0 0) []) := Lib.hid (by
              have := (rowB_new wc.drew).lower (show wc.heap.size ≤ wc.drew.heap.size from HW0.out.size)
              rw [show wc.drew.heap.size = wc.heap.size by simp] at this
              exact this)
            refine hK.out _ _ ?_ (fun hH => ?_)
            · exact hk1
            clear hK K
            try simp only [pt]
            refine wpAnyH_ready (rs := [6, 14]) (by kernel_rfl) (by simp) ?_
            refine rdH (fun K hK => ?_) ?_
            · obtain ⟨a1, c1', w6, hrun, hrw6, hgr6, _⟩ := run_appB (wc.drew.alloc (.cells #[] 4)) 27 wc.heap.size _ [] HROW.out (some ⟨g2, off2, none⟩) n c' (ms) (bsAt_below HX.out HW1.out) HC.out.1 HC.out.2 (by have := HNN.out; simp only [List.length_nil]; omega) HW1.out.size
              simp only [List.length_nil, Nat.zero_add, List.nil_append] at hrun hrw6
              have HW2 := Lib.hid (belB HROW.out HW1.out hgr6 HW1.out.size)
              have hk2 := HKS.out _ HW2.out
              have HROW1 := Lib.hid hrw6
              have ck2 : w6.cell? ⟨b, 1, none⟩ = some (Value.slice (some ⟨g2, off2, none⟩) n c') := (HQ.out.next HW2.out).c1
              clear hrw6 hgr6
              refine step_append_run (by rfl) (.tmp 34) (.tmp 38) 27 rfl _ _ _ rfl rfl hrun ?_
              refine hK.out _ _ ?_ (fun hH => ?_)
              · exact hk2
              clear hK K
              try simp only [pt]
              refine wpAnyH_ready (rs := [14]) (by kernel_rfl) (by simp) ?_
              refine rdH (fun K hK => ?_) ?_
              · go_simp
                have HW3 : Hid (Below wc.heap.size wc (w6.alloc (.cells #[.bool mk] 4))) := Lib.hid (Below.step HW2.out (.cells #[.bool mk] 4) (Below.refl _ _))
                have hk3 := HKS.out _ HW3.out
                have ck3 : (w6.alloc (.cells #[.bool mk] 4)).cell? ⟨b, 1, none⟩ = some (Value.slice (some ⟨g2, off2, none⟩) n c') := (HQ.out.next HW3.out).c1
                have HONE : Hid (BsAt (w6.alloc (.cells #[.bool mk] 4)) (some ⟨w6.heap.size, 0, none⟩) 1 [mk]) := Lib.hid (by
                  have := bsAt_one w6 mk
                  exact this)
                have HROW1 := Lib.hid (HROW1.out.alloc (.cells #[.bool mk] 4))
                refine hK.out _ _ ?_ (fun hH => ?_)
                · exact hk3
                clear hK K
                try simp only [pt]
                refine wpAnyH_ready (rs := [15]) (by kernel_rfl) (by simp) ?_
                refine rdH (fun K hK => ?_) ?_
                · obtain ⟨a2, c2, w8, hrun9, hrw8, hgr8, _⟩ := run_appB (w6.alloc (.cells #[.bool mk] 4)) 27 wc.heap.size _ (ms) HROW1.out (some ⟨w6.heap.size, 0, none⟩) 1 1 [mk] HONE.out (Nat.le_refl _) (fun e => by cases e) (by rw [HSZ.out]; have := HNN.out; omega) HW3.out.size
                  rw [HSZ.out] at hrun9 hrw8
                  have HW8 := Lib.hid (belB HROW1.out HW3.out hgr8 HW3.out.size)
                  have hk8 := HKS.out _ HW8.out
                  have HROW2 := Lib.hid hrw8
                  have ck8 : w8.cell? ⟨b, 1, none⟩ = some (Value.slice (some ⟨g2, off2, none⟩) n c') := (HQ.out.next HW8.out).c1
                  have fk8 := (HQ.out.next HW8.out).f0 1
                  clear hrw8 hgr8
                  refine step_append_run (by rfl) (.tmp 39) (.tmp 47) 27 rfl _ _ _ rfl rfl hrun9 ?_
                  refine hK.out _ _ ?_ (fun hH => ?_)
                  · exact hk8
                  clear hK K
                  try simp only [pt]
                  refine tkH 16 ?_ ?_ ?_
                  rotate_left
                  · intro w hSw
                    try dsimp only at hSw
                    go_simp
                    all_goals with_reducible rfl
                  try simp only [pt]
                  refine tkH 17 ?_ ?_ ?_
                  rotate_left
                  · intro w hSw
                    try dsimp only at hSw
                    go_simp
                    all_goals with_reducible rfl
                  try simp only [pt]
                  refine wpAnyH_ready (rs := [18]) (by kernel_rfl) (by simp) ?_
                  refine rdH (fun K hK => ?_) ?_
                  · go_simp
                    refine hK.out _ _ ?_ (fun hH => ?_)
                    · exact (HKT.out _ _ HW8.out)
                    clear hK K
                    try simp only [pt]
                    refine wpAnyH_done (by kernel_rfl) ?_ _
                    have HFIN := Lib.hid (bd_put1 HQ.out HW8.out (HROW2.out.lower (Nat.le_refl _)))
                    clear hrun hrun9
                    go_wp2_with fail
                    go_meet
                    case rel => exact ⟨_, HFIN.out.1, HFIN.out.2⟩
                  exact AllReadyH.nil
                exact AllReadyH.nil
              exact AllReadyH.nil
            refine rdH (fun K hK => ?_) ?_
            · go_simp
              have HW2 : Hid (Below wc.heap.size wc ((wc.drew.alloc (.cells #[] 4)).alloc (.cells #[.bool mk] 4))) := Lib.hid (Below.step HW1.out (.cells #[.bool mk] 4) (Below.refl _ _))
              have hk2 := HKS.out _ HW2.out
              have ck2 : ((wc.alloc (.cells #[] 4)).alloc (.cells #[.bool mk] 4)).cell? ⟨b, 1, none⟩ = some (Value.slice (some ⟨g2, off2, none⟩) n c') := (HQ.out.next HW2.out).c1
              have HONE : Hid (BsAt ((wc.drew.alloc (.cells #[] 4)).alloc (.cells #[.bool mk] 4)) (some ⟨wc.heap.size + 1, 0, none⟩) 1 [mk]) := Lib.hid (by
                have := bsAt_one (wc.drew.alloc (.cells #[] 4)) mk
                rw [show (wc.drew.alloc (.cells #[] 4)).heap.size = wc.heap.size + 1 by simp] at this
                exact this)
              have HROW := Lib.hid (HROW.out.alloc (.cells #[.bool mk] 4))
              refine hK.out _ _ ?_ (fun hH => ?_)
              · exact hk2
              clear hK K
              try simp only [pt]
              refine wpAnyH_ready (rs := [6]) (by kernel_rfl) (by simp) ?_
              refine rdH (fun K hK => ?_) ?_
              · obtain ⟨a1, c1', w6, hrun, hrw6, hgr6, _⟩ := run_appB ((wc.drew.alloc (.cells #[] 4)).alloc (.cells #[.bool mk] 4)) 27 wc.heap.size _ [] HROW.out (some ⟨g2, off2, none⟩) n c' (ms) (bsAt_below HX.out HW2.out) HC.out.1 HC.out.2 (by have := HNN.out; simp only [List.length_nil]; omega) HW2.out.size
                simp only [List.length_nil, Nat.zero_add, List.nil_append] at hrun hrw6
                have HW3 := Lib.hid (belB HROW.out HW2.out hgr6 HW2.out.size)
                have hk3 := HKS.out _ HW3.out
                have HROW1 := Lib.hid hrw6
                have ck3 : w6.cell? ⟨b, 1, none⟩ = some (Value.slice (some ⟨g2, off2, none⟩) n c') := (HQ.out.next HW3.out).c1
                have HONE := Lib.hid (bsAt_keep HONE.out (fun g off e => hgr6.block g (by cases e; first | (simp; done) | (simp; omega)) (by cases e; simp [Value.ownBlock])) hgr6.size)
                clear hrw6 hgr6
                refine step_append_run (by rfl) (.tmp 34) (.tmp 38) 27 rfl _ _ _ rfl rfl hrun ?_
                refine hK.out _ _ ?_ (fun hH => ?_)
                · exact hk3
                clear hK K
                try simp only [pt]
                refine wpAnyH_ready (rs := [15]) (by kernel_rfl) (by simp) ?_
                refine rdH (fun K hK => ?_) ?_
                · obtain ⟨a2, c2, w8, hrun9, hrw8, hgr8, _⟩ := run_appB w6 27 wc.heap.size _ (ms) HROW1.out (some ⟨wc.heap.size + 1, 0, none⟩) 1 1 [mk] HONE.out (Nat.le_refl _) (fun e => by cases e) (by rw [HSZ.out]; have := HNN.out; omega) HW3.out.size
                  rw [HSZ.out] at hrun9 hrw8
                  have HW8 := Lib.hid (belB HROW1.out HW3.out hgr8 HW3.out.size)
                  have hk8 := HKS.out _ HW8.out
                  have HROW2 := Lib.hid hrw8
                  have ck8 : w8.cell? ⟨b, 1, none⟩ = some (Value.slice (some ⟨g2, off2, none⟩) n c') := (HQ.out.next HW8.out).c1
                  have fk8 := (HQ.out.next HW8.out).f0 1
                  clear hrw8 hgr8
                  refine step_append_run (by rfl) (.tmp 39) (.tmp 47) 27 rfl _ _ _ rfl rfl hrun9 ?_
                  refine hK.out _ _ ?_ (fun hH => ?_)
                  · exact hk8
                  clear hK K
                  try simp only [pt]
                  refine tkH 16 ?_ ?_ ?_
                  rotate_left
                  · intro w hSw
                    try dsimp only at hSw
                    go_simp
                    all_goals with_reducible rfl
                  try simp only [pt]
                  refine tkH 17 ?_ ?_ ?_
                  rotate_left
                  · intro w hSw
                    try dsimp only at hSw
                    go_simp
                    all_goals with_reducible rfl
                  try simp only [pt]
                  refine wpAnyH_ready (rs := [18]) (by kernel_rfl) (by simp) ?_
                  refine rdH (fun K hK => ?_) ?_
                  · go_simp
                    refine hK.out _ _ ?_ (fun hH => ?_)
                    · exact (HKT.out _ _ HW8.out)
                    clear hK K
                    try simp only [pt]
                    refine wpAnyH_done (by kernel_rfl) ?_ _
                    have HFIN := Lib.hid (bd_put1 HQ.out HW8.out (HROW2.out.lower (Nat.le_refl _)))
                    clear hrun hrun9
                    go_wp2_with fail
                    go_meet
                    case rel => exact ⟨_, HFIN.out.1, HFIN.out.2⟩
                  exact AllReadyH.nil
                exact AllReadyH.nil
              exact AllReadyH.nil
            exact AllReadyH.nil
          refine rdH (fun K hK => ?_) ?_
          · go_simp
            have HW1 : Hid (Below wc.heap.size wc (wc.drew.alloc (.cells #[.bool mk] 4))) := Lib.hid (Below.step HW0.out (.cells #[.bool mk] 4) (Below.refl _ _))
            have hk1 := HKS.out _ HW1.out
            have ck1 : (wc.alloc (.cells #[.bool mk] 4)).cell? ⟨b, 1, none⟩ = some (Value.slice (some ⟨g2, off2, none⟩) n c') := (HQ.out.next HW1.out).c1
            have HONE : Hid (BsAt (wc.drew.alloc (.cells #[.bool mk] 4)) (some ⟨wc.heap.size, 0, none⟩) 1 [mk]) := Lib.hid (by
              have := bsAt_one wc.drew mk
              rw [show wc.drew.heap.size = wc.heap.size by simp] at this
              exact this)
            refine hK.out _ _ ?_ (fun hH => ?_)
            · exact hk1
            clear hK K
            try simp only [pt]
            refine wpAnyH_ready (rs := [1]) (by kernel_rfl) (by simp) ?_
            refine rdH (fun K hK => ?_) ?_
            · go_simp
              have HW2 : Hid (Below wc.heap.size wc ((wc.drew.alloc (.cells #[.bool mk] 4)).alloc (.cells #[] 4))) := Lib.hid (Below.step HW1.out (.cells #[] 4) (Below.refl _ _))
              have hk2 := HKS.out _ HW2.out
              have ck2 : ((wc.alloc (.cells #[.bool mk] 4)).alloc (.cells #[] 4)).cell? ⟨b, 1, none⟩ = some (Value.slice (some ⟨g2, off2, none⟩) n c') := (HQ.out.next HW2.out).c1
              have HROW : Hid (RowB wc.heap.size ((wc.drew.alloc (.cells #[.bool mk] 4)).alloc (.cells #[] 4)) (.slice (some ⟨wc.heap.size + 1, 0, none⟩) 0 0) []) := Lib.hid (by
                have := (rowB_new (wc.drew.alloc (.cells #[.bool mk] 4))).lower (show wc.heap.size ≤ (wc.drew.alloc (.cells #[.bool mk] 4)).heap.size from HW1.out.size)
                rw [show (wc.drew.alloc (.cells #[.bool mk] 4)).heap.size = wc.heap.size + 1 by simp] at this
                exact this)
              have HONE := Lib.hid (bsAt_below (w' := ((wc.drew.alloc (.cells #[.bool mk] 4)).alloc (.cells #[] 4))) HONE.out (Joins.below_alloc1 _ _))
              refine hK.out _ _ ?_ (fun hH => ?_)
              · exact hk2
              clear hK K
              try simp only [pt]
              refine wpAnyH_ready (rs := [6]) (by kernel_rfl) (by simp) ?_
              refine rdH (fun K hK => ?_) ?_
              · obtain ⟨a1, c1', w6, hrun, hrw6, hgr6, _⟩ := run_appB ((wc.drew.alloc (.cells #[.bool mk] 4)).alloc (.cells #[] 4)) 27 wc.heap.size _ [] HROW.out (some ⟨g2, off2, none⟩) n c' (ms) (bsAt_below HX.out HW2.out) HC.out.1 HC.out.2 (by have := HNN.out; simp only [List.length_nil]; omega) HW2.out.size
                simp only [List.length_nil, Nat.zero_add, List.nil_append] at hrun hrw6
                have HW3 := Lib.hid (belB HROW.out HW2.out hgr6 HW2.out.size)
                have hk3 := HKS.out _ HW3.out
                have HROW1 := Lib.hid hrw6
                have ck3 : w6.cell? ⟨b, 1, none⟩ = some (Value.slice (some ⟨g2, off2, none⟩) n c') := (HQ.out.next HW3.out).c1
                have HONE := Lib.hid (bsAt_keep HONE.out (fun g off e => hgr6.block g (by cases e; first | (simp; done) | (simp; omega)) (by cases e; simp [Value.ownBlock])) hgr6.size)
                clear hrw6 hgr6
                refine step_append_run (by rfl) (.tmp 34) (.tmp 38) 27 rfl _ _ _ rfl rfl hrun ?_
                refine hK.out _ _ ?_ (fun hH => ?_)
                · exact hk3
                clear hK K
                try simp only [pt]
                refine wpAnyH_ready (rs := [15]) (by kernel_rfl) (by simp) ?_
                refine rdH (fun K hK => ?_) ?_
                · obtain ⟨a2, c2, w8, hrun9, hrw8, hgr8, _⟩ := run_appB w6 27 wc.heap.size _ (ms) HROW1.out (some ⟨wc.heap.size, 0, none⟩) 1 1 [mk] HONE.out (Nat.le_refl _) (fun e => by cases e) (by rw [HSZ.out]; have := HNN.out; omega) HW3.out.size
                  rw [HSZ.out] at hrun9 hrw8
                  have HW8 := Lib.hid (belB HROW1.out HW3.out hgr8 HW3.out.size)
                  have hk8 := HKS.out _ HW8.out
                  have HROW2 := Lib.hid hrw8
                  have ck8 : w8.cell? ⟨b, 1, none⟩ = some (Value.slice (some ⟨g2, off2, none⟩) n c') := (HQ.out.next HW8.out).c1
                  have fk8 := (HQ.out.next HW8.out).f0 1
                  clear hrw8 hgr8
                  refine step_append_run (by rfl) (.tmp 39) (.tmp 47) 27 rfl _ _ _ rfl rfl hrun9 ?_
                  refine hK.out _ _ ?_ (fun hH => ?_)
                  · exact hk8
                  clear hK K
                  try simp only [pt]
                  refine tkH 16 ?_ ?_ ?_
                  rotate_left
                  · intro w hSw
                    try dsimp only at hSw
                    go_simp
                    all_goals with_reducible rfl
                  try simp only [pt]
                  refine tkH 17 ?_ ?_ ?_
                  rotate_left
                  · intro w hSw
                    try dsimp only at hSw
                    go_simp
                    all_goals with_reducible rfl
                  try simp only [pt]
                  refine wpAnyH_ready (rs := [18]) (by kernel_rfl) (by simp) ?_
                  refine rdH (fun K hK => ?_) ?_
                  · go_simp
                    refine hK.out _ _ ?_ (fun hH => ?_)
                    · exact (HKT.out _ _ HW8.out)
                    clear hK K
                    try simp only [pt]
                    refine wpAnyH_done (by kernel_rfl) ?_ _
                    have HFIN := Lib.hid (bd_put1 HQ.out HW8.out (HROW2.out.lower (Nat.le_refl _)))
                    clear hrun hrun9
                    go_wp2_with fail
                    go_meet
                    case rel => exact ⟨_, HFIN.out.1, HFIN.out.2⟩
                  exact AllReadyH.nil
                exact AllReadyH.nil
              exact AllReadyH.nil
            exact AllReadyH.nil
          exact AllReadyH.nil
        refine rdH (fun K hK => ?_) ?_
        · go_simp
          have HW1 : Hid (Below wc.heap.size wc (wc.drew.alloc (.cells #[.bool mk] 4))) := Lib.hid (Below.step HW0.out (.cells #[.bool mk] 4) (Below.refl _ _))
          have hk1 := HKS.out _ HW1.out
          have ck1 : (wc.alloc (.cells #[.bool mk] 4)).cell? ⟨b, 1, none⟩ = some (Value.slice (some ⟨g2, off2, none⟩) n c') := (HQ.out.next HW1.out).c1
          have HONE : Hid (BsAt (wc.drew.alloc (.cells #[.bool mk] 4)) (some ⟨wc.heap.size, 0, none⟩) 1 [mk]) := Lib.hid (by
            have := bsAt_one wc.drew mk
            rw [show wc.drew.heap.size = wc.heap.size by simp] at this
            exact this)
          refine hK.out _ _ ?_ (fun hH => ?_)
          · exact hk1
          clear hK K
          try simp only [pt]
          refine wpAnyH_ready (rs := [1, 5]) (by kernel_rfl) (by simp) ?_
          refine rdH (fun K hK => ?_) ?_
          · go_simp
            have HW2 : Hid (Below wc.heap.size wc ((wc.drew.alloc (.cells #[.bool mk] 4)).alloc (.cells #[] 4))) := Lib.hid (Below.step HW1.out (.cells #[] 4) (Below.refl _ _))
            have hk2 := HKS.out _ HW2.out
            have ck2 : ((wc.alloc (.cells #[.bool mk] 4)).alloc (.cells #[] 4)).cell? ⟨b, 1, none⟩ = some (Value.slice (some ⟨g2, off2, none⟩) n c') := (HQ.out.next HW2.out).c1
            have HROW : Hid (RowB wc.heap.size ((wc.drew.alloc (.cells #[.bool mk] 4)).alloc (.cells #[] 4)) (.slice (some ⟨wc.heap.size + 1, 0, none⟩) 0 0) []) := Lib.hid (by
              have := (rowB_new (wc.drew.alloc (.cells #[.bool mk] 4))).lower (show wc.heap.size ≤ (wc.drew.alloc (.cells #[.bool mk] 4)).heap.size from HW1.out.size)
              rw [show (wc.drew.alloc (.cells #[.bool mk] 4)).heap.size = wc.heap.size + 1 by simp] at this
              exact this)
            have HONE := Lib.hid (bsAt_below (w' := ((wc.drew.alloc (.cells #[.bool mk] 4)).alloc (.cells #[] 4))) HONE.out (Joins.below_alloc1 _ _))
            refine hK.out _ _ ?_ (fun hH => ?_)
            · exact hk2
            clear hK K
            try simp only [pt]
            refine wpAnyH_ready (rs := [5]) (by kernel_rfl) (by simp) ?_
            refine rdH (fun K hK => ?_) ?_
            · go_simp
              refine hK.out _ _ ?_ (fun hH => ?_)
              · exact hk2
              clear hK K
              try simp only [pt]
              refine wpAnyH_ready (rs := [6]) (by kernel_rfl) (by simp) ?_
              refine rdH (fun K hK => ?_) ?_
              · obtain ⟨a1, c1', w6, hrun, hrw6, hgr6, _⟩ := run_appB ((wc.drew.alloc (.cells #[.bool mk] 4)).alloc (.cells #[] 4)) 27 wc.heap.size _ [] HROW.out (some ⟨g2, off2, none⟩) n c' (ms) (bsAt_below HX.out HW2.out) HC.out.1 HC.out.2 (by have := HNN.out; simp only [List.length_nil]; omega) HW2.out.size
                simp only [List.length_nil, Nat.zero_add, List.nil_append] at hrun hrw6
                have HW3 := Lib.hid (belB HROW.out HW2.out hgr6 HW2.out.size)
                have hk3 := HKS.out _ HW3.out
                have HROW1 := Lib.hid hrw6
                have ck3 : w6.cell? ⟨b, 1, none⟩ = some (Value.slice (some ⟨g2, off2, none⟩) n c') := (HQ.out.next HW3.out).c1
                have HONE := Lib.hid (bsAt_keep HONE.out (fun g off e => hgr6.block g (by cases e; first | (simp; done) | (simp; omega)) (by cases e; simp [Value.ownBlock])) hgr6.size)
                clear hrw6 hgr6
                refine step_append_run (by rfl) (.tmp 34) (.tmp 38) 27 rfl _ _ _ rfl rfl hrun ?_
                refine hK.out _ _ ?_ (fun hH => ?_)
                · exact hk3
                clear hK K
                try simp only [pt]
                refine wpAnyH_ready (rs := [15]) (by kernel_rfl) (by simp) ?_
                refine rdH (fun K hK => ?_) ?_
                · obtain ⟨a2, c2, w8, hrun9, hrw8, hgr8, _⟩ := run_appB w6 27 wc.heap.size _ (ms) HROW1.out (some ⟨wc.heap.size, 0, none⟩) 1 1 [mk] HONE.out (Nat.le_refl _) (fun e => by cases e) (by rw [HSZ.out]; have := HNN.out; omega) HW3.out.size
                  rw [HSZ.out] at hrun9 hrw8
                  have HW8 := Lib.hid (belB HROW1.out HW3.out hgr8 HW3.out.size)
                  have hk8 := HKS.out _ HW8.out
                  have HROW2 := Lib.hid hrw8
                  have ck8 : w8.cell? ⟨b, 1, none⟩ = some (Value.slice (some ⟨g2, off2, none⟩) n c') := (HQ.out.next HW8.out).c1
                  have fk8 := (HQ.out.next HW8.out).f0 1
                  clear hrw8 hgr8
                  refine step_append_run (by rfl) (.tmp 39) (.tmp 47) 27 rfl _ _ _ rfl rfl hrun9 ?_
                  refine hK.out _ _ ?_ (fun hH => ?_)
                  · exact hk8
                  clear hK K
                  try simp only [pt]
                  refine tkH 16 ?_ ?_ ?_
                  rotate_left
                  · intro w hSw
                    try dsimp only at hSw
                    go_simp
                    all_goals with_reducible rfl
                  try simp only [pt]
                  refine tkH 17 ?_ ?_ ?_
                  rotate_left
                  · intro w hSw
                    try dsimp only at hSw
                    go_simp
                    all_goals with_reducible rfl
                  try simp only [pt]
                  refine wpAnyH_ready (rs := [18]) (by kernel_rfl) (by simp) ?_
                  refine rdH (fun K hK => ?_) ?_
                  · go_simp
                    refine hK.out _ _ ?_ (fun hH => ?_)
                    · exact (HKT.out _ _ HW8.out)
                    clear hK K
                    try simp only [pt]
                    refine wpAnyH_done (by kernel_rfl) ?_ _
                    have HFIN := Lib.hid (bd_put1 HQ.out HW8.out (HROW2.out.lower (Nat.le_refl _)))
                    clear hrun hrun9
                    go_wp2_with fail
                    go_meet
                    case rel => exact ⟨_, HFIN.out.1, HFIN.out.2⟩
                  exact AllReadyH.nil
                exact AllReadyH.nil
              exact AllReadyH.nil
            exact AllReadyH.nil
          refine rdH (fun K hK => ?_) ?_
          · go_simp
            refine hK.out _ _ ?_ (fun hH => ?_)
            · exact hk1
            clear hK K
            try simp only [pt]
            refine wpAnyH_ready (rs := [1]) (by kernel_rfl) (by simp) ?_
            refine rdH (fun K hK => ?_) ?_
            · go_simp
              have HW2 : Hid (Below wc.heap.size wc ((wc.drew.alloc (.cells #[.bool mk] 4)).alloc (.cells #[] 4))) := Lib.hid (Below.step HW1.out (.cells #[] 4) (Below.refl _ _))
              have hk2 := HKS.out _ HW2.out
              have ck2 : ((wc.alloc (.cells #[.bool mk] 4)).alloc (.cells #[] 4)).cell? ⟨b, 1, none⟩ = some (Value.slice (some ⟨g2, off2, none⟩) n c') := (HQ.out.next HW2.out).c1
              have HROW : Hid (RowB wc.heap.size ((wc.drew.alloc (.cells #[.bool mk] 4)).alloc (.cells #[] 4)) (.slice (some ⟨wc.heap.size + 1, 0, none⟩) 0 0) []) := Lib.hid (by
                have := (rowB_new (wc.drew.alloc (.cells #[.bool mk] 4))).lower (show wc.heap.size ≤ (wc.drew.alloc (.cells #[.bool mk] 4)).heap.size from HW1.out.size)
                rw [show (wc.drew.alloc (.cells #[.bool mk] 4)).heap.size = wc.heap.size + 1 by simp] at this
                exact this)
              have HONE := Lib.hid (bsAt_below (w' := ((wc.drew.alloc (.cells #[.bool mk] 4)).alloc (.cells #[] 4))) HONE.out (Joins.below_alloc1 _ _))
              refine hK.out _ _ ?_ (fun hH => ?_)
              · exact hk2
              clear hK K
              try simp only [pt]
              refine wpAnyH_ready (rs := [6]) (by kernel_rfl) (by simp) ?_
              refine rdH (fun K hK => ?_) ?_
              · obtain ⟨a1, c1', w6, hrun, hrw6, hgr6, _⟩ := run_appB ((wc.drew.alloc (.cells #[.bool mk] 4)).alloc (.cells #[] 4)) 27 wc.heap.size _ [] HROW.out (some ⟨g2, off2, none⟩) n c' (ms) (bsAt_below HX.out HW2.out) HC.out.1 HC.out.2 (by have := HNN.out; simp only [List.length_nil]; omega) HW2.out.size
                simp only [List.length_nil, Nat.zero_add, List.nil_append] at hrun hrw6
                have HW3 := Lib.hid (belB HROW.out HW2.out hgr6 HW2.out.size)
                have hk3 := HKS.out _ HW3.out
                have HROW1 := Lib.hid hrw6
                have ck3 : w6.cell? ⟨b, 1, none⟩ = some (Value.slice (some ⟨g2, off2, none⟩) n c') := (HQ.out.next HW3.out).c1
                have HONE := Lib.hid (bsAt_keep HONE.out (fun g off e => hgr6.block g (by cases e; first | (simp; done) | (simp; omega)) (by cases e; simp [Value.ownBlock])) hgr6.size)
                clear hrw6 hgr6
                refine step_append_run (by rfl) (.tmp 34) (.tmp 38) 27 rfl _ _ _ rfl rfl hrun ?_
                refine hK.out _ _ ?_ (fun hH => ?_)
                · exact hk3
                clear hK K
                try simp only [pt]
                refine wpAnyH_ready (rs := [15]) (by kernel_rfl) (by simp) ?_
                refine rdH (fun K hK => ?_) ?_
                · obtain ⟨a2, c2, w8, hrun9, hrw8, hgr8, _⟩ := run_appB w6 27 wc.heap.size _ (ms) HROW1.out (some ⟨wc.heap.size, 0, none⟩) 1 1 [mk] HONE.out (Nat.le_refl _) (fun e => by cases e) (by rw [HSZ.out]; have := HNN.out; omega) HW3.out.size
                  rw [HSZ.out] at hrun9 hrw8
                  have HW8 := Lib.hid (belB HROW1.out HW3.out hgr8 HW3.out.size)
                  have hk8 := HKS.out _ HW8.out
                  have HROW2 := Lib.hid hrw8
                  have ck8 : w8.cell? ⟨b, 1, none⟩ = some (Value.slice (some ⟨g2, off2, none⟩) n c') := (HQ.out.next HW8.out).c1
                  have fk8 := (HQ.out.next HW8.out).f0 1
                  clear hrw8 hgr8
                  refine step_append_run (by rfl) (.tmp 39) (.tmp 47) 27 rfl _ _ _ rfl rfl hrun9 ?_
                  refine hK.out _ _ ?_ (fun hH => ?_)
                  · exact hk8
                  clear hK K
                  try simp only [pt]
                  refine tkH 16 ?_ ?_ ?_
                  rotate_left
                  · intro w hSw
                    try dsimp only at hSw
                    go_simp
                    all_goals with_reducible rfl
                  try simp only [pt]
                  refine tkH 17 ?_ ?_ ?_
                  rotate_left
                  · intro w hSw
                    try dsimp only at hSw
                    go_simp
                    all_goals with_reducible rfl
                  try simp only [pt]
                  refine wpAnyH_ready (rs := [18]) (by kernel_rfl) (by simp) ?_
                  refine rdH (fun K hK => ?_) ?_
                  · go_simp
                    refine hK.out _ _ ?_ (fun hH => ?_)
                    · exact (HKT.out _ _ HW8.out)
                    clear hK K
                    try simp only [pt]
                    refine wpAnyH_done (by kernel_rfl) ?_ _
                    have HFIN := Lib.hid (bd_put1 HQ.out HW8.out (HROW2.out.lower (Nat.le_refl _)))
                    clear hrun hrun9
                    go_wp2_with fail
                    go_meet
                    case rel => exact ⟨_, HFIN.out.1, HFIN.out.2⟩
                  exact AllReadyH.nil
                exact AllReadyH.nil
              exact AllReadyH.nil
            exact AllReadyH.nil
          exact AllReadyH.nil
        exact AllReadyH.nil
      exact AllReadyH.nil
    case rest =>
      obtain ⟨u2, hq, hg⟩ := hcut
      have HFIN := Lib.hid hq
      have HGF := Lib.hid (World.grownBy.trans HG1.out hg)
      clear hq hg hk0 ck0 HKS HKT HX HC HW0 HQ
      go_wp2
      go_ret
      exact ⟨rfl, ⟨_, _, HFIN.out⟩, HGF.out⟩
end
end Go.Proofs.Ytjnjpphbclepbaa
