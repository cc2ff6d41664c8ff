/- The document's Take, Twice. -/
import Derived.Test.YtjnjpphbclepbaaRH
import Derived.Test.YtjnjpphbclepbaaH9
namespace Go.Proofs.Ytjnjpphbclepbaa
open Go Go.RowKit
set_option maxRecDepth 20000
section
variable {B b : Nat} {v u : Value} {ps : List Pkt} {ms : List Bool}
theorem Bd.set1 {w : World} (h : Bd B w b v u ps ms) {r i : Nat} (h1 : b ≠ r) (h2 : v.ownBlock ≠ some r) (h3 : u.ownBlock ≠ some r) (x : Value) : Bd B (w.setCell ⟨r, i, none⟩ x) b v u ps ms :=
  h.same (Below.heap_setCell _ _ _ _ h1) (fun j hj => Below.heap_setCell _ _ _ _ (fun e => h2 (by rw [hj, e]))) (fun j hj => Below.heap_setCell _ _ _ _ (fun e => h3 (by rw [hj, e])))
theorem Bd.set3 {w : World} (h : Bd B w b v u ps ms) {r : Nat} (h1 : b ≠ r) (h2 : v.ownBlock ≠ some r) (h3 : u.ownBlock ≠ some r) (x0 x1 x2 : Value) : Bd B (((w.setCell ⟨r, 0, none⟩ x0).setCell ⟨r, 1, none⟩ x1).setCell ⟨r, 2, none⟩ x2) b v u ps ms :=
  ((h.set1 h1 h2 h3 x0).set1 h1 h2 h3 x1).set1 h1 h2 h3 x2
theorem grown_setNew {w w' : World} {row : Option Nat} (h : w.grownBy w' row) {r i : Nat} (hr : w.heap.size ≤ r) (x : Value) : w.grownBy (w'.setCell ⟨r, i, none⟩ x) row :=
  ⟨h.os, h.tape, h.output, by simpa [World.setCell] using h.size, fun j hj hne => (Below.heap_setCell _ _ _ _ (show j ≠ r by omega)).trans (h.block j hj hne)⟩
theorem grown_set3 {w w' : World} {row : Option Nat} (h : w.grownBy w' row) {r : Nat} (hr : w.heap.size ≤ r) (x0 x1 x2 : Value) : w.grownBy (((w'.setCell ⟨r, 0, none⟩ x0).setCell ⟨r, 1, none⟩ x1).setCell ⟨r, 2, none⟩ x2) row :=
  grown_setNew (grown_setNew (grown_setNew h hr x0) hr x1) hr x2
set_option maxHeartbeats 1600000 in
theorem dtake_out (i : Int) (hi : ¬ (0 ≤ i ∧ i < (ps.length : Int))) (w : World) (h : Bd B w b v u ps ms) : Calls Try.prog 21 #[.pointer (some ⟨b, 0, none⟩), .int .i64 i] w fun x w' => x = .returned (.tuple #[pv pk0, .bool false]) ∧ Below w.heap.size w w' := by
  have HH := fun W hW => Lib.hid (there_any (B := B) (b := b) (v := v) (u := u) (ps := ps) (ms := ms) i false (by simpa using hi) W hW)
  have HK := fun o => Lib.hid (h.next (Joins.below_alloc1 w o))
  clear h hi
  go_enter Try.func21, Try.ntmps21
  go_wp2_with fail
  refine (HH _ (HK _).out).out.mono ?_
  rintro e w1 ⟨rfl, rfl⟩
  have HB := Lib.hid (Joins.below_alloc1 w (.cells #[.int .i64 0, .int .i64 0, .string ⟨#[]⟩] 39))
  clear HH HK
  go_wp2
  refine bodyPost_ret (v := .tuple #[.agg #[.int .i64 0, .int .i64 0, .string ⟨#[]⟩], .bool false]) (by simp [results, Try.results21, go_sem]) rfl ⟨rfl, ?_⟩
  exact HB.out
set_option maxHeartbeats 16000000 in
theorem dtake_in (k : Nat) (hk : k < ps.length) (hms : ms.length = ps.length) (hlen : ps.length ≤ 4096) (w : World) (h : Bd B w b v u ps ms) : Calls Try.prog 21 #[.pointer (some ⟨b, 0, none⟩), .int .i64 (k : Int)] w fun x w' => x = .returned (.tuple #[pv (ps.getD k pk0), .bool true]) ∧ (∃ v' u', Bd B w' b v' u' (ps.eraseIdx k) (ms.eraseIdx k)) ∧ w.grownBy w' (some b) := by
  have HH := fun W hW => Lib.hid (there_any (B := B) (b := b) (v := v) (u := u) (ps := ps) (ms := ms) (k : Int) true (by simp; omega) W hW)
  have HKK := fun o => Lib.hid (h.next (Joins.below_alloc1 w o))
  have HBD := Lib.hid h
  obtain ⟨⟨pf, pt, pd⟩, hp⟩ : ∃ p, ps.getD k pk0 = p := ⟨_, rfl⟩
  rw [hp]
  have HP := Lib.hid hp
  unfold pv
  simp only
  obtain ⟨n, hn⟩ : ∃ n, ps.length = n := ⟨_, rfl⟩
  rw [hn] at hk hms hlen
  have HN0 := Lib.hid hn
  have HN1 := Lib.hid hms
  have hwr : IntKind.i64.wrap ((k : Int) + 1) = (k : Int) + 1 := i64_id (by omega) (by omega)
  clear h hp hn hms
  go_enter Try.func21, Try.ntmps21
  go_wp2_with fail
  refine (HH _ (HKK _).out).out.mono ?_
  rintro e w1 ⟨rfl, hw⟩
  have hq1 : Bd B w1 b v u ps ms := hw ▸ (HKK _).out
  have hz1 : w1.heap[w.heap.size]? = some (.cells #[.int .i64 0, .int .i64 0, .string ⟨#[]⟩] 39 (0, 0)) := hw ▸ new_at rfl
  have hb1 : Below w.heap.size w w1 := hw ▸ Joins.below_alloc1 w _
  clear hw HH HKK
  obtain ⟨a, c, rfl, hx1, _⟩ := hq1.row.is
  obtain ⟨g, off, rfl, _, hf⟩ := hx1.lies (by rw [HN0.out]; omega)
  have hfk := hf k (by rw [HN0.out]; exact hk)
  rw [HP.out] at hfk
  have x0 := hfk.fr
  have x1 := hfk.to
  have x2 := hfk.d
  simp only at x0 x1 x2
  rw [HN0.out] at hq1
  have c0 := hq1.c0
  have HB2 : Hid (Below w.heap.size w (w1.alloc (.cells #[.int .i64 pf, .int .i64 pt, .string pd] 39))) := Lib.hid (hb1.alloc hb1.size _)
  have hqq := hq1.next (Joins.below_alloc1 w1 (.cells #[.int .i64 pf, .int .i64 pt, .string pd] 39))
  have HQ := Lib.hid hqq
  have HZ : Hid ((w1.alloc (.cells #[.int .i64 pf, .int .i64 pt, .string pd] 39)).heap[w.heap.size]? = some (.cells #[.int .i64 0, .int .i64 0, .string ⟨#[]⟩] 39 (0, 0))) := Lib.hid (old_at hz1)
  have HPB : Hid ((w1.alloc (.cells #[.int .i64 pf, .int .i64 pt, .string pd] 39)).heap[w1.heap.size]? = some (.cells #[.int .i64 pf, .int .i64 pt, .string pd] 39 (0, 0))) := Lib.hid (new_at rfl)
  have HNZ : Hid (w.heap.size ≠ b) := Lib.hid (by have := HBD.out.lt; omega)
  have HNP : Hid (w1.heap.size ≠ b) := Lib.hid (by have := HBD.out.lt; have := hb1.size; omega)
  clear hf hfk hx1 hq1 hz1 hqq
  go_upto_region 4 with fail
  generalize w1.alloc (.cells #[.int .i64 pf, .int .i64 pt, .string pd] 39) = w0 at *
  obtain ⟨a, ha⟩ : ∃ a, (some (⟨g, off, none⟩ : Addr)) = a := ⟨_, rfl⟩
  rw [ha] at HQ ⊢
  clear x0 x1 x2 c0 ha
  have hx0 := HQ.out.row.isP (show n = ps.length from HN0.out.symm)
  have HX : Hid (PsAt w0 a k (ps.take k)) := Lib.hid (hx0.1.take (Nat.le_of_lt hk))
  have HC : Hid (k ≤ c ∧ (a = none → c = 0)) := Lib.hid ⟨Nat.le_trans (Nat.le_of_lt hk) hx0.2.1, hx0.2.2⟩
  obtain ⟨A2, m, C2, hm, hsl2, hx2, hc2⟩ : ∃ A2 m C2, m = n - (k + 1) ∧ (∀ w, (Instr.sliceAt 26 (.slice a n c) (some (.int .i64 ((k : Int) + 1))) none none).run Try.prog w = .ok (.slice A2 m C2) w) ∧ PsAt w0 A2 m (ps.drop (k + 1)) ∧ (m ≤ C2 ∧ (A2 = none → C2 = 0)) := by
    refine ⟨_, _, _, rfl, fun w => ?_, hx0.1.back hx0.2.1 hk, ⟨by have := hx0.2.1; omega, back_noneP hx0.2.2⟩⟩
    have := slP_back a n c (k + 1) hk w
    rw [show ((k + 1 : Nat) : Int) = (k : Int) + 1 by omega] at this
    exact this
  have hsl1 : ∀ w, (Instr.sliceAt 26 (.slice a n c) none (some (.int .i64 (k : Int))) none).run Try.prog w = .ok (.slice a k c) w := slP_front a n c k HC.out.1
  have HX2 := Lib.hid hx2
  have HC2 := Lib.hid hc2
  have HNN : Hid (n ≤ 10000 ∧ k ≤ 10000 ∧ m ≤ 10000) := Lib.hid (by omega)
  have HSZ : Hid ((ps.take k).length = k) := Lib.hid (by rw [List.length_take, HN0.out]; omega)
  have HEQ : Hid (ps.take k ++ ps.drop (k + 1) = ps.eraseIdx k) := Lib.hid (List.eraseIdx_eq_take_drop_succ _ _).symm
  have HKS : Hid (∀ W, Below w0.heap.size w0 W → 0 ≤ W.heap.size) := Lib.hid fun W _ => Nat.zero_le _
  have HKT : Hid (∀ W z, Below w0.heap.size w0 W → 0 ≤ (W.setCell ⟨b, 0, none⟩ z).heap.size) := Lib.hid fun W z _ => Nat.zero_le _
  have HW0 : Hid (Below w0.heap.size w0 w0.drew) := Lib.hid (Below.refl w0.heap.size w0).drew
  have hk0 := HKS.out _ HW0.out
  have ck0 := HQ.out.c0
  clear hx0 hm hx2 hc2
  go_upto_region 4 with fail
  go_cut [] from 19 to 37 (fun wx => ∃ v2 u2, Bd B wx b v2 u2 (ps.eraseIdx k) (ms) ∧ w0.grownBy wx (some b) ∧ ∀ j, v2.ownBlock = some j → w0.heap.size ≤ j)
  case first =>
    go_wp2_with fail
    refine wp_region_held_drew (S := fun w' => 0 ≤ w'.heap.size) (by kernel_rfl) ?_ (fun hH => ?_)
    · exact hk0
    refine tkH 0 ?_ ?_ ?_
    rotate_left
    · intro w hSw
      try dsimp only at hSw
      go_simp
      all_goals with_reducible rfl
    try simp only [pt]
    refine tkH 2 ?_ ?_ ?_
    rotate_left
    · intro w hSw
      try dsimp only at hSw
      go_simp
      all_goals with_reducible rfl
    try simp only [pt]
    refine tkH 3 ?_ ?_ ?_
    rotate_left
    · intro w hSw
      try dsimp only at hSw
      go_simp
      all_goals with_reducible rfl
    try simp only [pt]
    refine tkH 4 ?_ ?_ ?_
    rotate_left
    · intro w hSw
      try dsimp only at hSw
      go_simp
      all_goals with_reducible rfl
    try simp only [pt]
    refine tkH 6 ?_ ?_ ?_
    rotate_left
    · intro w hSw
      try dsimp only at hSw
      go_simp
      all_goals with_reducible rfl
    try simp only [pt]
    refine tkH 9 ?_ ?_ ?_
    rotate_left
    · intro w hSw
      try dsimp only at hSw
      go_simp
      all_goals with_reducible rfl
    try simp only [pt]
    refine tkH 10 ?_ ?_ ?_
    rotate_left
    · intro w hSw
      try dsimp only at hSw
      go_simp
      all_goals with_reducible rfl
    try simp only [pt]
    refine tkH 11 ?_ ?_ ?_
    rotate_left
    · intro w hSw
      try dsimp only at hSw
      go_simp
      all_goals with_reducible rfl
    try simp only [pt]
    refine tkH 13 ?_ ?_ ?_
    rotate_left
    · intro w hSw
      try dsimp only at hSw
      go_simp
      all_goals with_reducible rfl
    try simp only [pt]
    refine tkH 14 ?_ ?_ ?_
    rotate_left
    · intro w hSw
      try dsimp only at hSw
      go_simp
      all_goals with_reducible rfl
    try simp only [pt]
    refine wpAnyH_ready (rs := [1, 5, 12]) (by kernel_rfl) (by simp) ?_
    refine rdH (fun K hK => ?_) ?_
    · go_simp
      have HW1 : Hid (Below w0.heap.size w0 (w0.drew.alloc (.cells #[] 39))) := Lib.hid (Below.step HW0.out (.cells #[] 39) (Below.refl _ _))
      have hk1 := HKS.out _ HW1.out
      have ck1 : (w0.alloc (.cells #[] 39)).cell? ⟨b, 0, none⟩ = some (Value.slice a n c) := (HQ.out.next HW1.out).c0
      have HROW : Hid (RowP w0.heap.size (w0.drew.alloc (.cells #[] 39)) (.slice (some ⟨w0.heap.size, 0, none⟩) 0 0) []) := Lib.hid (by
        have := (rowP_new w0.drew).lower (show w0.heap.size ≤ w0.drew.heap.size from HW0.out.size)
        rw [show w0.drew.heap.size = w0.heap.size by simp] at this
        exact this)
      refine hK.out _ _ ?_ (fun hH => ?_)
      · exact hk1
      clear hK K
      try simp only [pt]
      refine wpAnyH_ready (rs := [5, 12]) (by kernel_rfl) (by simp) ?_
      refine rdH (fun K hK => ?_) ?_
      · go_simp
        refine hK.out _ _ ?_ (fun hH => ?_)
        · exact hk1
        clear hK K
        try simp only [pt]
        refine tkH 7 ?_ ?_ ?_
        rotate_left
        · intro w hSw
          try dsimp only at hSw
          go_simp
          all_goals with_reducible rfl
        try simp only [pt]
        refine wpAnyH_ready (rs := [8, 12]) (by kernel_rfl) (by simp) ?_
        refine rdH (fun K hK => ?_) ?_
        · obtain ⟨a1, c1', w6, hrun, hrw6, hgr6, _⟩ := run_appP (w0.drew.alloc (.cells #[] 39)) 26 w0.heap.size _ [] HROW.out a k c (ps.take k) (psAt_below HX.out HW1.out) HC.out.1 HC.out.2 (by have := HNN.out; simp only [List.length_nil]; omega) HW1.out.size
          simp only [List.length_nil, Nat.zero_add, List.nil_append] at hrun hrw6
          have HW2 := Lib.hid (belP HROW.out HW1.out hgr6 HW1.out.size)
          have hk2 := HKS.out _ HW2.out
          have HROW1 := Lib.hid hrw6
          have ck2 : w6.cell? ⟨b, 0, none⟩ = some (Value.slice a n c) := (HQ.out.next HW2.out).c0
          clear hrw6 hgr6
          refine step_append_run (by rfl) (.tmp 20) (.tmp 26) 26 rfl _ _ _ rfl rfl hrun ?_
          refine hK.out _ _ ?_ (fun hH => ?_)
          · exact hk2
          clear hK K
          try simp only [pt]
          refine wpAnyH_ready (rs := [12]) (by kernel_rfl) (by simp) ?_
          refine rdH (fun K hK => ?_) ?_
          · go_simp
            refine hK.out _ _ ?_ (fun hH => ?_)
            · exact hk2
            clear hK K
            try simp only [pt]
            refine tkH 15 ?_ ?_ ?_
            rotate_left
            · intro w hSw
              try dsimp only at hSw
              go_simp
              all_goals with_reducible rfl
            try simp only [pt]
            refine wpAnyH_ready (rs := [16]) (by kernel_rfl) (by simp) ?_
            refine rdH (fun K hK => ?_) ?_
            · obtain ⟨a2, c2, w8, hrun9, hrw8, hgr8, _⟩ := run_appP w6 26 w0.heap.size _ (ps.take k) HROW1.out A2 m C2 (ps.drop (k + 1)) (psAt_below HX2.out HW2.out) HC2.out.1 HC2.out.2 (by rw [HSZ.out]; have := HNN.out; omega) HW2.out.size
              rw [HSZ.out] at hrun9 hrw8
              have HW8 := Lib.hid (belP HROW1.out HW2.out hgr8 HW2.out.size)
              have hk8 := HKS.out _ HW8.out
              have HROW2 := Lib.hid hrw8
              have ck8 : w8.cell? ⟨b, 0, none⟩ = some (Value.slice a n c) := (HQ.out.next HW8.out).c0
              have fk8 := (HQ.out.next HW8.out).f0 0
              clear hrw8 hgr8
              refine step_append_run (by rfl) (.tmp 27) (.tmp 34) 26 rfl _ _ _ rfl rfl hrun9 ?_
              refine hK.out _ _ ?_ (fun hH => ?_)
              · exact hk8
              clear hK K
              try simp only [pt]
              refine tkH 17 ?_ ?_ ?_
              rotate_left
              · intro w hSw
                try dsimp only at hSw
                go_simp
                all_goals with_reducible rfl
              try simp only [pt]
              refine tkH 18 ?_ ?_ ?_
              rotate_left
              · intro w hSw
                try dsimp only at hSw
                go_simp
                all_goals with_reducible rfl
              try simp only [pt]
              refine wpAnyH_ready (rs := [19]) (by kernel_rfl) (by simp) ?_
              refine rdH (fun K hK => ?_) ?_
              · go_simp
                refine hK.out _ _ ?_ (fun hH => ?_)
                · exact (HKT.out _ _ HW8.out)
                clear hK K
                try simp only [pt]
                refine wpAnyH_done (by kernel_rfl) ?_ _
                have HFIN := Lib.hid (bd_put0 HQ.out HW8.out (HROW2.out.lower (Nat.le_refl _)))
                clear hrun hrun9
                go_wp2_with fail
                go_meet
                case rel => exact ⟨_, _, HEQ.out ▸ HFIN.out.1, HFIN.out.2, fun j hj => (HROW2.out.lt j hj).1⟩
              exact AllReadyH.nil
            exact AllReadyH.nil
          exact AllReadyH.nil
        refine rdH (fun K hK => ?_) ?_
        · go_simp
          refine hK.out _ _ ?_ (fun hH => ?_)
          · exact hk1
          clear hK K
          try simp only [pt]
          refine tkH 15 ?_ ?_ ?_
          rotate_left
          · intro w hSw
            try dsimp only at hSw
            go_simp
            all_goals with_reducible rfl
          try simp only [pt]
          refine wpAnyH_ready (rs := [8]) (by kernel_rfl) (by simp) ?_
          refine rdH (fun K hK => ?_) ?_
          · obtain ⟨a1, c1', w6, hrun, hrw6, hgr6, _⟩ := run_appP (w0.drew.alloc (.cells #[] 39)) 26 w0.heap.size _ [] HROW.out a k c (ps.take k) (psAt_below HX.out HW1.out) HC.out.1 HC.out.2 (by have := HNN.out; simp only [List.length_nil]; omega) HW1.out.size
            simp only [List.length_nil, Nat.zero_add, List.nil_append] at hrun hrw6
            have HW2 := Lib.hid (belP HROW.out HW1.out hgr6 HW1.out.size)
            have hk2 := HKS.out _ HW2.out
            have HROW1 := Lib.hid hrw6
            have ck2 : w6.cell? ⟨b, 0, none⟩ = some (Value.slice a n c) := (HQ.out.next HW2.out).c0
            clear hrw6 hgr6
            refine step_append_run (by rfl) (.tmp 20) (.tmp 26) 26 rfl _ _ _ rfl rfl hrun ?_
            refine hK.out _ _ ?_ (fun hH => ?_)
            · exact hk2
            clear hK K
            try simp only [pt]
            refine wpAnyH_ready (rs := [16]) (by kernel_rfl) (by simp) ?_
            refine rdH (fun K hK => ?_) ?_
            · obtain ⟨a2, c2, w8, hrun9, hrw8, hgr8, _⟩ := run_appP w6 26 w0.heap.size _ (ps.take k) HROW1.out A2 m C2 (ps.drop (k + 1)) (psAt_below HX2.out HW2.out) HC2.out.1 HC2.out.2 (by rw [HSZ.out]; have := HNN.out; omega) HW2.out.size
              rw [HSZ.out] at hrun9 hrw8
              have HW8 := Lib.hid (belP HROW1.out HW2.out hgr8 HW2.out.size)
              have hk8 := HKS.out _ HW8.out
              have HROW2 := Lib.hid hrw8
              have ck8 : w8.cell? ⟨b, 0, none⟩ = some (Value.slice a n c) := (HQ.out.next HW8.out).c0
              have fk8 := (HQ.out.next HW8.out).f0 0
              clear hrw8 hgr8
              refine step_append_run (by rfl) (.tmp 27) (.tmp 34) 26 rfl _ _ _ rfl rfl hrun9 ?_
              refine hK.out _ _ ?_ (fun hH => ?_)
              · exact hk8
              clear hK K
              try simp only [pt]
              refine tkH 17 ?_ ?_ ?_
              rotate_left
              · intro w hSw
                try dsimp only at hSw
                go_simp
                all_goals with_reducible rfl
              try simp only [pt]
              refine tkH 18 ?_ ?_ ?_
              rotate_left
              · intro w hSw
                try dsimp only at hSw
                go_simp
                all_goals with_reducible rfl
              try simp only [pt]
              refine wpAnyH_ready (rs := [19]) (by kernel_rfl) (by simp) ?_
              refine rdH (fun K hK => ?_) ?_
              · go_simp
                refine hK.out _ _ ?_ (fun hH => ?_)
                · exact (HKT.out _ _ HW8.out)
                clear hK K
                try simp only [pt]
                refine wpAnyH_done (by kernel_rfl) ?_ _
                have HFIN := Lib.hid (bd_put0 HQ.out HW8.out (HROW2.out.lower (Nat.le_refl _)))
                clear hrun hrun9
                go_wp2_with fail
                go_meet
                case rel => exact ⟨_, _, HEQ.out ▸ HFIN.out.1, HFIN.out.2, fun j hj => (HROW2.out.lt j hj).1⟩
              exact AllReadyH.nil
            exact AllReadyH.nil
          exact AllReadyH.nil
        exact AllReadyH.nil
      refine rdH (fun K hK => ?_) ?_
      · go_simp
        refine hK.out _ _ ?_ (fun hH => ?_)
        · exact hk1
        clear hK K
        try simp only [pt]
        refine tkH 15 ?_ ?_ ?_
        rotate_left
        · intro w hSw
          try dsimp only at hSw
          go_simp
          all_goals with_reducible rfl
        try simp only [pt]
        refine wpAnyH_ready (rs := [5]) (by kernel_rfl) (by simp) ?_
        refine rdH (fun K hK => ?_) ?_
        · go_simp
          refine hK.out _ _ ?_ (fun hH => ?_)
          · exact hk1
          clear hK K
          try simp only [pt]
          refine tkH 7 ?_ ?_ ?_
          rotate_left
          · intro w hSw
            try dsimp only at hSw
            go_simp
            all_goals with_reducible rfl
          try simp only [pt]
          refine wpAnyH_ready (rs := [8]) (by kernel_rfl) (by simp) ?_
          refine rdH (fun K hK => ?_) ?_
          · obtain ⟨a1, c1', w6, hrun, hrw6, hgr6, _⟩ := run_appP (w0.drew.alloc (.cells #[] 39)) 26 w0.heap.size _ [] HROW.out a k c (ps.take k) (psAt_below HX.out HW1.out) HC.out.1 HC.out.2 (by have := HNN.out; simp only [List.length_nil]; omega) HW1.out.size
            simp only [List.length_nil, Nat.zero_add, List.nil_append] at hrun hrw6
            have HW2 := Lib.hid (belP HROW.out HW1.out hgr6 HW1.out.size)
            have hk2 := HKS.out _ HW2.out
            have HROW1 := Lib.hid hrw6
            have ck2 : w6.cell? ⟨b, 0, none⟩ = some (Value.slice a n c) := (HQ.out.next HW2.out).c0
            clear hrw6 hgr6
            refine step_append_run (by rfl) (.tmp 20) (.tmp 26) 26 rfl _ _ _ rfl rfl hrun ?_
            refine hK.out _ _ ?_ (fun hH => ?_)
            · exact hk2
            clear hK K
            try simp only [pt]
            refine wpAnyH_ready (rs := [16]) (by kernel_rfl) (by simp) ?_
            refine rdH (fun K hK => ?_) ?_
            · obtain ⟨a2, c2, w8, hrun9, hrw8, hgr8, _⟩ := run_appP w6 26 w0.heap.size _ (ps.take k) HROW1.out A2 m C2 (ps.drop (k + 1)) (psAt_below HX2.out HW2.out) HC2.out.1 HC2.out.2 (by rw [HSZ.out]; have := HNN.out; omega) HW2.out.size
              rw [HSZ.out] at hrun9 hrw8
              have HW8 := Lib.hid (belP HROW1.out HW2.out hgr8 HW2.out.size)
              have hk8 := HKS.out _ HW8.out
              have HROW2 := Lib.hid hrw8
              have ck8 : w8.cell? ⟨b, 0, none⟩ = some (Value.slice a n c) := (HQ.out.next HW8.out).c0
              have fk8 := (HQ.out.next HW8.out).f0 0
              clear hrw8 hgr8
              refine step_append_run (by rfl) (.tmp 27) (.tmp 34) 26 rfl _ _ _ rfl rfl hrun9 ?_
              refine hK.out _ _ ?_ (fun hH => ?_)
              · exact hk8
              clear hK K
              try simp only [pt]
              refine tkH 17 ?_ ?_ ?_
              rotate_left
              · intro w hSw
                try dsimp only at hSw
                go_simp
                all_goals with_reducible rfl
              try simp only [pt]
              refine tkH 18 ?_ ?_ ?_
              rotate_left
              · intro w hSw
                try dsimp only at hSw
                go_simp
                all_goals with_reducible rfl
              try simp only [pt]
              refine wpAnyH_ready (rs := [19]) (by kernel_rfl) (by simp) ?_
              refine rdH (fun K hK => ?_) ?_
              · go_simp
                refine hK.out _ _ ?_ (fun hH => ?_)
                · exact (HKT.out _ _ HW8.out)
                clear hK K
                try simp only [pt]
                refine wpAnyH_done (by kernel_rfl) ?_ _
                have HFIN := Lib.hid (bd_put0 HQ.out HW8.out (HROW2.out.lower (Nat.le_refl _)))
                clear hrun hrun9
                go_wp2_with fail
                go_meet
                case rel => exact ⟨_, _, HEQ.out ▸ HFIN.out.1, HFIN.out.2, fun j hj => (HROW2.out.lt j hj).1⟩
              exact AllReadyH.nil
            exact AllReadyH.nil
          exact AllReadyH.nil
        exact AllReadyH.nil
      exact AllReadyH.nil
    refine rdH (fun K hK => ?_) ?_
    · go_simp
      refine hK.out _ _ ?_ (fun hH => ?_)
      · exact hk0
      clear hK K
      try simp only [pt]
      refine tkH 7 ?_ ?_ ?_
      rotate_left
      · intro w hSw
        try dsimp only at hSw
        go_simp
        all_goals with_reducible rfl
      try simp only [pt]
      refine wpAnyH_ready (rs := [1, 12]) (by kernel_rfl) (by simp) ?_
      refine rdH (fun K hK => ?_) ?_
      · go_simp
        have HW1 : Hid (Below w0.heap.size w0 (w0.drew.alloc (.cells #[] 39))) := Lib.hid (Below.step HW0.out (.cells #[] 39) (Below.refl _ _))
        have hk1 := HKS.out _ HW1.out
        have ck1 : (w0.alloc (.cells #[] 39)).cell? ⟨b, 0, none⟩ = some (Value.slice a n c) := (HQ.out.next HW1.out).c0
        have HROW : Hid (RowP w0.heap.size (w0.drew.alloc (.cells #[] 39)) (.slice (some ⟨w0.heap.size, 0, none⟩) 0 0) []) := Lib.hid (by
          have := (rowP_new w0.drew).lower (show w0.heap.size ≤ w0.drew.heap.size from HW0.out.size)
          rw [show w0.drew.heap.size = w0.heap.size by simp] at this
          exact this)
        refine hK.out _ _ ?_ (fun hH => ?_)
        · exact hk1
        clear hK K
        try simp only [pt]
        refine wpAnyH_ready (rs := [8, 12]) (by kernel_rfl) (by simp) ?_
        refine rdH (fun K hK => ?_) ?_
        · obtain ⟨a1, c1', w6, hrun, hrw6, hgr6, _⟩ := run_appP (w0.drew.alloc (.cells #[] 39)) 26 w0.heap.size _ [] HROW.out a k c (ps.take k) (psAt_below HX.out HW1.out) HC.out.1 HC.out.2 (by have := HNN.out; simp only [List.length_nil]; omega) HW1.out.size
          simp only [List.length_nil, Nat.zero_add, List.nil_append] at hrun hrw6
          have HW2 := Lib.hid (belP HROW.out HW1.out hgr6 HW1.out.size)
          have hk2 := HKS.out _ HW2.out
          have HROW1 := Lib.hid hrw6
          have ck2 : w6.cell? ⟨b, 0, none⟩ = some (Value.slice a n c) := (HQ.out.next HW2.out).c0
          clear hrw6 hgr6
          refine step_append_run (by rfl) (.tmp 20) (.tmp 26) 26 rfl _ _ _ rfl rfl hrun ?_
          refine hK.out _ _ ?_ (fun hH => ?_)
          · exact hk2
          clear hK K
          try simp only [pt]
          refine wpAnyH_ready (rs := [12]) (by kernel_rfl) (by simp) ?_
          refine rdH (fun K hK => ?_) ?_
          · go_simp
            refine hK.out _ _ ?_ (fun hH => ?_)
            · exact hk2
            clear hK K
            try simp only [pt]
            refine tkH 15 ?_ ?_ ?_
            rotate_left
            · intro w hSw
              try dsimp only at hSw
              go_simp
              all_goals with_reducible rfl
            try simp only [pt]
            refine wpAnyH_ready (rs := [16]) (by kernel_rfl) (by simp) ?_
            refine rdH (fun K hK => ?_) ?_
            · obtain ⟨a2, c2, w8, hrun9, hrw8, hgr8, _⟩ := run_appP w6 26 w0.heap.size _ (ps.take k) HROW1.out A2 m C2 (ps.drop (k + 1)) (psAt_below HX2.out HW2.out) HC2.out.1 HC2.out.2 (by rw [HSZ.out]; have := HNN.out; omega) HW2.out.size
              rw [HSZ.out] at hrun9 hrw8
              have HW8 := Lib.hid (belP HROW1.out HW2.out hgr8 HW2.out.size)
              have hk8 := HKS.out _ HW8.out
              have HROW2 := Lib.hid hrw8
              have ck8 : w8.cell? ⟨b, 0, none⟩ = some (Value.slice a n c) := (HQ.out.next HW8.out).c0
              have fk8 := (HQ.out.next HW8.out).f0 0
              clear hrw8 hgr8
              refine step_append_run (by rfl) (.tmp 27) (.tmp 34) 26 rfl _ _ _ rfl rfl hrun9 ?_
              refine hK.out _ _ ?_ (fun hH => ?_)
              · exact hk8
              clear hK K
              try simp only [pt]
              refine tkH 17 ?_ ?_ ?_
              rotate_left
              · intro w hSw
                try dsimp only at hSw
                go_simp
                all_goals with_reducible rfl
              try simp only [pt]
              refine tkH 18 ?_ ?_ ?_
              rotate_left
              · intro w hSw
                try dsimp only at hSw
                go_simp
                all_goals with_reducible rfl
              try simp only [pt]
              refine wpAnyH_ready (rs := [19]) (by kernel_rfl) (by simp) ?_
              refine rdH (fun K hK => ?_) ?_
              · go_simp
                refine hK.out _ _ ?_ (fun hH => ?_)
                · exact (HKT.out _ _ HW8.out)
                clear hK K
                try simp only [pt]
                refine wpAnyH_done (by kernel_rfl) ?_ _
                have HFIN := Lib.hid (bd_put0 HQ.out HW8.out (HROW2.out.lower (Nat.le_refl _)))
                clear hrun hrun9
                go_wp2_with fail
                go_meet
                case rel => exact ⟨_, _, HEQ.out ▸ HFIN.out.1, HFIN.out.2, fun j hj => (HROW2.out.lt j hj).1⟩
              exact AllReadyH.nil
            exact AllReadyH.nil
          exact AllReadyH.nil
        refine rdH (fun K hK => ?_) ?_
        · go_simp
          refine hK.out _ _ ?_ (fun hH => ?_)
          · exact hk1
          clear hK K
          try simp only [pt]
          refine tkH 15 ?_ ?_ ?_
          rotate_left
          · intro w hSw
            try dsimp only at hSw
            go_simp
            all_goals with_reducible rfl
          try simp only [pt]
          refine wpAnyH_ready (rs := [8]) (by kernel_rfl) (by simp) ?_
          refine rdH (fun K hK => ?_) ?_
          · obtain ⟨a1, c1', w6, hrun, hrw6, hgr6, _⟩ := run_appP (w0.drew.alloc (.cells #[] 39)) 26 w0.heap.size _ [] HROW.out a k c (ps.take k) (psAt_below HX.out HW1.out) HC.out.1 HC.out.2 (by have := HNN.out; simp only [List.length_nil]; omega) HW1.out.size
            simp only [List.length_nil, Nat.zero_add, List.nil_append] at hrun hrw6
            have HW2 := Lib.hid (belP HROW.out HW1.out hgr6 HW1.out.size)
            have hk2 := HKS.out _ HW2.out
            have HROW1 := Lib.hid hrw6
            have ck2 : w6.cell? ⟨b, 0, none⟩ = some (Value.slice a n c) := (HQ.out.next HW2.out).c0
            clear hrw6 hgr6
            refine step_append_run (by rfl) (.tmp 20) (.tmp 26) 26 rfl _ _ _ rfl rfl hrun ?_
            refine hK.out _ _ ?_ (fun hH => ?_)
            · exact hk2
            clear hK K
            try simp only [pt]
            refine wpAnyH_ready (rs := [16]) (by kernel_rfl) (by simp) ?_
            refine rdH (fun K hK => ?_) ?_
            · obtain ⟨a2, c2, w8, hrun9, hrw8, hgr8, _⟩ := run_appP w6 26 w0.heap.size _ (ps.take k) HROW1.out A2 m C2 (ps.drop (k + 1)) (psAt_below HX2.out HW2.out) HC2.out.1 HC2.out.2 (by rw [HSZ.out]; have := HNN.out; omega) HW2.out.size
              rw [HSZ.out] at hrun9 hrw8
              have HW8 := Lib.hid (belP HROW1.out HW2.out hgr8 HW2.out.size)
              have hk8 := HKS.out _ HW8.out
              have HROW2 := Lib.hid hrw8
              have ck8 : w8.cell? ⟨b, 0, none⟩ = some (Value.slice a n c) := (HQ.out.next HW8.out).c0
              have fk8 := (HQ.out.next HW8.out).f0 0
              clear hrw8 hgr8
              refine step_append_run (by rfl) (.tmp 27) (.tmp 34) 26 rfl _ _ _ rfl rfl hrun9 ?_
              refine hK.out _ _ ?_ (fun hH => ?_)
              · exact hk8
              clear hK K
              try simp only [pt]
              refine tkH 17 ?_ ?_ ?_
              rotate_left
              · intro w hSw
                try dsimp only at hSw
                go_simp
                all_goals with_reducible rfl
              try simp only [pt]
              refine tkH 18 ?_ ?_ ?_
              rotate_left
              · intro w hSw
                try dsimp only at hSw
                go_simp
                all_goals with_reducible rfl
              try simp only [pt]
              refine wpAnyH_ready (rs := [19]) (by kernel_rfl) (by simp) ?_
              refine rdH (fun K hK => ?_) ?_
              · go_simp
                refine hK.out _ _ ?_ (fun hH => ?_)
                · exact (HKT.out _ _ HW8.out)
                clear hK K
                try simp only [pt]
                refine wpAnyH_done (by kernel_rfl) ?_ _
                have HFIN := Lib.hid (bd_put0 HQ.out HW8.out (HROW2.out.lower (Nat.le_refl _)))
                clear hrun hrun9
                go_wp2_with fail
                go_meet
                case rel => exact ⟨_, _, HEQ.out ▸ HFIN.out.1, HFIN.out.2, fun j hj => (HROW2.out.lt j hj).1⟩
              exact AllReadyH.nil
            exact AllReadyH.nil
          exact AllReadyH.nil
        exact AllReadyH.nil
      refine rdH (fun K hK => ?_) ?_
      · go_simp
        refine hK.out _ _ ?_ (fun hH => ?_)
        · exact hk0
        clear hK K
        try simp only [pt]
        refine tkH 15 ?_ ?_ ?_
        rotate_left
        · intro w hSw
          try dsimp only at hSw
          go_simp
          all_goals with_reducible rfl
        try simp only [pt]
        refine wpAnyH_ready (rs := [1]) (by kernel_rfl) (by simp) ?_
        refine rdH (fun K hK => ?_) ?_
        · go_simp
          have HW1 : Hid (Below w0.heap.size w0 (w0.drew.alloc (.cells #[] 39))) := Lib.hid (Below.step HW0.out (.cells #[] 39) (Below.refl _ _))
          have hk1 := HKS.out _ HW1.out
          have ck1 : (w0.alloc (.cells #[] 39)).cell? ⟨b, 0, none⟩ = some (Value.slice a n c) := (HQ.out.next HW1.out).c0
          have HROW : Hid (RowP w0.heap.size (w0.drew.alloc (.cells #[] 39)) (.slice (some ⟨w0.heap.size, 0, none⟩) 0 0) []) := Lib.hid (by
            have := (rowP_new w0.drew).lower (show w0.heap.size ≤ w0.drew.heap.size from HW0.out.size)
            rw [show w0.drew.heap.size = w0.heap.size by simp] at this
            exact this)
          refine hK.out _ _ ?_ (fun hH => ?_)
          · exact hk1
          clear hK K
          try simp only [pt]
          refine wpAnyH_ready (rs := [8]) (by kernel_rfl) (by simp) ?_
          refine rdH (fun K hK => ?_) ?_
          · obtain ⟨a1, c1', w6, hrun, hrw6, hgr6, _⟩ := run_appP (w0.drew.alloc (.cells #[] 39)) 26 w0.heap.size _ [] HROW.out a k c (ps.take k) (psAt_below HX.out HW1.out) HC.out.1 HC.out.2 (by have := HNN.out; simp only [List.length_nil]; omega) HW1.out.size
            simp only [List.length_nil, Nat.zero_add, List.nil_append] at hrun hrw6
            have HW2 := Lib.hid (belP HROW.out HW1.out hgr6 HW1.out.size)
            have hk2 := HKS.out _ HW2.out
            have HROW1 := Lib.hid hrw6
            have ck2 : w6.cell? ⟨b, 0, none⟩ = some (Value.slice a n c) := (HQ.out.next HW2.out).c0
            clear hrw6 hgr6
            refine step_append_run (by rfl) (.tmp 20) (.tmp 26) 26 rfl _ _ _ rfl rfl hrun ?_
            refine hK.out _ _ ?_ (fun hH => ?_)
            · exact hk2
            clear hK K
            try simp only [pt]
            refine wpAnyH_ready (rs := [16]) (by kernel_rfl) (by simp) ?_
            refine rdH (fun K hK => ?_) ?_
            · obtain ⟨a2, c2, w8, hrun9, hrw8, hgr8, _⟩ := run_appP w6 26 w0.heap.size _ (ps.take k) HROW1.out A2 m C2 (ps.drop (k + 1)) (psAt_below HX2.out HW2.out) HC2.out.1 HC2.out.2 (by rw [HSZ.out]; have := HNN.out; omega) HW2.out.size
              rw [HSZ.out] at hrun9 hrw8
              have HW8 := Lib.hid (belP HROW1.out HW2.out hgr8 HW2.out.size)
              have hk8 := HKS.out _ HW8.out
              have HROW2 := Lib.hid hrw8
              have ck8 : w8.cell? ⟨b, 0, none⟩ = some (Value.slice a n c) := (HQ.out.next HW8.out).c0
              have fk8 := (HQ.out.next HW8.out).f0 0
              clear hrw8 hgr8
              refine step_append_run (by rfl) (.tmp 27) (.tmp 34) 26 rfl _ _ _ rfl rfl hrun9 ?_
              refine hK.out _ _ ?_ (fun hH => ?_)
              · exact hk8
              clear hK K
              try simp only [pt]
              refine tkH 17 ?_ ?_ ?_
              rotate_left
              · intro w hSw
                try dsimp only at hSw
                go_simp
                all_goals with_reducible rfl
              try simp only [pt]
              refine tkH 18 ?_ ?_ ?_
              rotate_left
              · intro w hSw
                try dsimp only at hSw
                go_simp
                all_goals with_reducible rfl
              try simp only [pt]
              refine wpAnyH_ready (rs := [19]) (by kernel_rfl) (by simp) ?_
              refine rdH (fun K hK => ?_) ?_
              · go_simp
                refine hK.out _ _ ?_ (fun hH => ?_)
                · exact (HKT.out _ _ HW8.out)
                clear hK K
                try simp only [pt]
                refine wpAnyH_done (by kernel_rfl) ?_ _
                have HFIN := Lib.hid (bd_put0 HQ.out HW8.out (HROW2.out.lower (Nat.le_refl _)))
                clear hrun hrun9
                go_wp2_with fail
                go_meet
                case rel => exact ⟨_, _, HEQ.out ▸ HFIN.out.1, HFIN.out.2, fun j hj => (HROW2.out.lt j hj).1⟩
              exact AllReadyH.nil
            exact AllReadyH.nil
          exact AllReadyH.nil
        exact AllReadyH.nil
      exact AllReadyH.nil
    refine rdH (fun K hK => ?_) ?_
    · go_simp
      refine hK.out _ _ ?_ (fun hH => ?_)
      · exact hk0
      clear hK K
      try simp only [pt]
      refine tkH 15 ?_ ?_ ?_
      rotate_left
      · intro w hSw
        try dsimp only at hSw
        go_simp
        all_goals with_reducible rfl
      try simp only [pt]
      refine wpAnyH_ready (rs := [1, 5]) (by kernel_rfl) (by simp) ?_
      refine rdH (fun K hK => ?_) ?_
      · go_simp
        have HW1 : Hid (Below w0.heap.size w0 (w0.drew.alloc (.cells #[] 39))) := Lib.hid (Below.step HW0.out (.cells #[] 39) (Below.refl _ _))
        have hk1 := HKS.out _ HW1.out
        have ck1 : (w0.alloc (.cells #[] 39)).cell? ⟨b, 0, none⟩ = some (Value.slice a n c) := (HQ.out.next HW1.out).c0
        have HROW : Hid (RowP w0.heap.size (w0.drew.alloc (.cells #[] 39)) (.slice (some ⟨w0.heap.size, 0, none⟩) 0 0) []) := Lib.hid (by
          have := (rowP_new w0.drew).lower (show w0.heap.size ≤ w0.drew.heap.size from HW0.out.size)
          rw [show w0.drew.heap.size = w0.heap.size by simp] at this
          exact this)
        refine hK.out _ _ ?_ (fun hH => ?_)
        · exact hk1
        clear hK K
        try simp only [pt]
        refine wpAnyH_ready (rs := [5]) (by kernel_rfl) (by simp) ?_
        refine rdH (fun K hK => ?_) ?_
        · go_simp
          refine hK.out _ _ ?_ (fun hH => ?_)
          · exact hk1
          clear hK K
          try simp only [pt]
          refine tkH 7 ?_ ?_ ?_
          rotate_left
          · intro w hSw
            try dsimp only at hSw
            go_simp
            all_goals with_reducible rfl
          try simp only [pt]
          refine wpAnyH_ready (rs := [8]) (by kernel_rfl) (by simp) ?_
          refine rdH (fun K hK => ?_) ?_
          · obtain ⟨a1, c1', w6, hrun, hrw6, hgr6, _⟩ := run_appP (w0.drew.alloc (.cells #[] 39)) 26 w0.heap.size _ [] HROW.out a k c (ps.take k) (psAt_below HX.out HW1.out) HC.out.1 HC.out.2 (by have := HNN.out; simp only [List.length_nil]; omega) HW1.out.size
            simp only [List.length_nil, Nat.zero_add, List.nil_append] at hrun hrw6
            have HW2 := Lib.hid (belP HROW.out HW1.out hgr6 HW1.out.size)
            have hk2 := HKS.out _ HW2.out
            have HROW1 := Lib.hid hrw6
            have ck2 : w6.cell? ⟨b, 0, none⟩ = some (Value.slice a n c) := (HQ.out.next HW2.out).c0
            clear hrw6 hgr6
            refine step_append_run (by rfl) (.tmp 20) (.tmp 26) 26 rfl _ _ _ rfl rfl hrun ?_
            refine hK.out _ _ ?_ (fun hH => ?_)
            · exact hk2
            clear hK K
            try simp only [pt]
            refine wpAnyH_ready (rs := [16]) (by kernel_rfl) (by simp) ?_
            refine rdH (fun K hK => ?_) ?_
            · obtain ⟨a2, c2, w8, hrun9, hrw8, hgr8, _⟩ := run_appP w6 26 w0.heap.size _ (ps.take k) HROW1.out A2 m C2 (ps.drop (k + 1)) (psAt_below HX2.out HW2.out) HC2.out.1 HC2.out.2 (by rw [HSZ.out]; have := HNN.out; omega) HW2.out.size
              rw [HSZ.out] at hrun9 hrw8
              have HW8 := Lib.hid (belP HROW1.out HW2.out hgr8 HW2.out.size)
              have hk8 := HKS.out _ HW8.out
              have HROW2 := Lib.hid hrw8
              have ck8 : w8.cell? ⟨b, 0, none⟩ = some (Value.slice a n c) := (HQ.out.next HW8.out).c0
              have fk8 := (HQ.out.next HW8.out).f0 0
              clear hrw8 hgr8
              refine step_append_run (by rfl) (.tmp 27) (.tmp 34) 26 rfl _ _ _ rfl rfl hrun9 ?_
              refine hK.out _ _ ?_ (fun hH => ?_)
              · exact hk8
              clear hK K
              try simp only [pt]
              refine tkH 17 ?_ ?_ ?_
              rotate_left
              · intro w hSw
                try dsimp only at hSw
                go_simp
                all_goals with_reducible rfl
              try simp only [pt]
              refine tkH 18 ?_ ?_ ?_
              rotate_left
              · intro w hSw
                try dsimp only at hSw
                go_simp
                all_goals with_reducible rfl
              try simp only [pt]
              refine wpAnyH_ready (rs := [19]) (by kernel_rfl) (by simp) ?_
              refine rdH (fun K hK => ?_) ?_
              · go_simp
                refine hK.out _ _ ?_ (fun hH => ?_)
                · exact (HKT.out _ _ HW8.out)
                clear hK K
                try simp only [pt]
                refine wpAnyH_done (by kernel_rfl) ?_ _
                have HFIN := Lib.hid (bd_put0 HQ.out HW8.out (HROW2.out.lower (Nat.le_refl _)))
                clear hrun hrun9
                go_wp2_with fail
                go_meet
                case rel => exact ⟨_, _, HEQ.out ▸ HFIN.out.1, HFIN.out.2, fun j hj => (HROW2.out.lt j hj).1⟩
              exact AllReadyH.nil
            exact AllReadyH.nil
          exact AllReadyH.nil
        exact AllReadyH.nil
      refine rdH (fun K hK => ?_) ?_
      · go_simp
        refine hK.out _ _ ?_ (fun hH => ?_)
        · exact hk0
        clear hK K
        try simp only [pt]
        refine tkH 7 ?_ ?_ ?_
        rotate_left
        · intro w hSw
          try dsimp only at hSw
          go_simp
          all_goals with_reducible rfl
        try simp only [pt]
        refine wpAnyH_ready (rs := [1]) (by kernel_rfl) (by simp) ?_
        refine rdH (fun K hK => ?_) ?_
        · go_simp
          have HW1 : Hid (Below w0.heap.size w0 (w0.drew.alloc (.cells #[] 39))) := Lib.hid (Below.step HW0.out (.cells #[] 39) (Below.refl _ _))
          have hk1 := HKS.out _ HW1.out
          have ck1 : (w0.alloc (.cells #[] 39)).cell? ⟨b, 0, none⟩ = some (Value.slice a n c) := (HQ.out.next HW1.out).c0
          have HROW : Hid (RowP w0.heap.size (w0.drew.alloc (.cells #[] 39)) (.slice (some ⟨w0.heap.size, 0, none⟩) 0 0) []) := Lib.hid (by
            have := (rowP_new w0.drew).lower (show w0.heap.size ≤ w0.drew.heap.size from HW0.out.size)
            rw [show w0.drew.heap.size = w0.heap.size by simp] at this
            exact this)
          refine hK.out _ _ ?_ (fun hH => ?_)
          · exact hk1
          clear hK K
          try simp only [pt]
          refine wpAnyH_ready (rs := [8]) (by kernel_rfl) (by simp) ?_
          refine rdH (fun K hK => ?_) ?_
          · obtain ⟨a1, c1', w6, hrun, hrw6, hgr6, _⟩ := run_appP (w0.drew.alloc (.cells #[] 39)) 26 w0.heap.size _ [] HROW.out a k c (ps.take k) (psAt_below HX.out HW1.out) HC.out.1 HC.out.2 (by have := HNN.out; simp only [List.length_nil]; omega) HW1.out.size
            simp only [List.length_nil, Nat.zero_add, List.nil_append] at hrun hrw6
            have HW2 := Lib.hid (belP HROW.out HW1.out hgr6 HW1.out.size)
            have hk2 := HKS.out _ HW2.out
            have HROW1 := Lib.hid hrw6
            have ck2 : w6.cell? ⟨b, 0, none⟩ = some (Value.slice a n c) := (HQ.out.next HW2.out).c0
            clear hrw6 hgr6
            refine step_append_run (by rfl) (.tmp 20) (.tmp 26) 26 rfl _ _ _ rfl rfl hrun ?_
            refine hK.out _ _ ?_ (fun hH => ?_)
            · exact hk2
            clear hK K
            try simp only [pt]
            refine wpAnyH_ready (rs := [16]) (by kernel_rfl) (by simp) ?_
            refine rdH (fun K hK => ?_) ?_
            · obtain ⟨a2, c2, w8, hrun9, hrw8, hgr8, _⟩ := run_appP w6 26 w0.heap.size _ (ps.take k) HROW1.out A2 m C2 (ps.drop (k + 1)) (psAt_below HX2.out HW2.out) HC2.out.1 HC2.out.2 (by rw [HSZ.out]; have := HNN.out; omega) HW2.out.size
              rw [HSZ.out] at hrun9 hrw8
              have HW8 := Lib.hid (belP HROW1.out HW2.out hgr8 HW2.out.size)
              have hk8 := HKS.out _ HW8.out
              have HROW2 := Lib.hid hrw8
              have ck8 : w8.cell? ⟨b, 0, none⟩ = some (Value.slice a n c) := (HQ.out.next HW8.out).c0
              have fk8 := (HQ.out.next HW8.out).f0 0
              clear hrw8 hgr8
              refine step_append_run (by rfl) (.tmp 27) (.tmp 34) 26 rfl _ _ _ rfl rfl hrun9 ?_
              refine hK.out _ _ ?_ (fun hH => ?_)
              · exact hk8
              clear hK K
              try simp only [pt]
              refine tkH 17 ?_ ?_ ?_
              rotate_left
              · intro w hSw
                try dsimp only at hSw
                go_simp
                all_goals with_reducible rfl
              try simp only [pt]
              refine tkH 18 ?_ ?_ ?_
              rotate_left
              · intro w hSw
                try dsimp only at hSw
                go_simp
                all_goals with_reducible rfl
              try simp only [pt]
              refine wpAnyH_ready (rs := [19]) (by kernel_rfl) (by simp) ?_
              refine rdH (fun K hK => ?_) ?_
              · go_simp
                refine hK.out _ _ ?_ (fun hH => ?_)
                · exact (HKT.out _ _ HW8.out)
                clear hK K
                try simp only [pt]
                refine wpAnyH_done (by kernel_rfl) ?_ _
                have HFIN := Lib.hid (bd_put0 HQ.out HW8.out (HROW2.out.lower (Nat.le_refl _)))
                clear hrun hrun9
                go_wp2_with fail
                go_meet
                case rel => exact ⟨_, _, HEQ.out ▸ HFIN.out.1, HFIN.out.2, fun j hj => (HROW2.out.lt j hj).1⟩
              exact AllReadyH.nil
            exact AllReadyH.nil
          exact AllReadyH.nil
        exact AllReadyH.nil
      exact AllReadyH.nil
    exact AllReadyH.nil
  case rest =>
    obtain ⟨v2, u2, hq, hg, hlow⟩ := hcut
    have HLOW := Lib.hid hlow
    clear hlow
    obtain ⟨a', c', rfl, _⟩ := hq.mks.is
    rw [HN1.out] at hq
    clear hk0 ck0 HKS HKT HX HC HX2 HC2 HW0 HQ HSZ HEQ HNN hsl1 hsl2
    have HQ := Lib.hid hq
    have HG1 := Lib.hid hg
    clear hq hg
    have hx0 := HQ.out.mks.isB (show n = ms.length from HN1.out.symm)
    have HX : Hid (BsAt wc a' k (ms.take k)) := Lib.hid (hx0.1.take (Nat.le_of_lt hk))
    have HC : Hid (k ≤ c' ∧ (a' = none → c' = 0)) := Lib.hid ⟨Nat.le_trans (Nat.le_of_lt hk) hx0.2.1, hx0.2.2⟩
    obtain ⟨A2, m, C2, hm, hsl2, hx2, hc2⟩ : ∃ A2 m C2, m = n - (k + 1) ∧ (∀ w, (Instr.sliceAt 27 (.slice a' n c') (some (.int .i64 ((k : Int) + 1))) none none).run Try.prog w = .ok (.slice A2 m C2) w) ∧ BsAt wc A2 m (ms.drop (k + 1)) ∧ (m ≤ C2 ∧ (A2 = none → C2 = 0)) := by
      refine ⟨_, _, _, rfl, fun w => ?_, hx0.1.back hx0.2.1 hk, ⟨by have := hx0.2.1; omega, back_noneB hx0.2.2⟩⟩
      have := slB_back a' n c' (k + 1) hk w
      rw [show ((k + 1 : Nat) : Int) = (k : Int) + 1 by omega] at this
      exact this
    have hsl1 : ∀ w, (Instr.sliceAt 27 (.slice a' n c') none (some (.int .i64 (k : Int))) none).run Try.prog w = .ok (.slice a' k c') w := slB_front a' n c' k HC.out.1
    have HX2 := Lib.hid hx2
    have HC2 := Lib.hid hc2
    have HNN : Hid (n ≤ 10000 ∧ k ≤ 10000 ∧ m ≤ 10000) := Lib.hid (by omega)
    have HSZ : Hid ((ms.take k).length = k) := Lib.hid (by rw [List.length_take, HN1.out]; omega)
    have HEQ : Hid (ms.take k ++ ms.drop (k + 1) = ms.eraseIdx k) := Lib.hid (List.eraseIdx_eq_take_drop_succ _ _).symm
    have HKS : Hid (∀ W, Below wc.heap.size wc W → 0 ≤ W.heap.size) := Lib.hid fun W _ => Nat.zero_le _
    have HKT : Hid (∀ W z, Below wc.heap.size wc W → 0 ≤ (W.setCell ⟨b, 1, none⟩ z).heap.size) := Lib.hid fun W z _ => Nat.zero_le _
    have HW0 : Hid (Below wc.heap.size wc wc.drew) := Lib.hid (Below.refl wc.heap.size wc).drew
    have hk0 := HKS.out _ HW0.out
    have ck0 := HQ.out.c1
    clear hx0 hm hx2 hc2
    go_upto_region 5 with fail
    go_cut [] from 38 to 56 (fun wx => ∃ u2, Bd B wx b v2 u2 (ps.eraseIdx k) (ms.eraseIdx k) ∧ wc.grownBy wx (some b))
    case first =>
      go_wp2_with fail
      refine wp_region_held_drew (S := fun w' => 0 ≤ w'.heap.size) (by kernel_rfl) ?_ (fun hH => ?_)
      · exact hk0
      refine tkH 0 ?_ ?_ ?_
      rotate_left
      · intro w hSw
        try dsimp only at hSw
        go_simp
        all_goals with_reducible rfl
      try simp only [pt]
      refine tkH 2 ?_ ?_ ?_
      rotate_left
      · intro w hSw
        try dsimp only at hSw
        go_simp
        all_goals with_reducible rfl
      try simp only [pt]
      refine tkH 3 ?_ ?_ ?_
      rotate_left
      · intro w hSw
        try dsimp only at hSw
        go_simp
        all_goals with_reducible rfl
      try simp only [pt]
      refine tkH 4 ?_ ?_ ?_
      rotate_left
      · intro w hSw
        try dsimp only at hSw
        go_simp
        all_goals with_reducible rfl
      try simp only [pt]
      refine tkH 6 ?_ ?_ ?_
      rotate_left
      · intro w hSw
        try dsimp only at hSw
        go_simp
        all_goals with_reducible rfl
      try simp only [pt]
      refine tkH 9 ?_ ?_ ?_
      rotate_left
      · intro w hSw
        try dsimp only at hSw
        go_simp
        all_goals with_reducible rfl
      try simp only [pt]
      refine tkH 10 ?_ ?_ ?_
      rotate_left
      · intro w hSw
        try dsimp only at hSw
        go_simp
        all_goals with_reducible rfl
      try simp only [pt]
      refine tkH 11 ?_ ?_ ?_
      rotate_left
      · intro w hSw
        try dsimp only at hSw
        go_simp
        all_goals with_reducible rfl
      try simp only [pt]
      refine tkH 13 ?_ ?_ ?_
      rotate_left
      · intro w hSw
        try dsimp only at hSw
        go_simp
        all_goals with_reducible rfl
      try simp only [pt]
      refine tkH 14 ?_ ?_ ?_
      rotate_left
      · intro w hSw
        try dsimp only at hSw
        go_simp
        all_goals with_reducible rfl
      try simp only [pt]
      refine wpAnyH_ready (rs := [1, 5, 12]) (by kernel_rfl) (by simp) ?_
      refine rdH (fun K hK => ?_) ?_
      · go_simp
        have HW1 : Hid (Below wc.heap.size wc (wc.drew.alloc (.cells #[] 4))) := Lib.hid (Below.step HW0.out (.cells #[] 4) (Below.refl _ _))
        have hk1 := HKS.out _ HW1.out
        have ck1 : (wc.alloc (.cells #[] 4)).cell? ⟨b, 1, none⟩ = some (Value.slice a' n c') := (HQ.out.next HW1.out).c1
        have HROW : Hid (RowB wc.heap.size (wc.drew.alloc (.cells #[] 4)) (.slice (some ⟨wc.heap.size, 0, none⟩) 0 0) []) := Lib.hid (by
          have := (rowB_new wc.drew).lower (show wc.heap.size ≤ wc.drew.heap.size from HW0.out.size)
          rw [show wc.drew.heap.size = wc.heap.size by simp] at this
          exact this)
        refine hK.out _ _ ?_ (fun hH => ?_)
        · exact hk1
        clear hK K
        try simp only [pt]
        refine wpAnyH_ready (rs := [5, 12]) (by kernel_rfl) (by simp) ?_
        refine rdH (fun K hK => ?_) ?_
        · go_simp
          refine hK.out _ _ ?_ (fun hH => ?_)
          · exact hk1
          clear hK K
          try simp only [pt]
          refine tkH 7 ?_ ?_ ?_
          rotate_left
          · intro w hSw
            try dsimp only at hSw
            go_simp
            all_goals with_reducible rfl
          try simp only [pt]
          refine wpAnyH_ready (rs := [8, 12]) (by kernel_rfl) (by simp) ?_
          refine rdH (fun K hK => ?_) ?_
          · obtain ⟨a1, c1', w6, hrun, hrw6, hgr6, _⟩ := run_appB (wc.drew.alloc (.cells #[] 4)) 27 wc.heap.size _ [] HROW.out a' k c' (ms.take k) (bsAt_below HX.out HW1.out) HC.out.1 HC.out.2 (by have := HNN.out; simp only [List.length_nil]; omega) HW1.out.size
            simp only [List.length_nil, Nat.zero_add, List.nil_append] at hrun hrw6
            have HW2 := Lib.hid (belB HROW.out HW1.out hgr6 HW1.out.size)
            have hk2 := HKS.out _ HW2.out
            have HROW1 := Lib.hid hrw6
            have ck2 : w6.cell? ⟨b, 1, none⟩ = some (Value.slice a' n c') := (HQ.out.next HW2.out).c1
            clear hrw6 hgr6
            refine step_append_run (by rfl) (.tmp 39) (.tmp 45) 27 rfl _ _ _ rfl rfl hrun ?_
            refine hK.out _ _ ?_ (fun hH => ?_)
            · exact hk2
            clear hK K
            try simp only [pt]
            refine wpAnyH_ready (rs := [12]) (by kernel_rfl) (by simp) ?_
            refine rdH (fun K hK => ?_) ?_
            · go_simp
              refine hK.out _ _ ?_ (fun hH => ?_)
              · exact hk2
              clear hK K
              try simp only [pt]
              refine tkH 15 ?_ ?_ ?_
              rotate_left
              · intro w hSw
                try dsimp only at hSw
                go_simp
                all_goals with_reducible rfl
              try simp only [pt]
              refine wpAnyH_ready (rs := [16]) (by kernel_rfl) (by simp) ?_
              refine rdH (fun K hK => ?_) ?_
              · obtain ⟨a2, c2, w8, hrun9, hrw8, hgr8, _⟩ := run_appB w6 27 wc.heap.size _ (ms.take k) HROW1.out A2 m C2 (ms.drop (k + 1)) (bsAt_below HX2.out HW2.out) HC2.out.1 HC2.out.2 (by rw [HSZ.out]; have := HNN.out; omega) HW2.out.size
                rw [HSZ.out] at hrun9 hrw8
                have HW8 := Lib.hid (belB HROW1.out HW2.out hgr8 HW2.out.size)
                have hk8 := HKS.out _ HW8.out
                have HROW2 := Lib.hid hrw8
                have ck8 : w8.cell? ⟨b, 1, none⟩ = some (Value.slice a' n c') := (HQ.out.next HW8.out).c1
                have fk8 := (HQ.out.next HW8.out).f0 1
                clear hrw8 hgr8
                refine step_append_run (by rfl) (.tmp 46) (.tmp 53) 27 rfl _ _ _ rfl rfl hrun9 ?_
                refine hK.out _ _ ?_ (fun hH => ?_)
                · exact hk8
                clear hK K
                try simp only [pt]
                refine tkH 17 ?_ ?_ ?_
                rotate_left
                · intro w hSw
                  try dsimp only at hSw
                  go_simp
                  all_goals with_reducible rfl
                try simp only [pt]
                refine tkH 18 ?_ ?_ ?_
                rotate_left
                · intro w hSw
                  try dsimp only at hSw
                  go_simp
                  all_goals with_reducible rfl
                try simp only [pt]
                refine wpAnyH_ready (rs := [19]) (by kernel_rfl) (by simp) ?_
                refine rdH (fun K hK => ?_) ?_
                · go_simp
                  refine hK.out _ _ ?_ (fun hH => ?_)
                  · exact (HKT.out _ _ HW8.out)
                  clear hK K
                  try simp only [pt]
                  refine wpAnyH_done (by kernel_rfl) ?_ _
                  have HFIN := Lib.hid (bd_put1 HQ.out HW8.out (HROW2.out.lower (Nat.le_refl _)))
                  clear hrun hrun9
                  go_wp2_with fail
                  go_meet
                  case rel => exact ⟨_, HEQ.out ▸ HFIN.out.1, HFIN.out.2⟩
                exact AllReadyH.nil
              exact AllReadyH.nil
            exact AllReadyH.nil
          refine rdH (fun K hK => ?_) ?_
          · go_simp
            refine hK.out _ _ ?_ (fun hH => ?_)
            · exact hk1
            clear hK K
            try simp only [pt]
            refine tkH 15 ?_ ?_ ?_
            rotate_left
            · intro w hSw
              try dsimp only at hSw
              go_simp
              all_goals with_reducible rfl
            try simp only [pt]
            refine wpAnyH_ready (rs := [8]) (by kernel_rfl) (by simp) ?_
            refine rdH (fun K hK => ?_) ?_
            · obtain ⟨a1, c1', w6, hrun, hrw6, hgr6, _⟩ := run_appB (wc.drew.alloc (.cells #[] 4)) 27 wc.heap.size _ [] HROW.out a' k c' (ms.take k) (bsAt_below HX.out HW1.out) HC.out.1 HC.out.2 (by have := HNN.out; simp only [List.length_nil]; omega) HW1.out.size
              simp only [List.length_nil, Nat.zero_add, List.nil_append] at hrun hrw6
              have HW2 := Lib.hid (belB HROW.out HW1.out hgr6 HW1.out.size)
              have hk2 := HKS.out _ HW2.out
              have HROW1 := Lib.hid hrw6
              have ck2 : w6.cell? ⟨b, 1, none⟩ = some (Value.slice a' n c') := (HQ.out.next HW2.out).c1
              clear hrw6 hgr6
              refine step_append_run (by rfl) (.tmp 39) (.tmp 45) 27 rfl _ _ _ rfl rfl hrun ?_
              refine hK.out _ _ ?_ (fun hH => ?_)
              · exact hk2
              clear hK K
              try simp only [pt]
              refine wpAnyH_ready (rs := [16]) (by kernel_rfl) (by simp) ?_
              refine rdH (fun K hK => ?_) ?_
              · obtain ⟨a2, c2, w8, hrun9, hrw8, hgr8, _⟩ := run_appB w6 27 wc.heap.size _ (ms.take k) HROW1.out A2 m C2 (ms.drop (k + 1)) (bsAt_below HX2.out HW2.out) HC2.out.1 HC2.out.2 (by rw [HSZ.out]; have := HNN.out; omega) HW2.out.size
                rw [HSZ.out] at hrun9 hrw8
                have HW8 := Lib.hid (belB HROW1.out HW2.out hgr8 HW2.out.size)
                have hk8 := HKS.out _ HW8.out
                have HROW2 := Lib.hid hrw8
                have ck8 : w8.cell? ⟨b, 1, none⟩ = some (Value.slice a' n c') := (HQ.out.next HW8.out).c1
                have fk8 := (HQ.out.next HW8.out).f0 1
                clear hrw8 hgr8
                refine step_append_run (by rfl) (.tmp 46) (.tmp 53) 27 rfl _ _ _ rfl rfl hrun9 ?_
                refine hK.out _ _ ?_ (fun hH => ?_)
                · exact hk8
                clear hK K
                try simp only [pt]
                refine tkH 17 ?_ ?_ ?_
                rotate_left
                · intro w hSw
                  try dsimp only at hSw
                  go_simp
                  all_goals with_reducible rfl
                try simp only [pt]
                refine tkH 18 ?_ ?_ ?_
                rotate_left
                · intro w hSw
                  try dsimp only at hSw
                  go_simp
                  all_goals with_reducible rfl
                try simp only [pt]
                refine wpAnyH_ready (rs := [19]) (by kernel_rfl) (by simp) ?_
                refine rdH (fun K hK => ?_) ?_
                · go_simp
                  refine hK.out _ _ ?_ (fun hH => ?_)
                  · exact (HKT.out _ _ HW8.out)
                  clear hK K
                  try simp only [pt]
                  refine wpAnyH_done (by kernel_rfl) ?_ _
                  have HFIN := Lib.hid (bd_put1 HQ.out HW8.out (HROW2.out.lower (Nat.le_refl _)))
                  clear hrun hrun9
                  go_wp2_with fail
                  go_meet
                  case rel => exact ⟨_, HEQ.out ▸ HFIN.out.1, HFIN.out.2⟩
                exact AllReadyH.nil
              exact AllReadyH.nil
            exact AllReadyH.nil
          exact AllReadyH.nil
        refine rdH (fun K hK => ?_) ?_
        · go_simp
          refine hK.out _ _ ?_ (fun hH => ?_)
          · exact hk1
          clear hK K
          try simp only [pt]
          refine tkH 15 ?_ ?_ ?_
          rotate_left
          · intro w hSw
            try dsimp only at hSw
            go_simp
            all_goals with_reducible rfl
          try simp only [pt]
          refine wpAnyH_ready (rs := [5]) (by kernel_rfl) (by simp) ?_
          refine rdH (fun K hK => ?_) ?_
          · go_simp
            refine hK.out _ _ ?_ (fun hH => ?_)
            · exact hk1
            clear hK K
            try simp only [pt]
            refine tkH 7 ?_ ?_ ?_
            rotate_left
            · intro w hSw
              try dsimp only at hSw
              go_simp
              all_goals with_reducible rfl
            try simp only [pt]
            refine wpAnyH_ready (rs := [8]) (by kernel_rfl) (by simp) ?_
            refine rdH (fun K hK => ?_) ?_
            · obtain ⟨a1, c1', w6, hrun, hrw6, hgr6, _⟩ := run_appB (wc.drew.alloc (.cells #[] 4)) 27 wc.heap.size _ [] HROW.out a' k c' (ms.take k) (bsAt_below HX.out HW1.out) HC.out.1 HC.out.2 (by have := HNN.out; simp only [List.length_nil]; omega) HW1.out.size
              simp only [List.length_nil, Nat.zero_add, List.nil_append] at hrun hrw6
              have HW2 := Lib.hid (belB HROW.out HW1.out hgr6 HW1.out.size)
              have hk2 := HKS.out _ HW2.out
              have HROW1 := Lib.hid hrw6
              have ck2 : w6.cell? ⟨b, 1, none⟩ = some (Value.slice a' n c') := (HQ.out.next HW2.out).c1
              clear hrw6 hgr6
              refine step_append_run (by rfl) (.tmp 39) (.tmp 45) 27 rfl _ _ _ rfl rfl hrun ?_
              refine hK.out _ _ ?_ (fun hH => ?_)
              · exact hk2
              clear hK K
              try simp only [pt]
              refine wpAnyH_ready (rs := [16]) (by kernel_rfl) (by simp) ?_
              refine rdH (fun K hK => ?_) ?_
              · obtain ⟨a2, c2, w8, hrun9, hrw8, hgr8, _⟩ := run_appB w6 27 wc.heap.size _ (ms.take k) HROW1.out A2 m C2 (ms.drop (k + 1)) (bsAt_below HX2.out HW2.out) HC2.out.1 HC2.out.2 (by rw [HSZ.out]; have := HNN.out; omega) HW2.out.size
                rw [HSZ.out] at hrun9 hrw8
                have HW8 := Lib.hid (belB HROW1.out HW2.out hgr8 HW2.out.size)
                have hk8 := HKS.out _ HW8.out
                have HROW2 := Lib.hid hrw8
                have ck8 : w8.cell? ⟨b, 1, none⟩ = some (Value.slice a' n c') := (HQ.out.next HW8.out).c1
                have fk8 := (HQ.out.next HW8.out).f0 1
                clear hrw8 hgr8
                refine step_append_run (by rfl) (.tmp 46) (.tmp 53) 27 rfl _ _ _ rfl rfl hrun9 ?_
                refine hK.out _ _ ?_ (fun hH => ?_)
                · exact hk8
                clear hK K
                try simp only [pt]
                refine tkH 17 ?_ ?_ ?_
                rotate_left
                · intro w hSw
                  try dsimp only at hSw
                  go_simp
                  all_goals with_reducible rfl
                try simp only [pt]
                refine tkH 18 ?_ ?_ ?_
                rotate_left
                · intro w hSw
                  try dsimp only at hSw
                  go_simp
                  all_goals with_reducible rfl
                try simp only [pt]
                refine wpAnyH_ready (rs := [19]) (by kernel_rfl) (by simp) ?_
                refine rdH (fun K hK => ?_) ?_
                · go_simp
                  refine hK.out _ _ ?_ (fun hH => ?_)
                  · exact (HKT.out _ _ HW8.out)
                  clear hK K
                  try simp only [pt]
                  refine wpAnyH_done (by kernel_rfl) ?_ _
                  have HFIN := Lib.hid (bd_put1 HQ.out HW8.out (HROW2.out.lower (Nat.le_refl _)))
                  clear hrun hrun9
                  go_wp2_with fail
                  go_meet
                  case rel => exact ⟨_, HEQ.out ▸ HFIN.out.1, HFIN.out.2⟩
                exact AllReadyH.nil
              exact AllReadyH.nil
            exact AllReadyH.nil
          exact AllReadyH.nil
        exact AllReadyH.nil
      refine rdH (fun K hK => ?_) ?_
      · go_simp
        refine hK.out _ _ ?_ (fun hH => ?_)
        · exact hk0
        clear hK K
        try simp only [pt]
        refine tkH 7 ?_ ?_ ?_
        rotate_left
        · intro w hSw
          try dsimp only at hSw
          go_simp
          all_goals with_reducible rfl
        try simp only [pt]
        refine wpAnyH_ready (rs := [1, 12]) (by kernel_rfl) (by simp) ?_
        refine rdH (fun K hK => ?_) ?_
        · go_simp
          have HW1 : Hid (Below wc.heap.size wc (wc.drew.alloc (.cells #[] 4))) := Lib.hid (Below.step HW0.out (.cells #[] 4) (Below.refl _ _))
          have hk1 := HKS.out _ HW1.out
          have ck1 : (wc.alloc (.cells #[] 4)).cell? ⟨b, 1, none⟩ = some (Value.slice a' n c') := (HQ.out.next HW1.out).c1
          have HROW : Hid (RowB wc.heap.size (wc.drew.alloc (.cells #[] 4)) (.slice (some ⟨wc.heap.size, 0, none⟩) 0 0) []) := Lib.hid (by
            have := (rowB_new wc.drew).lower (show wc.heap.size ≤ wc.drew.heap.size from HW0.out.size)
            rw [show wc.drew.heap.size = wc.heap.size by simp] at this
            exact this)
          refine hK.out _ _ ?_ (fun hH => ?_)
          · exact hk1
          clear hK K
          try simp only [pt]
          refine wpAnyH_ready (rs := [8, 12]) (by kernel_rfl) (by simp) ?_
          refine rdH (fun K hK => ?_) ?_
          · obtain ⟨a1, c1', w6, hrun, hrw6, hgr6, _⟩ := run_appB (wc.drew.alloc (.cells #[] 4)) 27 wc.heap.size _ [] HROW.out a' k c' (ms.take k) (bsAt_below HX.out HW1.out) HC.out.1 HC.out.2 (by have := HNN.out; simp only [List.length_nil]; omega) HW1.out.size
            simp only [List.length_nil, Nat.zero_add, List.nil_append] at hrun hrw6
            have HW2 := Lib.hid (belB HROW.out HW1.out hgr6 HW1.out.size)
            have hk2 := HKS.out _ HW2.out
            have HROW1 := Lib.hid hrw6
            have ck2 : w6.cell? ⟨b, 1, none⟩ = some (Value.slice a' n c') := (HQ.out.next HW2.out).c1
            clear hrw6 hgr6
            refine step_append_run (by rfl) (.tmp 39) (.tmp 45) 27 rfl _ _ _ rfl rfl hrun ?_
            refine hK.out _ _ ?_ (fun hH => ?_)
            · exact hk2
            clear hK K
            try simp only [pt]
            refine wpAnyH_ready (rs := [12]) (by kernel_rfl) (by simp) ?_
            refine rdH (fun K hK => ?_) ?_
            · go_simp
              refine hK.out _ _ ?_ (fun hH => ?_)
              · exact hk2
              clear hK K
              try simp only [pt]
              refine tkH 15 ?_ ?_ ?_
              rotate_left
              · intro w hSw
                try dsimp only at hSw
                go_simp
                all_goals with_reducible rfl
              try simp only [pt]
              refine wpAnyH_ready (rs := [16]) (by kernel_rfl) (by simp) ?_
              refine rdH (fun K hK => ?_) ?_
              · obtain ⟨a2, c2, w8, hrun9, hrw8, hgr8, _⟩ := run_appB w6 27 wc.heap.size _ (ms.take k) HROW1.out A2 m C2 (ms.drop (k + 1)) (bsAt_below HX2.out HW2.out) HC2.out.1 HC2.out.2 (by rw [HSZ.out]; have := HNN.out; omega) HW2.out.size
                rw [HSZ.out] at hrun9 hrw8
                have HW8 := Lib.hid (belB HROW1.out HW2.out hgr8 HW2.out.size)
                have hk8 := HKS.out _ HW8.out
                have HROW2 := Lib.hid hrw8
                have ck8 : w8.cell? ⟨b, 1, none⟩ = some (Value.slice a' n c') := (HQ.out.next HW8.out).c1
                have fk8 := (HQ.out.next HW8.out).f0 1
                clear hrw8 hgr8
                refine step_append_run (by rfl) (.tmp 46) (.tmp 53) 27 rfl _ _ _ rfl rfl hrun9 ?_
                refine hK.out _ _ ?_ (fun hH => ?_)
                · exact hk8
                clear hK K
                try simp only [pt]
                refine tkH 17 ?_ ?_ ?_
                rotate_left
                · intro w hSw
                  try dsimp only at hSw
                  go_simp
                  all_goals with_reducible rfl
                try simp only [pt]
                refine tkH 18 ?_ ?_ ?_
                rotate_left
                · intro w hSw
                  try dsimp only at hSw
                  go_simp
                  all_goals with_reducible rfl
                try simp only [pt]
                refine wpAnyH_ready (rs := [19]) (by kernel_rfl) (by simp) ?_
                refine rdH (fun K hK => ?_) ?_
                · go_simp
                  refine hK.out _ _ ?_ (fun hH => ?_)
                  · exact (HKT.out _ _ HW8.out)
                  clear hK K
                  try simp only [pt]
                  refine wpAnyH_done (by kernel_rfl) ?_ _
                  have HFIN := Lib.hid (bd_put1 HQ.out HW8.out (HROW2.out.lower (Nat.le_refl _)))
                  clear hrun hrun9
                  go_wp2_with fail
                  go_meet
                  case rel => exact ⟨_, HEQ.out ▸ HFIN.out.1, HFIN.out.2⟩
                exact AllReadyH.nil
              exact AllReadyH.nil
            exact AllReadyH.nil
          refine rdH (fun K hK => ?_) ?_
          · go_simp
            refine hK.out _ _ ?_ (fun hH => ?_)
            · exact hk1
            clear hK K
            try simp only [pt]
            refine tkH 15 ?_ ?_ ?_
            rotate_left
            · intro w hSw
              try dsimp only at hSw
              go_simp
              all_goals with_reducible rfl
            try simp only [pt]
            refine wpAnyH_ready (rs := [8]) (by kernel_rfl) (by simp) ?_
            refine rdH (fun K hK => ?_) ?_
            · obtain ⟨a1, c1', w6, hrun, hrw6, hgr6, _⟩ := run_appB (wc.drew.alloc (.cells #[] 4)) 27 wc.heap.size _ [] HROW.out a' k c' (ms.take k) (bsAt_below HX.out HW1.out) HC.out.1 HC.out.2 (by have := HNN.out; simp only [List.length_nil]; omega) HW1.out.size
              simp only [List.length_nil, Nat.zero_add, List.nil_append] at hrun hrw6
              have HW2 := Lib.hid (belB HROW.out HW1.out hgr6 HW1.out.size)
              have hk2 := HKS.out _ HW2.out
              have HROW1 := Lib.hid hrw6
              have ck2 : w6.cell? ⟨b, 1, none⟩ = some (Value.slice a' n c') := (HQ.out.next HW2.out).c1
              clear hrw6 hgr6
              refine step_append_run (by rfl) (.tmp 39) (.tmp 45) 27 rfl _ _ _ rfl rfl hrun ?_
              refine hK.out _ _ ?_ (fun hH => ?_)
              · exact hk2
              clear hK K
              try simp only [pt]
              refine wpAnyH_ready (rs := [16]) (by kernel_rfl) (by simp) ?_
              refine rdH (fun K hK => ?_) ?_
              · obtain ⟨a2, c2, w8, hrun9, hrw8, hgr8, _⟩ := run_appB w6 27 wc.heap.size _ (ms.take k) HROW1.out A2 m C2 (ms.drop (k + 1)) (bsAt_below HX2.out HW2.out) HC2.out.1 HC2.out.2 (by rw [HSZ.out]; have := HNN.out; omega) HW2.out.size
                rw [HSZ.out] at hrun9 hrw8
                have HW8 := Lib.hid (belB HROW1.out HW2.out hgr8 HW2.out.size)
                have hk8 := HKS.out _ HW8.out
                have HROW2 := Lib.hid hrw8
                have ck8 : w8.cell? ⟨b, 1, none⟩ = some (Value.slice a' n c') := (HQ.out.next HW8.out).c1
                have fk8 := (HQ.out.next HW8.out).f0 1
                clear hrw8 hgr8
                refine step_append_run (by rfl) (.tmp 46) (.tmp 53) 27 rfl _ _ _ rfl rfl hrun9 ?_
                refine hK.out _ _ ?_ (fun hH => ?_)
                · exact hk8
                clear hK K
                try simp only [pt]
                refine tkH 17 ?_ ?_ ?_
                rotate_left
                · intro w hSw
                  try dsimp only at hSw
                  go_simp
                  all_goals with_reducible rfl
                try simp only [pt]
                refine tkH 18 ?_ ?_ ?_
                rotate_left
                · intro w hSw
                  try dsimp only at hSw
                  go_simp
                  all_goals with_reducible rfl
                try simp only [pt]
                refine wpAnyH_ready (rs := [19]) (by kernel_rfl) (by simp) ?_
                refine rdH (fun K hK => ?_) ?_
                · go_simp
                  refine hK.out _ _ ?_ (fun hH => ?_)
                  · exact (HKT.out _ _ HW8.out)
                  clear hK K
                  try simp only [pt]
                  refine wpAnyH_done (by kernel_rfl) ?_ _
                  have HFIN := Lib.hid (bd_put1 HQ.out HW8.out (HROW2.out.lower (Nat.le_refl _)))
                  clear hrun hrun9
                  go_wp2_with fail
                  go_meet
                  case rel => exact ⟨_, HEQ.out ▸ HFIN.out.1, HFIN.out.2⟩
                exact AllReadyH.nil
              exact AllReadyH.nil
            exact AllReadyH.nil
          exact AllReadyH.nil
        refine rdH (fun K hK => ?_) ?_
        · go_simp
          refine hK.out _ _ ?_ (fun hH => ?_)
          · exact hk0
          clear hK K
          try simp only [pt]
          refine tkH 15 ?_ ?_ ?_
          rotate_left
          · intro w hSw
            try dsimp only at hSw
            go_simp
            all_goals with_reducible rfl
          try simp only [pt]
          refine wpAnyH_ready (rs := [1]) (by kernel_rfl) (by simp) ?_
          refine rdH (fun K hK => ?_) ?_
          · go_simp
            have HW1 : Hid (Below wc.heap.size wc (wc.drew.alloc (.cells #[] 4))) := Lib.hid (Below.step HW0.out (.cells #[] 4) (Below.refl _ _))
            have hk1 := HKS.out _ HW1.out
            have ck1 : (wc.alloc (.cells #[] 4)).cell? ⟨b, 1, none⟩ = some (Value.slice a' n c') := (HQ.out.next HW1.out).c1
            have HROW : Hid (RowB wc.heap.size (wc.drew.alloc (.cells #[] 4)) (.slice (some ⟨wc.heap.size, 0, none⟩) 0 0) []) := Lib.hid (by
              have := (rowB_new wc.drew).lower (show wc.heap.size ≤ wc.drew.heap.size from HW0.out.size)
              rw [show wc.drew.heap.size = wc.heap.size by simp] at this
              exact this)
            refine hK.out _ _ ?_ (fun hH => ?_)
            · exact hk1
            clear hK K
            try simp only [pt]
            refine wpAnyH_ready (rs := [8]) (by kernel_rfl) (by simp) ?_
            refine rdH (fun K hK => ?_) ?_
            · obtain ⟨a1, c1', w6, hrun, hrw6, hgr6, _⟩ := run_appB (wc.drew.alloc (.cells #[] 4)) 27 wc.heap.size _ [] HROW.out a' k c' (ms.take k) (bsAt_below HX.out HW1.out) HC.out.1 HC.out.2 (by have := HNN.out; simp only [List.length_nil]; omega) HW1.out.size
              simp only [List.length_nil, Nat.zero_add, List.nil_append] at hrun hrw6
              have HW2 := Lib.hid (belB HROW.out HW1.out hgr6 HW1.out.size)
              have hk2 := HKS.out _ HW2.out
              have HROW1 := Lib.hid hrw6
              have ck2 : w6.cell? ⟨b, 1, none⟩ = some (Value.slice a' n c') := (HQ.out.next HW2.out).c1
              clear hrw6 hgr6
              refine step_append_run (by rfl) (.tmp 39) (.tmp 45) 27 rfl _ _ _ rfl rfl hrun ?_
              refine hK.out _ _ ?_ (fun hH => ?_)
              · exact hk2
              clear hK K
              try simp only [pt]
              refine wpAnyH_ready (rs := [16]) (by kernel_rfl) (by simp) ?_
              refine rdH (fun K hK => ?_) ?_
              · obtain ⟨a2, c2, w8, hrun9, hrw8, hgr8, _⟩ := run_appB w6 27 wc.heap.size _ (ms.take k) HROW1.out A2 m C2 (ms.drop (k + 1)) (bsAt_below HX2.out HW2.out) HC2.out.1 HC2.out.2 (by rw [HSZ.out]; have := HNN.out; omega) HW2.out.size
                rw [HSZ.out] at hrun9 hrw8
                have HW8 := Lib.hid (belB HROW1.out HW2.out hgr8 HW2.out.size)
                have hk8 := HKS.out _ HW8.out
                have HROW2 := Lib.hid hrw8
                have ck8 : w8.cell? ⟨b, 1, none⟩ = some (Value.slice a' n c') := (HQ.out.next HW8.out).c1
                have fk8 := (HQ.out.next HW8.out).f0 1
                clear hrw8 hgr8
                refine step_append_run (by rfl) (.tmp 46) (.tmp 53) 27 rfl _ _ _ rfl rfl hrun9 ?_
                refine hK.out _ _ ?_ (fun hH => ?_)
                · exact hk8
                clear hK K
                try simp only [pt]
                refine tkH 17 ?_ ?_ ?_
                rotate_left
                · intro w hSw
                  try dsimp only at hSw
                  go_simp
                  all_goals with_reducible rfl
                try simp only [pt]
                refine tkH 18 ?_ ?_ ?_
                rotate_left
                · intro w hSw
                  try dsimp only at hSw
                  go_simp
                  all_goals with_reducible rfl
                try simp only [pt]
                refine wpAnyH_ready (rs := [19]) (by kernel_rfl) (by simp) ?_
                refine rdH (fun K hK => ?_) ?_
                · go_simp
                  refine hK.out _ _ ?_ (fun hH => ?_)
                  · exact (HKT.out _ _ HW8.out)
                  clear hK K
                  try simp only [pt]
                  refine wpAnyH_done (by kernel_rfl) ?_ _
                  have HFIN := Lib.hid (bd_put1 HQ.out HW8.out (HROW2.out.lower (Nat.le_refl _)))
                  clear hrun hrun9
                  go_wp2_with fail
                  go_meet
                  case rel => exact ⟨_, HEQ.out ▸ HFIN.out.1, HFIN.out.2⟩
                exact AllReadyH.nil
              exact AllReadyH.nil
            exact AllReadyH.nil
          exact AllReadyH.nil
        exact AllReadyH.nil
      refine rdH (fun K hK => ?_) ?_
      · go_simp
        refine hK.out _ _ ?_ (fun hH => ?_)
        · exact hk0
        clear hK K
        try simp only [pt]
        refine tkH 15 ?_ ?_ ?_
        rotate_left
        · intro w hSw
          try dsimp only at hSw
          go_simp
          all_goals with_reducible rfl
        try simp only [pt]
        refine wpAnyH_ready (rs := [1, 5]) (by kernel_rfl) (by simp) ?_
        refine rdH (fun K hK => ?_) ?_
        · go_simp
          have HW1 : Hid (Below wc.heap.size wc (wc.drew.alloc (.cells #[] 4))) := Lib.hid (Below.step HW0.out (.cells #[] 4) (Below.refl _ _))
          have hk1 := HKS.out _ HW1.out
          have ck1 : (wc.alloc (.cells #[] 4)).cell? ⟨b, 1, none⟩ = some (Value.slice a' n c') := (HQ.out.next HW1.out).c1
          have HROW : Hid (RowB wc.heap.size (wc.drew.alloc (.cells #[] 4)) (.slice (some ⟨wc.heap.size, 0, none⟩) 0 0) []) := Lib.hid (by
            have := (rowB_new wc.drew).lower (show wc.heap.size ≤ wc.drew.heap.size from HW0.out.size)
            rw [show wc.drew.heap.size = wc.heap.size by simp] at this
            exact this)
          refine hK.out _ _ ?_ (fun hH => ?_)
          · exact hk1
          clear hK K
          try simp only [pt]
          refine wpAnyH_ready (rs := [5]) (by kernel_rfl) (by simp) ?_
          refine rdH (fun K hK => ?_) ?_
          · go_simp
            refine hK.out _ _ ?_ (fun hH => ?_)
            · exact hk1
            clear hK K
            try simp only [pt]
            refine tkH 7 ?_ ?_ ?_
            rotate_left
            · intro w hSw
              try dsimp only at hSw
              go_simp
              all_goals with_reducible rfl
            try simp only [pt]
            refine wpAnyH_ready (rs := [8]) (by kernel_rfl) (by simp) ?_
            refine rdH (fun K hK => ?_) ?_
            · obtain ⟨a1, c1', w6, hrun, hrw6, hgr6, _⟩ := run_appB (wc.drew.alloc (.cells #[] 4)) 27 wc.heap.size _ [] HROW.out a' k c' (ms.take k) (bsAt_below HX.out HW1.out) HC.out.1 HC.out.2 (by have := HNN.out; simp only [List.length_nil]; omega) HW1.out.size
              simp only [List.length_nil, Nat.zero_add, List.nil_append] at hrun hrw6
              have HW2 := Lib.hid (belB HROW.out HW1.out hgr6 HW1.out.size)
              have hk2 := HKS.out _ HW2.out
              have HROW1 := Lib.hid hrw6
              have ck2 : w6.cell? ⟨b, 1, none⟩ = some (Value.slice a' n c') := (HQ.out.next HW2.out).c1
              clear hrw6 hgr6
              refine step_append_run (by rfl) (.tmp 39) (.tmp 45) 27 rfl _ _ _ rfl rfl hrun ?_
              refine hK.out _ _ ?_ (fun hH => ?_)
              · exact hk2
              clear hK K
              try simp only [pt]
              refine wpAnyH_ready (rs := [16]) (by kernel_rfl) (by simp) ?_
              refine rdH (fun K hK => ?_) ?_
              · obtain ⟨a2, c2, w8, hrun9, hrw8, hgr8, _⟩ := run_appB w6 27 wc.heap.size _ (ms.take k) HROW1.out A2 m C2 (ms.drop (k + 1)) (bsAt_below HX2.out HW2.out) HC2.out.1 HC2.out.2 (by rw [HSZ.out]; have := HNN.out; omega) HW2.out.size
                rw [HSZ.out] at hrun9 hrw8
                have HW8 := Lib.hid (belB HROW1.out HW2.out hgr8 HW2.out.size)
                have hk8 := HKS.out _ HW8.out
                have HROW2 := Lib.hid hrw8
                have ck8 : w8.cell? ⟨b, 1, none⟩ = some (Value.slice a' n c') := (HQ.out.next HW8.out).c1
                have fk8 := (HQ.out.next HW8.out).f0 1
                clear hrw8 hgr8
                refine step_append_run (by rfl) (.tmp 46) (.tmp 53) 27 rfl _ _ _ rfl rfl hrun9 ?_
                refine hK.out _ _ ?_ (fun hH => ?_)
                · exact hk8
                clear hK K
                try simp only [pt]
                refine tkH 17 ?_ ?_ ?_
                rotate_left
                · intro w hSw
                  try dsimp only at hSw
                  go_simp
                  all_goals with_reducible rfl
                try simp only [pt]
                refine tkH 18 ?_ ?_ ?_
                rotate_left
                · intro w hSw
                  try dsimp only at hSw
                  go_simp
                  all_goals with_reducible rfl
                try simp only [pt]
                refine wpAnyH_ready (rs := [19]) (by kernel_rfl) (by simp) ?_
                refine rdH (fun K hK => ?_) ?_
                · go_simp
                  refine hK.out _ _ ?_ (fun hH => ?_)
                  · exact (HKT.out _ _ HW8.out)
                  clear hK K
                  try simp only [pt]
                  refine wpAnyH_done (by kernel_rfl) ?_ _
                  have HFIN := Lib.hid (bd_put1 HQ.out HW8.out (HROW2.out.lower (Nat.le_refl _)))
                  clear hrun hrun9
                  go_wp2_with fail
                  go_meet
                  case rel => exact ⟨_, HEQ.out ▸ HFIN.out.1, HFIN.out.2⟩
                exact AllReadyH.nil
              exact AllReadyH.nil
            exact AllReadyH.nil
          exact AllReadyH.nil
        refine rdH (fun K hK => ?_) ?_
        · go_simp
          refine hK.out _ _ ?_ (fun hH => ?_)
          · exact hk0
          clear hK K
          try simp only [pt]
          refine tkH 7 ?_ ?_ ?_
          rotate_left
          · intro w hSw
            try dsimp only at hSw
            go_simp
            all_goals with_reducible rfl
          try simp only [pt]
          refine wpAnyH_ready (rs := [1]) (by kernel_rfl) (by simp) ?_
          refine rdH (fun K hK => ?_) ?_
          · go_simp
            have HW1 : Hid (Below wc.heap.size wc (wc.drew.alloc (.cells #[] 4))) := Lib.hid (Below.step HW0.out (.cells #[] 4) (Below.refl _ _))
            have hk1 := HKS.out _ HW1.out
            have ck1 : (wc.alloc (.cells #[] 4)).cell? ⟨b, 1, none⟩ = some (Value.slice a' n c') := (HQ.out.next HW1.out).c1
            have HROW : Hid (RowB wc.heap.size (wc.drew.alloc (.cells #[] 4)) (.slice (some ⟨wc.heap.size, 0, none⟩) 0 0) []) := Lib.hid (by
              have := (rowB_new wc.drew).lower (show wc.heap.size ≤ wc.drew.heap.size from HW0.out.size)
              rw [show wc.drew.heap.size = wc.heap.size by simp] at this
              exact this)
            refine hK.out _ _ ?_ (fun hH => ?_)
            · exact hk1
            clear hK K
            try simp only [pt]
            refine wpAnyH_ready (rs := [8]) (by kernel_rfl) (by simp) ?_
            refine rdH (fun K hK => ?_) ?_
            · obtain ⟨a1, c1', w6, hrun, hrw6, hgr6, _⟩ := run_appB (wc.drew.alloc (.cells #[] 4)) 27 wc.heap.size _ [] HROW.out a' k c' (ms.take k) (bsAt_below HX.out HW1.out) HC.out.1 HC.out.2 (by have := HNN.out; simp only [List.length_nil]; omega) HW1.out.size
              simp only [List.length_nil, Nat.zero_add, List.nil_append] at hrun hrw6
              have HW2 := Lib.hid (belB HROW.out HW1.out hgr6 HW1.out.size)
              have hk2 := HKS.out _ HW2.out
              have HROW1 := Lib.hid hrw6
              have ck2 : w6.cell? ⟨b, 1, none⟩ = some (Value.slice a' n c') := (HQ.out.next HW2.out).c1
              clear hrw6 hgr6
              refine step_append_run (by rfl) (.tmp 39) (.tmp 45) 27 rfl _ _ _ rfl rfl hrun ?_
              refine hK.out _ _ ?_ (fun hH => ?_)
              · exact hk2
              clear hK K
              try simp only [pt]
              refine wpAnyH_ready (rs := [16]) (by kernel_rfl) (by simp) ?_
              refine rdH (fun K hK => ?_) ?_
              · obtain ⟨a2, c2, w8, hrun9, hrw8, hgr8, _⟩ := run_appB w6 27 wc.heap.size _ (ms.take k) HROW1.out A2 m C2 (ms.drop (k + 1)) (bsAt_below HX2.out HW2.out) HC2.out.1 HC2.out.2 (by rw [HSZ.out]; have := HNN.out; omega) HW2.out.size
                rw [HSZ.out] at hrun9 hrw8
                have HW8 := Lib.hid (belB HROW1.out HW2.out hgr8 HW2.out.size)
                have hk8 := HKS.out _ HW8.out
                have HROW2 := Lib.hid hrw8
                have ck8 : w8.cell? ⟨b, 1, none⟩ = some (Value.slice a' n c') := (HQ.out.next HW8.out).c1
                have fk8 := (HQ.out.next HW8.out).f0 1
                clear hrw8 hgr8
                refine step_append_run (by rfl) (.tmp 46) (.tmp 53) 27 rfl _ _ _ rfl rfl hrun9 ?_
                refine hK.out _ _ ?_ (fun hH => ?_)
                · exact hk8
                clear hK K
                try simp only [pt]
                refine tkH 17 ?_ ?_ ?_
                rotate_left
                · intro w hSw
                  try dsimp only at hSw
                  go_simp
                  all_goals with_reducible rfl
                try simp only [pt]
                refine tkH 18 ?_ ?_ ?_
                rotate_left
                · intro w hSw
                  try dsimp only at hSw
                  go_simp
                  all_goals with_reducible rfl
                try simp only [pt]
                refine wpAnyH_ready (rs := [19]) (by kernel_rfl) (by simp) ?_
                refine rdH (fun K hK => ?_) ?_
                · go_simp
                  refine hK.out _ _ ?_ (fun hH => ?_)
                  · exact (HKT.out _ _ HW8.out)
                  clear hK K
                  try simp only [pt]
                  refine wpAnyH_done (by kernel_rfl) ?_ _
                  have HFIN := Lib.hid (bd_put1 HQ.out HW8.out (HROW2.out.lower (Nat.le_refl _)))
                  clear hrun hrun9
                  go_wp2_with fail
                  go_meet
                  case rel => exact ⟨_, HEQ.out ▸ HFIN.out.1, HFIN.out.2⟩
                exact AllReadyH.nil
              exact AllReadyH.nil
            exact AllReadyH.nil
          exact AllReadyH.nil
        exact AllReadyH.nil
      exact AllReadyH.nil
    case rest =>
      obtain ⟨u3, hq, hg⟩ := hcut
      have hg2 := World.grownBy.trans HG1.out hg
      have hlz := (Array.getElem?_eq_some_iff.1 HZ.out).1
      have hz := (hg2.block w.heap.size hlz (fun e => HNZ.out (by cases e; rfl))).trans HZ.out
      have hp := (hg2.block w1.heap.size (Array.getElem?_eq_some_iff.1 HPB.out).1 (fun e => HNP.out (by cases e; rfl))).trans HPB.out
      have d0 := cell_at hp 0 (.int .i64 pf) rfl
      have d1 := cell_at hp 1 (.int .i64 pt) rfl
      have d2 := cell_at hp 2 (.string pd) rfl
      have z0 := cell_at hz 0 (.int .i64 0) rfl
      have z1 := cell_at hz 1 (.int .i64 0) rfl
      have z2 := cell_at hz 2 (.string ⟨#[]⟩) rfl
      have y0 := unfrozen_at hz 0
      have y1 := unfrozen_at hz 1
      have y2 := unfrozen_at hz 2
      have HFIN := Lib.hid (hq.set3 (r := w.heap.size) (Ne.symm HNZ.out) (fun e => by have := HLOW.out _ e; omega) (fun e => by
        obtain ⟨cur, hc⟩ := hq.mks.typ _ e
        exact two_types hc hz (by decide) rfl) (.int .i64 pf) (.int .i64 pt) (.string pd))
      have HGF := Lib.hid (grown_set3 (r := w.heap.size) (World.grownBy.trans (grownOf (some b) HB2.out) hg2) (Nat.le_refl _) (.int .i64 pf) (.int .i64 pt) (.string pd))
      clear hq hg hg2 hz hp hlz hk0 ck0 HKS HKT HX HC HX2 HC2 HW0 HQ HSZ HEQ HNN hsl1 hsl2
      go_wp2
      refine bodyPost_ret (v := .tuple #[.agg #[.int .i64 pf, .int .i64 pt, .string pd], .bool true]) (by simp [results, Try.results21, go_sem, z0, z1, z2]) rfl ⟨rfl, ⟨_, _, HFIN.out⟩, HGF.out⟩
end
end Go.Proofs.Ytjnjpphbclepbaa
