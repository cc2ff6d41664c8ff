/- The walk of UpdateParts. -/
import Derived.Test.YtpdpmdbdnpemnaaDoorUD
import Derived.Deep.RegionHeld3
import Derived.Deep.RegionWith
import Derived.Deep.QuietTactic
import Derived.BigQuiet
namespace Go.Proofs.YtpdpmdbdnpemnaaDoor
open Go Go.RowKit
set_option maxHeartbeats 8000000 in
set_option maxRecDepth 100000 in
theorem walkParts (a : Option Addr) (len cap : Nat) (us : List Up) (more : ByteArray) (w : World) (hd : Wd w) (h : IsUs w a len us) :
    Calls Tryd.prog 7 #[.slice a len cap, .string more] w fun e w' => e = .returned (.bool true) ∧ Below w.heap.size w w' := by
  have H := Lib.hid h
  have HD := Lib.hid hd
  have hsz := h.size
  clear h hd
  by_cases hg : gAll len us
  · have HG := fun w h => Lib.hid (greatAll_yes a len cap us hg w h)
    clear hg
    go_enter Tryd.func7, Tryd.ntmps7
    go_wp2_with fail
    refine (awake_yes _ HD.out).mono ?_
    rintro e w1 ⟨rfl, hb⟩
    have HB1 := Lib.hid hb
    clear hb
    go_wp2_with fail
    refine (HG _ (isUs_below H.out HB1.out)).out.mono ?_
    rintro e w2 ⟨rfl, hb⟩
    have HB2 := Lib.hid (Below.next HB1.out hb)
    clear hb HB1
    go_wp2_with fail
    refine (awake_yes _ (HD.out.below HB2.out)).mono ?_
    rintro e w3 ⟨rfl, hb⟩
    have HB3 := Lib.hid (Below.next HB2.out hb)
    clear hb HB2
    go_wp2
    go_ret
    exact ⟨rfl, HB3.out⟩
  have HG := fun w h => Lib.hid (greatAll_no a len cap us hg w h)
  clear hg
  by_cases hl : 20 < len
  · have q1 : decide ((20 : Int) < (len : Int)) = true := decide_eq_true (by omega)
    go_enter Tryd.func7, Tryd.ntmps7
    go_wp2_with fail
    refine (awake_yes _ HD.out).mono ?_
    rintro e w1 ⟨rfl, hb⟩
    have HB1 := Lib.hid hb
    clear hb
    go_wp2_with fail
    refine (HG _ (isUs_below H.out HB1.out)).out.mono ?_
    rintro e w2 ⟨rfl, hb⟩
    have HB2 := Lib.hid (Below.next HB1.out hb)
    clear hb HB1
    go_wp2_with fail
    refine (awake_yes _ (HD.out.below HB2.out)).mono ?_
    rintro e w3 ⟨rfl, hb⟩
    have HB3 := Lib.hid (Below.next HB2.out hb)
    clear hb HB2
    go_wp2
    go_ret
    exact ⟨rfl, HB3.out⟩
  by_cases hmo : 200 < more.size
  · have q1 : decide ((20 : Int) < (len : Int)) = false := decide_eq_false (by omega)
    have q2 : decide ((200 : Int) < (more.size : Int)) = true := decide_eq_true (by omega)
    go_enter Tryd.func7, Tryd.ntmps7
    go_wp2_with fail
    refine (awake_yes _ HD.out).mono ?_
    rintro e w1 ⟨rfl, hb⟩
    have HB1 := Lib.hid hb
    clear hb
    go_wp2_with fail
    refine (HG _ (isUs_below H.out HB1.out)).out.mono ?_
    rintro e w2 ⟨rfl, hb⟩
    have HB2 := Lib.hid (Below.next HB1.out hb)
    clear hb HB1
    go_wp2_with fail
    refine (awake_yes _ (HD.out.below HB2.out)).mono ?_
    rintro e w3 ⟨rfl, hb⟩
    have HB3 := Lib.hid (Below.next HB2.out hb)
    clear hb HB2
    go_wp2
    go_ret
    exact ⟨rfl, HB3.out⟩
  have q1 : decide ((20 : Int) < (len : Int)) = false := decide_eq_false (by omega)
  have q2 : decide ((200 : Int) < (more.size : Int)) = false := decide_eq_false (by omega)
  go_enter Tryd.func7, Tryd.ntmps7
  go_wp2_with fail
  refine (awake_yes _ HD.out).mono ?_
  rintro e w1 ⟨rfl, hb⟩
  have HB1 := Lib.hid hb
  clear hb
  go_wp2_with fail
  refine (HG _ (isUs_below H.out HB1.out)).out.mono ?_
  rintro e w2 ⟨rfl, hb⟩
  have HB2 := Lib.hid (Below.next HB1.out hb)
  clear hb HB1
  have HP := Lib.hid (P1.start HD.out HB2.out)
  clear HB2 HG
  go_wp2_with fail
  generalize hbw : w2.heap.size = bw at *
  clear hbw
  go_loopw [6, 34] (fun v6 v34 wr => ∃ k : Nat, k ≤ len ∧ v6 = .int .i64 k ∧ v34 = .int .i64 k ∧ P1 w wr bw (catU (us.take k)) ∧ ∀ i, i < k → mayE (us.getD i up0) = 0) (fun _ v34 _ => len - (intOf v34).toNat)
  case atStart => exact ⟨0, Nat.zero_le _, rfl, rfl, HP.out, fun i hi => absurd hi (by omega)⟩
  case round =>
    obtain ⟨k, hk, rfl, rfl, hp, hmay⟩ := hrel
    clear HP
    have HP := Lib.hid hp
    have HMAY := Lib.hid hmay
    clear hp hmay
    by_cases hlt : k < len
    · obtain ⟨b, off, rfl, hbl, c0, c1, c2, c3⟩ := cells_of H.out HP.out.bel hlt
      have HM := fun w => Lib.hid (rmay_any (us.getD k up0) w)
      have HST := Lib.hid (catU_step us k (by omega))
      by_cases hmk : mayE (us.getD k up0) = 0
      · have hcs := catU_size us k (by omega) HMAY.out
        have HW := fun w hd h => Lib.hid (wrt_any (bw + 1) bw (catU (us.take k)) (us.getD k up0) (by have := HP.out.pos; have := HP.out.lo; omega) (by omega) hmk w hd h)
        have HMAY2 : Hid (∀ i, i < k + 1 → mayE (us.getD i up0) = 0) := fun i hi => by
          rcases Nat.lt_or_ge i k with hx | hx
          · exact HMAY.out i hx
          · obtain rfl : i = k := by omega
            exact hmk
        rw [hmk] at HM
        rw [← HST.out] at HW
        clear hmk HMAY hcs HST
        generalize us.getD k up0 = u at c0 c1 c2 c3 HM HW
        obtain ⟨uk, ux, un, ut⟩ := u
        simp only [uu] at HM HW c0 c1 c2 c3
        have HU0 := Lib.hid (Ub.new wr (uk, ux, un, ut))
        have HP0 := Lib.hid (HP.out.below (Joins.below_alloc1 wr (.cells #[.string uk, .int .i64 ux, .int .i64 un, .string ut] 23)))
        clear HP
        go_wp2_with fail
        refine (HM _).out.mono ?_
        rintro e w3 ⟨rfl, hb⟩
        have hU3 := HU0.out.below hb HU0.out.lt
        have d0 := hU3.c0
        have d1 := hU3.c1
        have d2 := hU3.c2
        have d3 := hU3.c3
        have HP3 := Lib.hid (HP0.out.below hb)
        clear hb hU3 HU0 HP0 HM
        go_wp2_with fail
        refine (HW _ HP3.out.d HP3.out.gat).out.mono ?_
        rintro e w4 ⟨rfl, hw, hf⟩
        have HP4 := Lib.hid (HP3.out.wrote hw hf)
        clear hw hf HP3 HW d0 d1 d2 d3
        go_wp2
        go_roundw
        case rel => exact ⟨k + 1, by omega, by go_num, by go_num, HP4.out, HMAY2.out⟩
        case measure => simp [intOf]; omega
      · have k1 : (mayE (us.getD k up0) == 0) = false := by rw [beq_eq_false_iff_ne]; exact hmk
        generalize mayE (us.getD k up0) = me at *
        clear hmk HST
        generalize us.getD k up0 = u at c0 c1 c2 c3 HM
        obtain ⟨uk, ux, un, ut⟩ := u
        simp only [uu] at HM c0 c1 c2 c3
        have HP0 := Lib.hid (HP.out.below (Joins.below_alloc1 wr (.cells #[.string uk, .int .i64 ux, .int .i64 un, .string ut] 23)))
        clear HP
        go_wp2_with fail
        refine (HM _).out.mono ?_
        rintro e w3 ⟨rfl, hb⟩
        have HP := Lib.hid (HP0.out.below hb)
        clear hb HP0 HM c0 c1 c2 c3
        have hcs := catU_size us k (by omega) HMAY.out
        have HRD := Lib.hid (fun j hj => parts_read us more k j hj (by omega) HMAY.out)
        clear HMAY
        obtain ⟨s, HS⟩ : ∃ s, Hid (catU (us.take k) = s) := ⟨_, Lib.hid rfl⟩
        rw [HS.out] at hcs HRD HP
        have hs2 : s.size ≤ 2000 := by omega
        have hov : ¬ 9223372036854775807 < s.size + more.size := by omega
        have hB : (s ++ more).size ≤ 140737488355328 := by rw [ByteArray.size_append]; omega
        clear hcs HS
        obtain ⟨v, hv⟩ := HP.out.gat
        have HV := Lib.hid hv
        clear hv
        go_wp2_with fail
        refine (bytes_live _ _ v s _ HV.out).mono ?_
        rintro x w5 ⟨rfl, rfl⟩
        clear HV
        have hw3 : IntKind.i64.wrap ((k : Int) + 3) = (k : Int) + 3 := wrap_small (by omega) (by omega)
        have hm' : (s ++ more).size ≤ maxLen := by unfold maxLen; omega
        go_wp2_with fail
        refine (read_any (s ++ more) hB _).mono ?_
        rintro x w6 ⟨r, hr, rfl, hr6, hb6⟩
        have HQ := Lib.hid (P2.start HP.out hr hr6 hb6)
        clear hr hr6 hb6 HP
        go_wp2_with fail
        generalize w6.heap.size = m at *
        generalize s ++ more = B at *
        go_loopw [67] (fun v67 wr => ∃ (j At : Nat) (E : Int), j ≤ k + 3 ∧ v67 = .int .i64 j ∧ (j ≤ k → At = (catU (us.take j)).size ∧ E = 0) ∧ P2 w wr r m B At E) (fun v67 _ => k + 3 - (intOf v67).toNat)
        case atStart => exact ⟨0, 0, 0, by omega, rfl, fun _ => ⟨rfl, rfl⟩, HQ.out⟩
        case round =>
          clear HQ
          obtain ⟨j, At, E, hj, rfl, hat, hq⟩ := hrel
          have hr0 : 0 < r := by have := hq.pos; have := hq.lo; omega
          have HA := updA_le B At E hq.le
          have HX1 := Lib.hid (fun W hd h => uread_any B At E r hr0 hq.le hB W hd h)
          have HX := Lib.hid (fun W h => rread_any B At E m hq.le hm' W h)
          have HQ := Lib.hid hq
          clear hq
          by_cases hjn : j < k + 3
          · by_cases hjk : j < k
            · obtain ⟨rfl, rfl⟩ := hat (by omega)
              clear hat
              have hrd := HRD.out j hjk
              obtain ⟨b, off, hbo, hf⟩ := H.out.lies (by omega)
              first | subst hbo | (simp only [Option.some.injEq, Addr.mk.injEq, and_true] at hbo; obtain ⟨rfl, rfl⟩ := hbo)
              have hbl := hf.lt (by omega)
              obtain ⟨⟨uk, ux, un, ut⟩, HU⟩ : ∃ u, Hid (us.getD j up0 = u) := ⟨_, Lib.hid rfl⟩
              have HCE := Lib.hid (fun W h => row_cells (wr := W) HU.out hf hbl (by omega) h)
              rw [HU.out] at hrd
              rw [hrd] at HX1 HX HA
              clear hrd hf HU
              obtain ⟨A', hA'⟩ : ∃ A', (catU (us.take (j + 1))).size = A' := ⟨_, rfl⟩
              have HAT : Hid (A' = (catU (us.take (j + 1))).size) := hA'.symm
              rw [hA'] at HX1 HX HA
              clear hA' HRD
              simp only [uu] at HX1 HX HA
              have q3 : decide ((j : Int) < (k : Int)) = true := decide_eq_true (by omega)
              have q4 : decide (j < k) = true := decide_eq_true (by omega)
              have hjl : j < us.length := by omega
              rw [hsz] at hjl
              have HP0 := Lib.hid HQ.out
              go_wp2_with fail
              refine (HX1.out _ HQ.out.d HQ.out.rd).mono ?_
              rintro x w7 ⟨rfl, hr7, hg7⟩
              have hp7 := HQ.out.read HA hr7 hg7 (uk, ux, un, ut)
              have d0 := hp7.ub.c0
              have d1 := hp7.ub.c1
              have d2 := hp7.ub.c2
              have d3 := hp7.ub.c3
              have HP7 := Lib.hid hp7
              clear hp7 hr7 hg7 HQ HX1 HP0
              obtain ⟨c0, c1, c2, c3⟩ := HCE.out _ HP7.out.bel
              go_wp2_with fail
              refine wp_region_held_drew (S := fun w' => w'.cell? ⟨w7.heap.size, 0, none⟩ = some (.string uk) ∧ w'.cell? ⟨w7.heap.size, 1, none⟩ = some (.int .i64 ux) ∧ w'.cell? ⟨w7.heap.size, 2, none⟩ = some (.int .i64 un) ∧ w'.cell? ⟨w7.heap.size, 3, none⟩ = some (.string ut) ∧ w'.cell? ⟨b, off + j * 4, none⟩ = some (.string uk) ∧ w'.cell? ⟨b, off + j * 4 + 1, none⟩ = some (.int .i64 ux) ∧ w'.cell? ⟨b, off + j * 4 + 2, none⟩ = some (.int .i64 un) ∧ w'.cell? ⟨b, off + j * 4 + 3, none⟩ = some (.string ut)) (by kernel_rfl) ?_ (fun hH0 => ?_)
              · exact ⟨d0, d1, d2, d3, c0, c1, c2, c3⟩
              refine wpAnyH_take (i := 0) (oi := { dst := some 72, op := Op.move (Operand.tmp 13), type := 3, pos := "law.go:90", after := #[], guard := none }) (v := ?_) rfl (by kernel_rfl) (by kernel_rfl) (by kernel_rfl) (fun _ _ _ h => h) (Or.inl ⟨by rfl, ?_⟩) (by assumption) ?_
              rotate_left
              · intro w hSw
                try dsimp only at hSw
                go_simp
                all_goals with_reducible rfl
              try simp only [Act.put, List.setIfInBounds_toArray, List.set_cons_zero, List.set_cons_succ]
              refine wpAnyH_take (i := 1) (oi := { dst := some 73, op := Op.move (Operand.tmp 6), type := 3, pos := "law.go:90", after := #[], guard := none }) (v := ?_) rfl (by kernel_rfl) (by kernel_rfl) (by kernel_rfl) (fun _ _ _ h => h) (Or.inl ⟨by rfl, ?_⟩) (by assumption) ?_
              rotate_left
              · intro w hSw
                try dsimp only at hSw
                go_simp
                all_goals with_reducible rfl
              try simp only [Act.put, List.setIfInBounds_toArray, List.set_cons_zero, List.set_cons_succ]
              refine wpAnyH_take (i := 2) (oi := { dst := some 74, op := Op.binOp BinOp.lss 3 (Operand.tmp 72) (Operand.tmp 73) 3, type := 4, pos := "law.go:90", after := #[{ on := 0, ground := Ground.data }, { on := 1, ground := Ground.data }], guard := none }) (v := ?_) rfl (by kernel_rfl) (by kernel_rfl) (by kernel_rfl) (fun _ _ _ h => h) (Or.inl ⟨by rfl, ?_⟩) (by assumption) ?_
              rotate_left
              · intro w hSw
                try dsimp only at hSw
                go_simp
                all_goals with_reducible rfl
              try simp only [Act.put, List.setIfInBounds_toArray, List.set_cons_zero, List.set_cons_succ]
              refine wpAnyH_take (i := 3) (oi := { dst := some 75, op := Op.move (Operand.tmp 74), type := 4, pos := "law.go:90", after := #[{ on := 2, ground := Ground.data }], guard := none }) (v := ?_) rfl (by kernel_rfl) (by kernel_rfl) (by kernel_rfl) (fun _ _ _ h => h) (Or.inl ⟨by rfl, ?_⟩) (by assumption) ?_
              rotate_left
              · intro w hSw
                try dsimp only at hSw
                go_simp
                all_goals with_reducible rfl
              try simp only [Act.put, List.setIfInBounds_toArray, List.set_cons_zero, List.set_cons_succ]
              refine wpAnyH_take (i := 4) (oi := { dst := some 76, op := Op.load 23 (Operand.tmp 14), type := 23, pos := "law.go:90", after := #[{ on := 3, ground := Ground.guard }], guard := some (3, true) }) (v := ?_) rfl (by kernel_rfl) (by kernel_rfl) (by kernel_rfl) (fun _ _ _ h => h) (Or.inl ⟨by rfl, ?_⟩) (by assumption) ?_
              rotate_left
              · intro w hSw
                try dsimp only at hSw
                go_simp
                all_goals with_reducible rfl
              try simp only [Act.put, List.setIfInBounds_toArray, List.set_cons_zero, List.set_cons_succ]
              refine wpAnyH_take (i := 5) (oi := { dst := some 77, op := Op.move (Operand.tmp 0), type := 37, pos := "law.go:90", after := #[{ on := 3, ground := Ground.guard }], guard := some (3, true) }) (v := ?_) rfl (by kernel_rfl) (by kernel_rfl) (by kernel_rfl) (fun _ _ _ h => h) (Or.inl ⟨by rfl, ?_⟩) (by assumption) ?_
              rotate_left
              · intro w hSw
                try dsimp only at hSw
                go_simp
                all_goals with_reducible rfl
              try simp only [Act.put, List.setIfInBounds_toArray, List.set_cons_zero, List.set_cons_succ]
              refine wpAnyH_take (i := 6) (oi := { dst := some 78, op := Op.move (Operand.tmp 13), type := 3, pos := "law.go:90", after := #[{ on := 3, ground := Ground.guard }], guard := some (3, true) }) (v := ?_) rfl (by kernel_rfl) (by kernel_rfl) (by kernel_rfl) (fun _ _ _ h => h) (Or.inl ⟨by rfl, ?_⟩) (by assumption) ?_
              rotate_left
              · intro w hSw
                try dsimp only at hSw
                go_simp
                all_goals with_reducible rfl
              try simp only [Act.put, List.setIfInBounds_toArray, List.set_cons_zero, List.set_cons_succ]
              refine wpAnyH_take (i := 7) (oi := { dst := some 79, op := Op.indexAddr 37 (Operand.tmp 77) (Operand.tmp 78), type := 0, pos := "law.go:90", after := #[{ on := 5, ground := Ground.data }, { on := 6, ground := Ground.data }, { on := 3, ground := Ground.guard }], guard := some (3, true) }) (v := ?_) rfl (by kernel_rfl) (by kernel_rfl) (by kernel_rfl) (fun _ _ _ h => h) (Or.inl ⟨by rfl, ?_⟩) (by assumption) ?_
              rotate_left
              · intro w hSw
                try dsimp only at hSw
                go_simp
                all_goals with_reducible rfl
              try simp only [Act.put, List.setIfInBounds_toArray, List.set_cons_zero, List.set_cons_succ]
              refine wpAnyH_take (i := 8) (oi := { dst := some 80, op := Op.load 23 (Operand.tmp 79), type := 23, pos := "law.go:90", after := #[{ on := 7, ground := Ground.data }, { on := 3, ground := Ground.guard }], guard := some (3, true) }) (v := ?_) rfl (by kernel_rfl) (by kernel_rfl) (by kernel_rfl) (fun _ _ _ h => h) (Or.inl ⟨by rfl, ?_⟩) (by assumption) ?_
              rotate_left
              · intro w hSw
                try dsimp only at hSw
                go_simp
                all_goals with_reducible rfl
              try simp only [Act.put, List.setIfInBounds_toArray, List.set_cons_zero, List.set_cons_succ]
              refine wpAnyH_take (i := 9) (oi := { dst := some 81, op := Op.binOp BinOp.neq 23 (Operand.tmp 76) (Operand.tmp 80) 23, type := 4, pos := "law.go:90", after := #[{ on := 4, ground := Ground.data }, { on := 8, ground := Ground.data }, { on := 3, ground := Ground.guard }], guard := some (3, true) }) (v := ?_) rfl (by kernel_rfl) (by kernel_rfl) (by kernel_rfl) (fun _ _ _ h => h) (Or.inl ⟨by rfl, ?_⟩) (by assumption) ?_
              rotate_left
              · intro w hSw
                try dsimp only at hSw
                go_simp
                all_goals with_reducible rfl
              try simp only [Act.put, List.setIfInBounds_toArray, List.set_cons_zero, List.set_cons_succ]
              refine wpAnyH_take (i := 10) (oi := { dst := some 82, op := Op.pick (Operand.tmp 75) (Operand.tmp 81) (Operand.const (Value.bool false)), type := 4, pos := "law.go:90", after := #[{ on := 3, ground := Ground.data }, { on := 9, ground := Ground.data }], guard := none }) (v := ?_) rfl (by kernel_rfl) (by kernel_rfl) (by kernel_rfl) (fun _ _ _ h => h) (Or.inl ⟨by rfl, ?_⟩) (by assumption) ?_
              rotate_left
              · intro w hSw
                try dsimp only at hSw
                go_simp
                all_goals with_reducible rfl
              try simp only [Act.put, List.setIfInBounds_toArray, List.set_cons_zero, List.set_cons_succ]
              refine wpAnyH_take (i := 11) (oi := { dst := some 83, op := Op.move (Operand.tmp 82), type := 4, pos := "law.go:90", after := #[{ on := 10, ground := Ground.data }, { on := 3, ground := Ground.chain }], guard := none }) (v := ?_) rfl (by kernel_rfl) (by kernel_rfl) (by kernel_rfl) (fun _ _ _ h => h) (Or.inl ⟨by rfl, ?_⟩) (by assumption) ?_
              rotate_left
              · intro w hSw
                try dsimp only at hSw
                go_simp
                all_goals with_reducible rfl
              try simp only [Act.put, List.setIfInBounds_toArray, List.set_cons_zero, List.set_cons_succ]
              refine wpAnyH_take (i := 12) (oi := { dst := some 84, op := Op.load 23 (Operand.tmp 14), type := 23, pos := "law.go:90", after := #[{ on := 11, ground := Ground.guard }], guard := some (11, false) }) (v := ?_) rfl (by kernel_rfl) (by kernel_rfl) (by kernel_rfl) (fun _ _ _ h => h) (Or.inl ⟨by rfl, ?_⟩) (by assumption) ?_
              rotate_left
              · intro w hSw
                try dsimp only at hSw
                go_simp
                all_goals with_reducible rfl
              try simp only [Act.put, List.setIfInBounds_toArray, List.set_cons_zero, List.set_cons_succ]
              refine wpAnyH_take (i := 13) (oi := { dst := some 85, op := Op.move (Operand.tmp 12), type := 49, pos := "law.go:90", after := #[{ on := 11, ground := Ground.guard }], guard := some (11, false) }) (v := ?_) rfl (by kernel_rfl) (by kernel_rfl) (by kernel_rfl) (fun _ _ _ h => h) (Or.inl ⟨by rfl, ?_⟩) (by assumption) ?_
              rotate_left
              · intro w hSw
                try dsimp only at hSw
                go_simp
                all_goals with_reducible rfl
              try simp only [Act.put, List.setIfInBounds_toArray, List.set_cons_zero, List.set_cons_succ]
              refine wpAnyH_ready (rs := [14]) (by kernel_rfl) (by simp) ?_
              refine AllReadyH.cons (o := { dst := some 86, op := Op.call { callee := Callee.value (Operand.func 21), args := #[Operand.tmp 85], argTypes := #[49] }, type := 23, pos := "law.go:90", after := #[{ on := 13, ground := Ground.data }, { on := 11, ground := Ground.chain }, { on := 11, ground := Ground.guard }], guard := some (11, false) }) rfl (fun K hK => ?_) ?_
              · go_simp
                refine (HX.out _ HP7.out.rm.drew).mono ?_
                rintro e w8 ⟨rfl, hr8, hg8⟩
                have hp8 := HP7.out.both hr8 (undrew hg8)
                have d0 := hp8.2.c0
                have d1 := hp8.2.c1
                have d2 := hp8.2.c2
                have d3 := hp8.2.c3
                obtain ⟨c0, c1, c2, c3⟩ := HCE.out _ hp8.1.bel
                have em := hp8.1.rm.c2
                have HP8 := Lib.hid hp8.1
                clear hr8 hg8 hp8
                go_wp2_with fail
                refine hK.out _ _ ?_ (fun hH1 => ?_)
                · exact ⟨d0, d1, d2, d3, c0, c1, c2, c3⟩
                clear hK K hH0
                try simp only [Act.put, List.setIfInBounds_toArray, List.set_cons_zero, List.set_cons_succ]
                refine wpAnyH_take (i := 15) (oi := { dst := some 87, op := Op.binOp BinOp.neq 23 (Operand.tmp 84) (Operand.tmp 86) 23, type := 4, pos := "law.go:90", after := #[{ on := 12, ground := Ground.data }, { on := 14, ground := Ground.data }, { on := 11, ground := Ground.guard }], guard := some (11, false) }) (v := ?_) rfl (by kernel_rfl) (by kernel_rfl) (by kernel_rfl) (fun _ _ _ h => h) (Or.inl ⟨by rfl, ?_⟩) (by assumption) ?_
                rotate_left
                · intro w hSw
                  try dsimp only at hSw
                  go_simp
                  all_goals with_reducible rfl
                try simp only [Act.put, List.setIfInBounds_toArray, List.set_cons_zero, List.set_cons_succ]
                refine wpAnyH_take (i := 16) (oi := { dst := some 88, op := Op.pick (Operand.tmp 83) (Operand.const (Value.bool true)) (Operand.tmp 87), type := 4, pos := "law.go:90", after := #[{ on := 11, ground := Ground.data }, { on := 15, ground := Ground.data }], guard := none }) (v := ?_) rfl (by kernel_rfl) (by kernel_rfl) (by kernel_rfl) (fun _ _ _ h => h) (Or.inl ⟨by rfl, ?_⟩) (by assumption) ?_
                rotate_left
                · intro w hSw
                  try dsimp only at hSw
                  go_simp
                  all_goals with_reducible rfl
                try simp only [Act.put, List.setIfInBounds_toArray, List.set_cons_zero, List.set_cons_succ]
                refine wpAnyH_take (i := 17) (oi := { dst := some 89, op := Op.move (Operand.tmp 88), type := 4, pos := "law.go:90", after := #[{ on := 16, ground := Ground.data }, { on := 14, ground := Ground.chain }], guard := none }) (v := ?_) rfl (by kernel_rfl) (by kernel_rfl) (by kernel_rfl) (fun _ _ _ h => h) (Or.inl ⟨by rfl, ?_⟩) (by assumption) ?_
                rotate_left
                · intro w hSw
                  try dsimp only at hSw
                  go_simp
                  all_goals with_reducible rfl
                try simp only [Act.put, List.setIfInBounds_toArray, List.set_cons_zero, List.set_cons_succ]
                refine wpAnyH_take (i := 18) (oi := { dst := some 90, op := Op.move (Operand.tmp 11), type := 47, pos := "law.go:90", after := #[{ on := 17, ground := Ground.guard }], guard := some (17, false) }) (v := ?_) rfl (by kernel_rfl) (by kernel_rfl) (by kernel_rfl) (fun _ _ _ h => h) (Or.inl ⟨by rfl, ?_⟩) (by assumption) ?_
                rotate_left
                · intro w hSw
                  try dsimp only at hSw
                  go_simp
                  all_goals with_reducible rfl
                try simp only [Act.put, List.setIfInBounds_toArray, List.set_cons_zero, List.set_cons_succ]
                refine wpAnyH_take (i := 20) (oi := { dst := some 92, op := Op.move (Operand.tmp 12), type := 49, pos := "law.go:90", after := #[{ on := 17, ground := Ground.guard }], guard := some (17, false) }) (v := ?_) rfl (by kernel_rfl) (by kernel_rfl) (by kernel_rfl) (fun _ _ _ h => h) (Or.inl ⟨by rfl, ?_⟩) (by assumption) ?_
                rotate_left
                · intro w hSw
                  try dsimp only at hSw
                  go_simp
                  all_goals with_reducible rfl
                try simp only [Act.put, List.setIfInBounds_toArray, List.set_cons_zero, List.set_cons_succ]
                refine wpAnyH_take (i := 21) (oi := { dst := some 93, op := Op.nilCheck (Operand.tmp 92), type := 0, pos := "law.go:90", after := #[{ on := 20, ground := Ground.data }, { on := 17, ground := Ground.guard }], guard := some (17, false) }) (v := ?_) rfl (by kernel_rfl) (by kernel_rfl) (by kernel_rfl) (fun _ _ _ h => h) (Or.inl ⟨by rfl, ?_⟩) (by assumption) ?_
                rotate_left
                · intro w hSw
                  try dsimp only at hSw
                  go_simp
                  all_goals with_reducible rfl
                try simp only [Act.put, List.setIfInBounds_toArray, List.set_cons_zero, List.set_cons_succ]
                refine wpAnyH_take (i := 22) (oi := { dst := some 94, op := Op.fieldAddr 51 (Operand.tmp 93) 2, type := 0, pos := "law.go:90", after := #[{ on := 21, ground := Ground.data }, { on := 17, ground := Ground.guard }], guard := some (17, false) }) (v := ?_) rfl (by kernel_rfl) (by kernel_rfl) (by kernel_rfl) (fun _ _ _ h => h) (Or.inl ⟨by rfl, ?_⟩) (by assumption) ?_
                rotate_left
                · intro w hSw
                  try dsimp only at hSw
                  go_simp
                  all_goals with_reducible rfl
                try simp only [Act.put, List.setIfInBounds_toArray, List.set_cons_zero, List.set_cons_succ]
                refine wpAnyH_ready (rs := [19, 23]) (by kernel_rfl) (by simp) ?_
                refine AllReadyH.cons (o := { dst := some 91, op := Op.call { callee := Callee.value (Operand.func 22), args := #[Operand.tmp 90], argTypes := #[47] }, type := 26, pos := "law.go:90", after := #[{ on := 18, ground := Ground.data }, { on := 17, ground := Ground.chain }, { on := 17, ground := Ground.guard }], guard := some (17, false) }) rfl (fun K hK => ?_) ?_
                · go_simp
                  refine (err_any r _ 0 _ HP8.out.rd).mono ?_
                  rintro e w9 ⟨rfl, rfl⟩
                  go_wp2_with fail
                  refine hK.out _ _ ?_ (fun hH2 => ?_)
                  · exact ⟨d0, d1, d2, d3, c0, c1, c2, c3⟩
                  clear hK K hH1
                  try simp only [Act.put, List.setIfInBounds_toArray, List.set_cons_zero, List.set_cons_succ]
                  refine wpAnyH_ready (rs := [23]) (by kernel_rfl) (by simp) ?_
                  refine AllReadyH.cons (o := { dst := some 95, op := Op.load 3 (Operand.tmp 94), type := 3, pos := "law.go:90", after := #[{ on := 22, ground := Ground.data }, { on := 17, ground := Ground.guard }], guard := some (17, false) }) rfl (fun K hK => ?_) ?_
                  · go_simp
                    refine hK.out _ _ ?_ (fun hH3 => ?_)
                    · exact ⟨d0, d1, d2, d3, c0, c1, c2, c3⟩
                    clear hK K hH2
                    try simp only [Act.put, List.setIfInBounds_toArray, List.set_cons_zero, List.set_cons_succ]
                    refine wpAnyH_take (i := 24) (oi := { dst := some 96, op := Op.binOp BinOp.neq 3 (Operand.tmp 91) (Operand.tmp 95) 3, type := 4, pos := "law.go:90", after := #[{ on := 19, ground := Ground.data }, { on := 23, ground := Ground.data }, { on := 17, ground := Ground.guard }], guard := some (17, false) }) (v := ?_) rfl (by kernel_rfl) (by kernel_rfl) (by kernel_rfl) (fun _ _ _ h => h) (Or.inl ⟨by rfl, ?_⟩) (by assumption) ?_
                    rotate_left
                    · intro w hSw
                      try dsimp only at hSw
                      go_simp
                      all_goals with_reducible rfl
                    try simp only [Act.put, List.setIfInBounds_toArray, List.set_cons_zero, List.set_cons_succ]
                    refine wpAnyH_take (i := 25) (oi := { dst := some 97, op := Op.pick (Operand.tmp 89) (Operand.const (Value.bool true)) (Operand.tmp 96), type := 4, pos := "law.go:90", after := #[{ on := 17, ground := Ground.data }, { on := 24, ground := Ground.data }], guard := none }) (v := ?_) rfl (by kernel_rfl) (by kernel_rfl) (by kernel_rfl) (fun _ _ _ h => h) (Or.inl ⟨by rfl, ?_⟩) (by assumption) ?_
                    rotate_left
                    · intro w hSw
                      try dsimp only at hSw
                      go_simp
                      all_goals with_reducible rfl
                    try simp only [Act.put, List.setIfInBounds_toArray, List.set_cons_zero, List.set_cons_succ]
                    refine wpAnyH_done (by kernel_rfl) ?_ _
                    go_wp2
                    go_roundw
                    case rel => exact ⟨j + 1, A', 0, by omega, by go_num, fun _ => ⟨HAT.out, rfl⟩, HP8.out⟩
                    case measure => simp [intOf]; omega
                  exact AllReadyH.nil
                refine AllReadyH.cons (o := { dst := some 95, op := Op.load 3 (Operand.tmp 94), type := 3, pos := "law.go:90", after := #[{ on := 22, ground := Ground.data }, { on := 17, ground := Ground.guard }], guard := some (17, false) }) rfl (fun K hK => ?_) ?_
                · go_simp
                  refine hK.out _ _ ?_ (fun hH2 => ?_)
                  · exact ⟨d0, d1, d2, d3, c0, c1, c2, c3⟩
                  clear hK K hH1
                  try simp only [Act.put, List.setIfInBounds_toArray, List.set_cons_zero, List.set_cons_succ]
                  refine wpAnyH_ready (rs := [19]) (by kernel_rfl) (by simp) ?_
                  refine AllReadyH.cons (o := { dst := some 91, op := Op.call { callee := Callee.value (Operand.func 22), args := #[Operand.tmp 90], argTypes := #[47] }, type := 26, pos := "law.go:90", after := #[{ on := 18, ground := Ground.data }, { on := 17, ground := Ground.chain }, { on := 17, ground := Ground.guard }], guard := some (17, false) }) rfl (fun K hK => ?_) ?_
                  · go_simp
                    refine (err_any r _ 0 _ HP8.out.rd).mono ?_
                    rintro e w9 ⟨rfl, rfl⟩
                    go_wp2_with fail
                    refine hK.out _ _ ?_ (fun hH3 => ?_)
                    · exact ⟨d0, d1, d2, d3, c0, c1, c2, c3⟩
                    clear hK K hH2
                    try simp only [Act.put, List.setIfInBounds_toArray, List.set_cons_zero, List.set_cons_succ]
                    refine wpAnyH_take (i := 24) (oi := { dst := some 96, op := Op.binOp BinOp.neq 3 (Operand.tmp 91) (Operand.tmp 95) 3, type := 4, pos := "law.go:90", after := #[{ on := 19, ground := Ground.data }, { on := 23, ground := Ground.data }, { on := 17, ground := Ground.guard }], guard := some (17, false) }) (v := ?_) rfl (by kernel_rfl) (by kernel_rfl) (by kernel_rfl) (fun _ _ _ h => h) (Or.inl ⟨by rfl, ?_⟩) (by assumption) ?_
                    rotate_left
                    · intro w hSw
                      try dsimp only at hSw
                      go_simp
                      all_goals with_reducible rfl
                    try simp only [Act.put, List.setIfInBounds_toArray, List.set_cons_zero, List.set_cons_succ]
                    refine wpAnyH_take (i := 25) (oi := { dst := some 97, op := Op.pick (Operand.tmp 89) (Operand.const (Value.bool true)) (Operand.tmp 96), type := 4, pos := "law.go:90", after := #[{ on := 17, ground := Ground.data }, { on := 24, ground := Ground.data }], guard := none }) (v := ?_) rfl (by kernel_rfl) (by kernel_rfl) (by kernel_rfl) (fun _ _ _ h => h) (Or.inl ⟨by rfl, ?_⟩) (by assumption) ?_
                    rotate_left
                    · intro w hSw
                      try dsimp only at hSw
                      go_simp
                      all_goals with_reducible rfl
                    try simp only [Act.put, List.setIfInBounds_toArray, List.set_cons_zero, List.set_cons_succ]
                    refine wpAnyH_done (by kernel_rfl) ?_ _
                    go_wp2
                    go_roundw
                    case rel => exact ⟨j + 1, A', 0, by omega, by go_num, fun _ => ⟨HAT.out, rfl⟩, HP8.out⟩
                    case measure => simp [intOf]; omega
                  exact AllReadyH.nil
                exact AllReadyH.nil
              exact AllReadyH.nil
            · clear HRD
              generalize updR B At E = q at *
              obtain ⟨⟨uk, ux, un, ut⟩, A', E'⟩ := q
              have HAT : Hid (j + 1 ≤ k → A' = (catU (us.take (j + 1))).size ∧ E' = 0) := fun hx => absurd hx (by omega)
              clear hat
              simp only [uu] at HX1 HX HA
              have q3 : decide ((j : Int) < (k : Int)) = false := decide_eq_false (by omega)
              have q4 : decide (j < k) = false := decide_eq_false (by omega)
              have HP0 := Lib.hid HQ.out
              go_wp2_with fail
              refine (HX1.out _ HQ.out.d HQ.out.rd).mono ?_
              rintro x w7 ⟨rfl, hr7, hg7⟩
              have hp7 := HQ.out.read HA hr7 hg7 (uk, ux, un, ut)
              have d0 := hp7.ub.c0
              have d1 := hp7.ub.c1
              have d2 := hp7.ub.c2
              have d3 := hp7.ub.c3
              have HP7 := Lib.hid hp7
              clear hp7 hr7 hg7 HQ HX1 HP0
              go_wp2_with fail
              refine wp_region_held_drew (S := fun w' => w'.cell? ⟨w7.heap.size, 0, none⟩ = some (.string uk) ∧ w'.cell? ⟨w7.heap.size, 1, none⟩ = some (.int .i64 ux) ∧ w'.cell? ⟨w7.heap.size, 2, none⟩ = some (.int .i64 un) ∧ w'.cell? ⟨w7.heap.size, 3, none⟩ = some (.string ut)) (by kernel_rfl) ?_ (fun hH0 => ?_)
              · exact ⟨d0, d1, d2, d3⟩
              refine wpAnyH_take (i := 0) (oi := { dst := some 72, op := Op.move (Operand.tmp 13), type := 3, pos := "law.go:90", after := #[], guard := none }) (v := ?_) rfl (by kernel_rfl) (by kernel_rfl) (by kernel_rfl) (fun _ _ _ h => h) (Or.inl ⟨by rfl, ?_⟩) (by assumption) ?_
              rotate_left
              · intro w hSw
                try dsimp only at hSw
                go_simp
                all_goals with_reducible rfl
              try simp only [Act.put, List.setIfInBounds_toArray, List.set_cons_zero, List.set_cons_succ]
              refine wpAnyH_take (i := 1) (oi := { dst := some 73, op := Op.move (Operand.tmp 6), type := 3, pos := "law.go:90", after := #[], guard := none }) (v := ?_) rfl (by kernel_rfl) (by kernel_rfl) (by kernel_rfl) (fun _ _ _ h => h) (Or.inl ⟨by rfl, ?_⟩) (by assumption) ?_
              rotate_left
              · intro w hSw
                try dsimp only at hSw
                go_simp
                all_goals with_reducible rfl
              try simp only [Act.put, List.setIfInBounds_toArray, List.set_cons_zero, List.set_cons_succ]
              refine wpAnyH_take (i := 2) (oi := { dst := some 74, op := Op.binOp BinOp.lss 3 (Operand.tmp 72) (Operand.tmp 73) 3, type := 4, pos := "law.go:90", after := #[{ on := 0, ground := Ground.data }, { on := 1, ground := Ground.data }], guard := none }) (v := ?_) rfl (by kernel_rfl) (by kernel_rfl) (by kernel_rfl) (fun _ _ _ h => h) (Or.inl ⟨by rfl, ?_⟩) (by assumption) ?_
              rotate_left
              · intro w hSw
                try dsimp only at hSw
                go_simp
                all_goals with_reducible rfl
              try simp only [Act.put, List.setIfInBounds_toArray, List.set_cons_zero, List.set_cons_succ]
              refine wpAnyH_take (i := 3) (oi := { dst := some 75, op := Op.move (Operand.tmp 74), type := 4, pos := "law.go:90", after := #[{ on := 2, ground := Ground.data }], guard := none }) (v := ?_) rfl (by kernel_rfl) (by kernel_rfl) (by kernel_rfl) (fun _ _ _ h => h) (Or.inl ⟨by rfl, ?_⟩) (by assumption) ?_
              rotate_left
              · intro w hSw
                try dsimp only at hSw
                go_simp
                all_goals with_reducible rfl
              try simp only [Act.put, List.setIfInBounds_toArray, List.set_cons_zero, List.set_cons_succ]
              refine wpAnyH_take (i := 4) (oi := { dst := some 76, op := Op.load 23 (Operand.tmp 14), type := 23, pos := "law.go:90", after := #[{ on := 3, ground := Ground.guard }], guard := some (3, true) }) (v := undef) rfl (by kernel_rfl) (by kernel_rfl) (by kernel_rfl) (fun _ _ _ h => h) (Or.inr ⟨by rfl, rfl⟩) (by assumption) ?_
              try simp only [Act.put, List.setIfInBounds_toArray, List.set_cons_zero, List.set_cons_succ]
              refine wpAnyH_take (i := 5) (oi := { dst := some 77, op := Op.move (Operand.tmp 0), type := 37, pos := "law.go:90", after := #[{ on := 3, ground := Ground.guard }], guard := some (3, true) }) (v := undef) rfl (by kernel_rfl) (by kernel_rfl) (by kernel_rfl) (fun _ _ _ h => h) (Or.inr ⟨by rfl, rfl⟩) (by assumption) ?_
              try simp only [Act.put, List.setIfInBounds_toArray, List.set_cons_zero, List.set_cons_succ]
              refine wpAnyH_take (i := 6) (oi := { dst := some 78, op := Op.move (Operand.tmp 13), type := 3, pos := "law.go:90", after := #[{ on := 3, ground := Ground.guard }], guard := some (3, true) }) (v := undef) rfl (by kernel_rfl) (by kernel_rfl) (by kernel_rfl) (fun _ _ _ h => h) (Or.inr ⟨by rfl, rfl⟩) (by assumption) ?_
              try simp only [Act.put, List.setIfInBounds_toArray, List.set_cons_zero, List.set_cons_succ]
              refine wpAnyH_take (i := 7) (oi := { dst := some 79, op := Op.indexAddr 37 (Operand.tmp 77) (Operand.tmp 78), type := 0, pos := "law.go:90", after := #[{ on := 5, ground := Ground.data }, { on := 6, ground := Ground.data }, { on := 3, ground := Ground.guard }], guard := some (3, true) }) (v := undef) rfl (by kernel_rfl) (by kernel_rfl) (by kernel_rfl) (fun _ _ _ h => h) (Or.inr ⟨by rfl, rfl⟩) (by assumption) ?_
              try simp only [Act.put, List.setIfInBounds_toArray, List.set_cons_zero, List.set_cons_succ]
              refine wpAnyH_take (i := 8) (oi := { dst := some 80, op := Op.load 23 (Operand.tmp 79), type := 23, pos := "law.go:90", after := #[{ on := 7, ground := Ground.data }, { on := 3, ground := Ground.guard }], guard := some (3, true) }) (v := undef) rfl (by kernel_rfl) (by kernel_rfl) (by kernel_rfl) (fun _ _ _ h => h) (Or.inr ⟨by rfl, rfl⟩) (by assumption) ?_
              try simp only [Act.put, List.setIfInBounds_toArray, List.set_cons_zero, List.set_cons_succ]
              refine wpAnyH_take (i := 9) (oi := { dst := some 81, op := Op.binOp BinOp.neq 23 (Operand.tmp 76) (Operand.tmp 80) 23, type := 4, pos := "law.go:90", after := #[{ on := 4, ground := Ground.data }, { on := 8, ground := Ground.data }, { on := 3, ground := Ground.guard }], guard := some (3, true) }) (v := undef) rfl (by kernel_rfl) (by kernel_rfl) (by kernel_rfl) (fun _ _ _ h => h) (Or.inr ⟨by rfl, rfl⟩) (by assumption) ?_
              try simp only [Act.put, List.setIfInBounds_toArray, List.set_cons_zero, List.set_cons_succ]
              refine wpAnyH_take (i := 10) (oi := { dst := some 82, op := Op.pick (Operand.tmp 75) (Operand.tmp 81) (Operand.const (Value.bool false)), type := 4, pos := "law.go:90", after := #[{ on := 3, ground := Ground.data }, { on := 9, ground := Ground.data }], guard := none }) (v := ?_) rfl (by kernel_rfl) (by kernel_rfl) (by kernel_rfl) (fun _ _ _ h => h) (Or.inl ⟨by rfl, ?_⟩) (by assumption) ?_
              rotate_left
              · intro w hSw
                try dsimp only at hSw
                go_simp
                all_goals with_reducible rfl
              try simp only [Act.put, List.setIfInBounds_toArray, List.set_cons_zero, List.set_cons_succ]
              refine wpAnyH_take (i := 11) (oi := { dst := some 83, op := Op.move (Operand.tmp 82), type := 4, pos := "law.go:90", after := #[{ on := 10, ground := Ground.data }, { on := 3, ground := Ground.chain }], guard := none }) (v := ?_) rfl (by kernel_rfl) (by kernel_rfl) (by kernel_rfl) (fun _ _ _ h => h) (Or.inl ⟨by rfl, ?_⟩) (by assumption) ?_
              rotate_left
              · intro w hSw
                try dsimp only at hSw
                go_simp
                all_goals with_reducible rfl
              try simp only [Act.put, List.setIfInBounds_toArray, List.set_cons_zero, List.set_cons_succ]
              refine wpAnyH_take (i := 12) (oi := { dst := some 84, op := Op.load 23 (Operand.tmp 14), type := 23, pos := "law.go:90", after := #[{ on := 11, ground := Ground.guard }], guard := some (11, false) }) (v := ?_) rfl (by kernel_rfl) (by kernel_rfl) (by kernel_rfl) (fun _ _ _ h => h) (Or.inl ⟨by rfl, ?_⟩) (by assumption) ?_
              rotate_left
              · intro w hSw
                try dsimp only at hSw
                go_simp
                all_goals with_reducible rfl
              try simp only [Act.put, List.setIfInBounds_toArray, List.set_cons_zero, List.set_cons_succ]
              refine wpAnyH_take (i := 13) (oi := { dst := some 85, op := Op.move (Operand.tmp 12), type := 49, pos := "law.go:90", after := #[{ on := 11, ground := Ground.guard }], guard := some (11, false) }) (v := ?_) rfl (by kernel_rfl) (by kernel_rfl) (by kernel_rfl) (fun _ _ _ h => h) (Or.inl ⟨by rfl, ?_⟩) (by assumption) ?_
              rotate_left
              · intro w hSw
                try dsimp only at hSw
                go_simp
                all_goals with_reducible rfl
              try simp only [Act.put, List.setIfInBounds_toArray, List.set_cons_zero, List.set_cons_succ]
              refine wpAnyH_ready (rs := [14]) (by kernel_rfl) (by simp) ?_
              refine AllReadyH.cons (o := { dst := some 86, op := Op.call { callee := Callee.value (Operand.func 21), args := #[Operand.tmp 85], argTypes := #[49] }, type := 23, pos := "law.go:90", after := #[{ on := 13, ground := Ground.data }, { on := 11, ground := Ground.chain }, { on := 11, ground := Ground.guard }], guard := some (11, false) }) rfl (fun K hK => ?_) ?_
              · go_simp
                refine (HX.out _ HP7.out.rm.drew).mono ?_
                rintro e w8 ⟨rfl, hr8, hg8⟩
                have hp8 := HP7.out.both hr8 (undrew hg8)
                have d0 := hp8.2.c0
                have d1 := hp8.2.c1
                have d2 := hp8.2.c2
                have d3 := hp8.2.c3
                have em := hp8.1.rm.c2
                have HP8 := Lib.hid hp8.1
                clear hr8 hg8 hp8
                go_wp2_with fail
                refine hK.out _ _ ?_ (fun hH1 => ?_)
                · exact ⟨d0, d1, d2, d3⟩
                clear hK K hH0
                try simp only [Act.put, List.setIfInBounds_toArray, List.set_cons_zero, List.set_cons_succ]
                refine wpAnyH_take (i := 15) (oi := { dst := some 87, op := Op.binOp BinOp.neq 23 (Operand.tmp 84) (Operand.tmp 86) 23, type := 4, pos := "law.go:90", after := #[{ on := 12, ground := Ground.data }, { on := 14, ground := Ground.data }, { on := 11, ground := Ground.guard }], guard := some (11, false) }) (v := ?_) rfl (by kernel_rfl) (by kernel_rfl) (by kernel_rfl) (fun _ _ _ h => h) (Or.inl ⟨by rfl, ?_⟩) (by assumption) ?_
                rotate_left
                · intro w hSw
                  try dsimp only at hSw
                  go_simp
                  all_goals with_reducible rfl
                try simp only [Act.put, List.setIfInBounds_toArray, List.set_cons_zero, List.set_cons_succ]
                refine wpAnyH_take (i := 16) (oi := { dst := some 88, op := Op.pick (Operand.tmp 83) (Operand.const (Value.bool true)) (Operand.tmp 87), type := 4, pos := "law.go:90", after := #[{ on := 11, ground := Ground.data }, { on := 15, ground := Ground.data }], guard := none }) (v := ?_) rfl (by kernel_rfl) (by kernel_rfl) (by kernel_rfl) (fun _ _ _ h => h) (Or.inl ⟨by rfl, ?_⟩) (by assumption) ?_
                rotate_left
                · intro w hSw
                  try dsimp only at hSw
                  go_simp
                  all_goals with_reducible rfl
                try simp only [Act.put, List.setIfInBounds_toArray, List.set_cons_zero, List.set_cons_succ]
                refine wpAnyH_take (i := 17) (oi := { dst := some 89, op := Op.move (Operand.tmp 88), type := 4, pos := "law.go:90", after := #[{ on := 16, ground := Ground.data }, { on := 14, ground := Ground.chain }], guard := none }) (v := ?_) rfl (by kernel_rfl) (by kernel_rfl) (by kernel_rfl) (fun _ _ _ h => h) (Or.inl ⟨by rfl, ?_⟩) (by assumption) ?_
                rotate_left
                · intro w hSw
                  try dsimp only at hSw
                  go_simp
                  all_goals with_reducible rfl
                try simp only [Act.put, List.setIfInBounds_toArray, List.set_cons_zero, List.set_cons_succ]
                refine wpAnyH_take (i := 18) (oi := { dst := some 90, op := Op.move (Operand.tmp 11), type := 47, pos := "law.go:90", after := #[{ on := 17, ground := Ground.guard }], guard := some (17, false) }) (v := ?_) rfl (by kernel_rfl) (by kernel_rfl) (by kernel_rfl) (fun _ _ _ h => h) (Or.inl ⟨by rfl, ?_⟩) (by assumption) ?_
                rotate_left
                · intro w hSw
                  try dsimp only at hSw
                  go_simp
                  all_goals with_reducible rfl
                try simp only [Act.put, List.setIfInBounds_toArray, List.set_cons_zero, List.set_cons_succ]
                refine wpAnyH_take (i := 20) (oi := { dst := some 92, op := Op.move (Operand.tmp 12), type := 49, pos := "law.go:90", after := #[{ on := 17, ground := Ground.guard }], guard := some (17, false) }) (v := ?_) rfl (by kernel_rfl) (by kernel_rfl) (by kernel_rfl) (fun _ _ _ h => h) (Or.inl ⟨by rfl, ?_⟩) (by assumption) ?_
                rotate_left
                · intro w hSw
                  try dsimp only at hSw
                  go_simp
                  all_goals with_reducible rfl
                try simp only [Act.put, List.setIfInBounds_toArray, List.set_cons_zero, List.set_cons_succ]
                refine wpAnyH_take (i := 21) (oi := { dst := some 93, op := Op.nilCheck (Operand.tmp 92), type := 0, pos := "law.go:90", after := #[{ on := 20, ground := Ground.data }, { on := 17, ground := Ground.guard }], guard := some (17, false) }) (v := ?_) rfl (by kernel_rfl) (by kernel_rfl) (by kernel_rfl) (fun _ _ _ h => h) (Or.inl ⟨by rfl, ?_⟩) (by assumption) ?_
                rotate_left
                · intro w hSw
                  try dsimp only at hSw
                  go_simp
                  all_goals with_reducible rfl
                try simp only [Act.put, List.setIfInBounds_toArray, List.set_cons_zero, List.set_cons_succ]
                refine wpAnyH_take (i := 22) (oi := { dst := some 94, op := Op.fieldAddr 51 (Operand.tmp 93) 2, type := 0, pos := "law.go:90", after := #[{ on := 21, ground := Ground.data }, { on := 17, ground := Ground.guard }], guard := some (17, false) }) (v := ?_) rfl (by kernel_rfl) (by kernel_rfl) (by kernel_rfl) (fun _ _ _ h => h) (Or.inl ⟨by rfl, ?_⟩) (by assumption) ?_
                rotate_left
                · intro w hSw
                  try dsimp only at hSw
                  go_simp
                  all_goals with_reducible rfl
                try simp only [Act.put, List.setIfInBounds_toArray, List.set_cons_zero, List.set_cons_succ]
                refine wpAnyH_ready (rs := [19, 23]) (by kernel_rfl) (by simp) ?_
                refine AllReadyH.cons (o := { dst := some 91, op := Op.call { callee := Callee.value (Operand.func 22), args := #[Operand.tmp 90], argTypes := #[47] }, type := 26, pos := "law.go:90", after := #[{ on := 18, ground := Ground.data }, { on := 17, ground := Ground.chain }, { on := 17, ground := Ground.guard }], guard := some (17, false) }) rfl (fun K hK => ?_) ?_
                · go_simp
                  refine (err_any r _ E' _ HP8.out.rd).mono ?_
                  rintro e w9 ⟨rfl, rfl⟩
                  go_wp2_with fail
                  refine hK.out _ _ ?_ (fun hH2 => ?_)
                  · exact ⟨d0, d1, d2, d3⟩
                  clear hK K hH1
                  try simp only [Act.put, List.setIfInBounds_toArray, List.set_cons_zero, List.set_cons_succ]
                  refine wpAnyH_ready (rs := [23]) (by kernel_rfl) (by simp) ?_
                  refine AllReadyH.cons (o := { dst := some 95, op := Op.load 3 (Operand.tmp 94), type := 3, pos := "law.go:90", after := #[{ on := 22, ground := Ground.data }, { on := 17, ground := Ground.guard }], guard := some (17, false) }) rfl (fun K hK => ?_) ?_
                  · go_simp
                    refine hK.out _ _ ?_ (fun hH3 => ?_)
                    · exact ⟨d0, d1, d2, d3⟩
                    clear hK K hH2
                    try simp only [Act.put, List.setIfInBounds_toArray, List.set_cons_zero, List.set_cons_succ]
                    refine wpAnyH_take (i := 24) (oi := { dst := some 96, op := Op.binOp BinOp.neq 3 (Operand.tmp 91) (Operand.tmp 95) 3, type := 4, pos := "law.go:90", after := #[{ on := 19, ground := Ground.data }, { on := 23, ground := Ground.data }, { on := 17, ground := Ground.guard }], guard := some (17, false) }) (v := ?_) rfl (by kernel_rfl) (by kernel_rfl) (by kernel_rfl) (fun _ _ _ h => h) (Or.inl ⟨by rfl, ?_⟩) (by assumption) ?_
                    rotate_left
                    · intro w hSw
                      try dsimp only at hSw
                      go_simp
                      all_goals with_reducible rfl
                    try simp only [Act.put, List.setIfInBounds_toArray, List.set_cons_zero, List.set_cons_succ]
                    refine wpAnyH_take (i := 25) (oi := { dst := some 97, op := Op.pick (Operand.tmp 89) (Operand.const (Value.bool true)) (Operand.tmp 96), type := 4, pos := "law.go:90", after := #[{ on := 17, ground := Ground.data }, { on := 24, ground := Ground.data }], guard := none }) (v := ?_) rfl (by kernel_rfl) (by kernel_rfl) (by kernel_rfl) (fun _ _ _ h => h) (Or.inl ⟨by rfl, ?_⟩) (by assumption) ?_
                    rotate_left
                    · intro w hSw
                      try dsimp only at hSw
                      go_simp
                      all_goals with_reducible rfl
                    try simp only [Act.put, List.setIfInBounds_toArray, List.set_cons_zero, List.set_cons_succ]
                    refine wpAnyH_done (by kernel_rfl) ?_ _
                    go_wp2
                    go_roundw
                    case rel => exact ⟨j + 1, A', E', by omega, by go_num, HAT.out, HP8.out⟩
                    case measure => simp [intOf]; omega
                  exact AllReadyH.nil
                refine AllReadyH.cons (o := { dst := some 95, op := Op.load 3 (Operand.tmp 94), type := 3, pos := "law.go:90", after := #[{ on := 22, ground := Ground.data }, { on := 17, ground := Ground.guard }], guard := some (17, false) }) rfl (fun K hK => ?_) ?_
                · go_simp
                  refine hK.out _ _ ?_ (fun hH2 => ?_)
                  · exact ⟨d0, d1, d2, d3⟩
                  clear hK K hH1
                  try simp only [Act.put, List.setIfInBounds_toArray, List.set_cons_zero, List.set_cons_succ]
                  refine wpAnyH_ready (rs := [19]) (by kernel_rfl) (by simp) ?_
                  refine AllReadyH.cons (o := { dst := some 91, op := Op.call { callee := Callee.value (Operand.func 22), args := #[Operand.tmp 90], argTypes := #[47] }, type := 26, pos := "law.go:90", after := #[{ on := 18, ground := Ground.data }, { on := 17, ground := Ground.chain }, { on := 17, ground := Ground.guard }], guard := some (17, false) }) rfl (fun K hK => ?_) ?_
                  · go_simp
                    refine (err_any r _ E' _ HP8.out.rd).mono ?_
                    rintro e w9 ⟨rfl, rfl⟩
                    go_wp2_with fail
                    refine hK.out _ _ ?_ (fun hH3 => ?_)
                    · exact ⟨d0, d1, d2, d3⟩
                    clear hK K hH2
                    try simp only [Act.put, List.setIfInBounds_toArray, List.set_cons_zero, List.set_cons_succ]
                    refine wpAnyH_take (i := 24) (oi := { dst := some 96, op := Op.binOp BinOp.neq 3 (Operand.tmp 91) (Operand.tmp 95) 3, type := 4, pos := "law.go:90", after := #[{ on := 19, ground := Ground.data }, { on := 23, ground := Ground.data }, { on := 17, ground := Ground.guard }], guard := some (17, false) }) (v := ?_) rfl (by kernel_rfl) (by kernel_rfl) (by kernel_rfl) (fun _ _ _ h => h) (Or.inl ⟨by rfl, ?_⟩) (by assumption) ?_
                    rotate_left
                    · intro w hSw
                      try dsimp only at hSw
                      go_simp
                      all_goals with_reducible rfl
                    try simp only [Act.put, List.setIfInBounds_toArray, List.set_cons_zero, List.set_cons_succ]
                    refine wpAnyH_take (i := 25) (oi := { dst := some 97, op := Op.pick (Operand.tmp 89) (Operand.const (Value.bool true)) (Operand.tmp 96), type := 4, pos := "law.go:90", after := #[{ on := 17, ground := Ground.data }, { on := 24, ground := Ground.data }], guard := none }) (v := ?_) rfl (by kernel_rfl) (by kernel_rfl) (by kernel_rfl) (fun _ _ _ h => h) (Or.inl ⟨by rfl, ?_⟩) (by assumption) ?_
                    rotate_left
                    · intro w hSw
                      try dsimp only at hSw
                      go_simp
                      all_goals with_reducible rfl
                    try simp only [Act.put, List.setIfInBounds_toArray, List.set_cons_zero, List.set_cons_succ]
                    refine wpAnyH_done (by kernel_rfl) ?_ _
                    go_wp2
                    go_roundw
                    case rel => exact ⟨j + 1, A', E', by omega, by go_num, HAT.out, HP8.out⟩
                    case measure => simp [intOf]; omega
                  exact AllReadyH.nil
                exact AllReadyH.nil
              exact AllReadyH.nil
          · have hjz : j = k + 3 := by omega
            have n1 := HQ.out.ne
            have n2 := HQ.out.lo
            have HE1 := Lib.hid (fun W h => end_any B At E r W h)
            have HE2 := Lib.hid (fun W h => rend_any B At E m W h)
            generalize endE B At E = ee at *
            subst hjz
            clear hat HX HX1 HA
            go_wp2_with fail
            refine (HE1.out _ HQ.out.rd).mono ?_
            rintro x w7 ⟨rfl, _, hg7⟩
            have HM7 := Lib.hid (HQ.out.rm.kept hg7 (by simp; omega))
            have HB7 := Lib.hid (HQ.out.bel.grown hg7 HQ.out.bel.size (fun k e => by simp at e; omega))
            clear hg7 HQ HE1
            go_wp2_with fail
            refine (HE2.out _ HM7.out).mono ?_
            rintro x w8 ⟨rfl, _, hg8⟩
            have HB8 := Lib.hid (HB7.out.grown hg8 HB7.out.size (fun k e => by simp at e; omega))
            clear hg8 HB7 HM7 HE2
            go_wp2
            go_ret
            exact ⟨rfl, HB8.out⟩
    · obtain rfl : k = len := by omega
      have hcs := catU_size us k (by omega) HMAY.out
      have HRD := Lib.hid (fun j hj => parts_read us more k j hj (by omega) HMAY.out)
      clear HMAY
      obtain ⟨s, HS⟩ : ∃ s, Hid (catU (us.take k) = s) := ⟨_, Lib.hid rfl⟩
      rw [HS.out] at hcs HRD HP
      have hs2 : s.size ≤ 2000 := by omega
      have hov : ¬ 9223372036854775807 < s.size + more.size := by omega
      have hB : (s ++ more).size ≤ 140737488355328 := by rw [ByteArray.size_append]; omega
      clear hcs HS
      obtain ⟨v, hv⟩ := HP.out.gat
      have HV := Lib.hid hv
      clear hv
      go_wp2_with fail
      refine (bytes_live _ _ v s _ HV.out).mono ?_
      rintro x w5 ⟨rfl, rfl⟩
      clear HV
      have hw3 : IntKind.i64.wrap ((k : Int) + 3) = (k : Int) + 3 := wrap_small (by omega) (by omega)
      have hm' : (s ++ more).size ≤ maxLen := by unfold maxLen; omega
      go_wp2_with fail
      refine (read_any (s ++ more) hB _).mono ?_
      rintro x w6 ⟨r, hr, rfl, hr6, hb6⟩
      have HQ := Lib.hid (P2.start HP.out hr hr6 hb6)
      clear hr hr6 hb6 HP
      go_wp2_with fail
      generalize w6.heap.size = m at *
      generalize s ++ more = B at *
      go_loopw [67] (fun v67 wr => ∃ (j At : Nat) (E : Int), j ≤ k + 3 ∧ v67 = .int .i64 j ∧ (j ≤ k → At = (catU (us.take j)).size ∧ E = 0) ∧ P2 w wr r m B At E) (fun v67 _ => k + 3 - (intOf v67).toNat)
      case atStart => exact ⟨0, 0, 0, by omega, rfl, fun _ => ⟨rfl, rfl⟩, HQ.out⟩
      case round =>
        clear HQ
        obtain ⟨j, At, E, hj, rfl, hat, hq⟩ := hrel
        have hr0 : 0 < r := by have := hq.pos; have := hq.lo; omega
        have HA := updA_le B At E hq.le
        have HX1 := Lib.hid (fun W hd h => uread_any B At E r hr0 hq.le hB W hd h)
        have HX := Lib.hid (fun W h => rread_any B At E m hq.le hm' W h)
        have HQ := Lib.hid hq
        clear hq
        by_cases hjn : j < k + 3
        · by_cases hjk : j < k
          · obtain ⟨rfl, rfl⟩ := hat (by omega)
            clear hat
            have hrd := HRD.out j hjk
            obtain ⟨b, off, hbo, hf⟩ := H.out.lies (by omega)
            first | subst hbo | (simp only [Option.some.injEq, Addr.mk.injEq, and_true] at hbo; obtain ⟨rfl, rfl⟩ := hbo)
            have hbl := hf.lt (by omega)
            obtain ⟨⟨uk, ux, un, ut⟩, HU⟩ : ∃ u, Hid (us.getD j up0 = u) := ⟨_, Lib.hid rfl⟩
            have HCE := Lib.hid (fun W h => row_cells (wr := W) HU.out hf hbl (by omega) h)
            rw [HU.out] at hrd
            rw [hrd] at HX1 HX HA
            clear hrd hf HU
            obtain ⟨A', hA'⟩ : ∃ A', (catU (us.take (j + 1))).size = A' := ⟨_, rfl⟩
            have HAT : Hid (A' = (catU (us.take (j + 1))).size) := hA'.symm
            rw [hA'] at HX1 HX HA
            clear hA' HRD
            simp only [uu] at HX1 HX HA
            have q3 : decide ((j : Int) < (k : Int)) = true := decide_eq_true (by omega)
            have q4 : decide (j < k) = true := decide_eq_true (by omega)
            have hjl : j < us.length := by omega
            rw [hsz] at hjl
            have HP0 := Lib.hid HQ.out
            go_wp2_with fail
            refine (HX1.out _ HQ.out.d HQ.out.rd).mono ?_
            rintro x w7 ⟨rfl, hr7, hg7⟩
            have hp7 := HQ.out.read HA hr7 hg7 (uk, ux, un, ut)
            have d0 := hp7.ub.c0
            have d1 := hp7.ub.c1
            have d2 := hp7.ub.c2
            have d3 := hp7.ub.c3
            have HP7 := Lib.hid hp7
            clear hp7 hr7 hg7 HQ HX1 HP0
            obtain ⟨c0, c1, c2, c3⟩ := HCE.out _ HP7.out.bel
            go_wp2_with fail
            refine wp_region_held_drew (S := fun w' => w'.cell? ⟨w7.heap.size, 0, none⟩ = some (.string uk) ∧ w'.cell? ⟨w7.heap.size, 1, none⟩ = some (.int .i64 ux) ∧ w'.cell? ⟨w7.heap.size, 2, none⟩ = some (.int .i64 un) ∧ w'.cell? ⟨w7.heap.size, 3, none⟩ = some (.string ut) ∧ w'.cell? ⟨b, off + j * 4, none⟩ = some (.string uk) ∧ w'.cell? ⟨b, off + j * 4 + 1, none⟩ = some (.int .i64 ux) ∧ w'.cell? ⟨b, off + j * 4 + 2, none⟩ = some (.int .i64 un) ∧ w'.cell? ⟨b, off + j * 4 + 3, none⟩ = some (.string ut)) (by kernel_rfl) ?_ (fun hH0 => ?_)
            · exact ⟨d0, d1, d2, d3, c0, c1, c2, c3⟩
            refine wpAnyH_take (i := 0) (oi := { dst := some 72, op := Op.move (Operand.tmp 13), type := 3, pos := "law.go:90", after := #[], guard := none }) (v := ?_) rfl (by kernel_rfl) (by kernel_rfl) (by kernel_rfl) (fun _ _ _ h => h) (Or.inl ⟨by rfl, ?_⟩) (by assumption) ?_
            rotate_left
            · intro w hSw
              try dsimp only at hSw
              go_simp
              all_goals with_reducible rfl
            try simp only [Act.put, List.setIfInBounds_toArray, List.set_cons_zero, List.set_cons_succ]
            refine wpAnyH_take (i := 1) (oi := { dst := some 73, op := Op.move (Operand.tmp 6), type := 3, pos := "law.go:90", after := #[], guard := none }) (v := ?_) rfl (by kernel_rfl) (by kernel_rfl) (by kernel_rfl) (fun _ _ _ h => h) (Or.inl ⟨by rfl, ?_⟩) (by assumption) ?_
            rotate_left
            · intro w hSw
              try dsimp only at hSw
              go_simp
              all_goals with_reducible rfl
            try simp only [Act.put, List.setIfInBounds_toArray, List.set_cons_zero, List.set_cons_succ]
            refine wpAnyH_take (i := 2) (oi := { dst := some 74, op := Op.binOp BinOp.lss 3 (Operand.tmp 72) (Operand.tmp 73) 3, type := 4, pos := "law.go:90", after := #[{ on := 0, ground := Ground.data }, { on := 1, ground := Ground.data }], guard := none }) (v := ?_) rfl (by kernel_rfl) (by kernel_rfl) (by kernel_rfl) (fun _ _ _ h => h) (Or.inl ⟨by rfl, ?_⟩) (by assumption) ?_
            rotate_left
            · intro w hSw
              try dsimp only at hSw
              go_simp
              all_goals with_reducible rfl
            try simp only [Act.put, List.setIfInBounds_toArray, List.set_cons_zero, List.set_cons_succ]
            refine wpAnyH_take (i := 3) (oi := { dst := some 75, op := Op.move (Operand.tmp 74), type := 4, pos := "law.go:90", after := #[{ on := 2, ground := Ground.data }], guard := none }) (v := ?_) rfl (by kernel_rfl) (by kernel_rfl) (by kernel_rfl) (fun _ _ _ h => h) (Or.inl ⟨by rfl, ?_⟩) (by assumption) ?_
            rotate_left
            · intro w hSw
              try dsimp only at hSw
              go_simp
              all_goals with_reducible rfl
            try simp only [Act.put, List.setIfInBounds_toArray, List.set_cons_zero, List.set_cons_succ]
            refine wpAnyH_take (i := 4) (oi := { dst := some 76, op := Op.load 23 (Operand.tmp 14), type := 23, pos := "law.go:90", after := #[{ on := 3, ground := Ground.guard }], guard := some (3, true) }) (v := ?_) rfl (by kernel_rfl) (by kernel_rfl) (by kernel_rfl) (fun _ _ _ h => h) (Or.inl ⟨by rfl, ?_⟩) (by assumption) ?_
            rotate_left
            · intro w hSw
              try dsimp only at hSw
              go_simp
              all_goals with_reducible rfl
            try simp only [Act.put, List.setIfInBounds_toArray, List.set_cons_zero, List.set_cons_succ]
            refine wpAnyH_take (i := 5) (oi := { dst := some 77, op := Op.move (Operand.tmp 0), type := 37, pos := "law.go:90", after := #[{ on := 3, ground := Ground.guard }], guard := some (3, true) }) (v := ?_) rfl (by kernel_rfl) (by kernel_rfl) (by kernel_rfl) (fun _ _ _ h => h) (Or.inl ⟨by rfl, ?_⟩) (by assumption) ?_
            rotate_left
            · intro w hSw
              try dsimp only at hSw
              go_simp
              all_goals with_reducible rfl
            try simp only [Act.put, List.setIfInBounds_toArray, List.set_cons_zero, List.set_cons_succ]
            refine wpAnyH_take (i := 6) (oi := { dst := some 78, op := Op.move (Operand.tmp 13), type := 3, pos := "law.go:90", after := #[{ on := 3, ground := Ground.guard }], guard := some (3, true) }) (v := ?_) rfl (by kernel_rfl) (by kernel_rfl) (by kernel_rfl) (fun _ _ _ h => h) (Or.inl ⟨by rfl, ?_⟩) (by assumption) ?_
            rotate_left
            · intro w hSw
              try dsimp only at hSw
              go_simp
              all_goals with_reducible rfl
            try simp only [Act.put, List.setIfInBounds_toArray, List.set_cons_zero, List.set_cons_succ]
            refine wpAnyH_take (i := 7) (oi := { dst := some 79, op := Op.indexAddr 37 (Operand.tmp 77) (Operand.tmp 78), type := 0, pos := "law.go:90", after := #[{ on := 5, ground := Ground.data }, { on := 6, ground := Ground.data }, { on := 3, ground := Ground.guard }], guard := some (3, true) }) (v := ?_) rfl (by kernel_rfl) (by kernel_rfl) (by kernel_rfl) (fun _ _ _ h => h) (Or.inl ⟨by rfl, ?_⟩) (by assumption) ?_
            rotate_left
            · intro w hSw
              try dsimp only at hSw
              go_simp
              all_goals with_reducible rfl
            try simp only [Act.put, List.setIfInBounds_toArray, List.set_cons_zero, List.set_cons_succ]
            refine wpAnyH_take (i := 8) (oi := { dst := some 80, op := Op.load 23 (Operand.tmp 79), type := 23, pos := "law.go:90", after := #[{ on := 7, ground := Ground.data }, { on := 3, ground := Ground.guard }], guard := some (3, true) }) (v := ?_) rfl (by kernel_rfl) (by kernel_rfl) (by kernel_rfl) (fun _ _ _ h => h) (Or.inl ⟨by rfl, ?_⟩) (by assumption) ?_
            rotate_left
            · intro w hSw
              try dsimp only at hSw
              go_simp
              all_goals with_reducible rfl
            try simp only [Act.put, List.setIfInBounds_toArray, List.set_cons_zero, List.set_cons_succ]
            refine wpAnyH_take (i := 9) (oi := { dst := some 81, op := Op.binOp BinOp.neq 23 (Operand.tmp 76) (Operand.tmp 80) 23, type := 4, pos := "law.go:90", after := #[{ on := 4, ground := Ground.data }, { on := 8, ground := Ground.data }, { on := 3, ground := Ground.guard }], guard := some (3, true) }) (v := ?_) rfl (by kernel_rfl) (by kernel_rfl) (by kernel_rfl) (fun _ _ _ h => h) (Or.inl ⟨by rfl, ?_⟩) (by assumption) ?_
            rotate_left
            · intro w hSw
              try dsimp only at hSw
              go_simp
              all_goals with_reducible rfl
            try simp only [Act.put, List.setIfInBounds_toArray, List.set_cons_zero, List.set_cons_succ]
            refine wpAnyH_take (i := 10) (oi := { dst := some 82, op := Op.pick (Operand.tmp 75) (Operand.tmp 81) (Operand.const (Value.bool false)), type := 4, pos := "law.go:90", after := #[{ on := 3, ground := Ground.data }, { on := 9, ground := Ground.data }], guard := none }) (v := ?_) rfl (by kernel_rfl) (by kernel_rfl) (by kernel_rfl) (fun _ _ _ h => h) (Or.inl ⟨by rfl, ?_⟩) (by assumption) ?_
            rotate_left
            · intro w hSw
              try dsimp only at hSw
              go_simp
              all_goals with_reducible rfl
            try simp only [Act.put, List.setIfInBounds_toArray, List.set_cons_zero, List.set_cons_succ]
            refine wpAnyH_take (i := 11) (oi := { dst := some 83, op := Op.move (Operand.tmp 82), type := 4, pos := "law.go:90", after := #[{ on := 10, ground := Ground.data }, { on := 3, ground := Ground.chain }], guard := none }) (v := ?_) rfl (by kernel_rfl) (by kernel_rfl) (by kernel_rfl) (fun _ _ _ h => h) (Or.inl ⟨by rfl, ?_⟩) (by assumption) ?_
            rotate_left
            · intro w hSw
              try dsimp only at hSw
              go_simp
              all_goals with_reducible rfl
            try simp only [Act.put, List.setIfInBounds_toArray, List.set_cons_zero, List.set_cons_succ]
            refine wpAnyH_take (i := 12) (oi := { dst := some 84, op := Op.load 23 (Operand.tmp 14), type := 23, pos := "law.go:90", after := #[{ on := 11, ground := Ground.guard }], guard := some (11, false) }) (v := ?_) rfl (by kernel_rfl) (by kernel_rfl) (by kernel_rfl) (fun _ _ _ h => h) (Or.inl ⟨by rfl, ?_⟩) (by assumption) ?_
            rotate_left
            · intro w hSw
              try dsimp only at hSw
              go_simp
              all_goals with_reducible rfl
            try simp only [Act.put, List.setIfInBounds_toArray, List.set_cons_zero, List.set_cons_succ]
            refine wpAnyH_take (i := 13) (oi := { dst := some 85, op := Op.move (Operand.tmp 12), type := 49, pos := "law.go:90", after := #[{ on := 11, ground := Ground.guard }], guard := some (11, false) }) (v := ?_) rfl (by kernel_rfl) (by kernel_rfl) (by kernel_rfl) (fun _ _ _ h => h) (Or.inl ⟨by rfl, ?_⟩) (by assumption) ?_
            rotate_left
            · intro w hSw
              try dsimp only at hSw
              go_simp
              all_goals with_reducible rfl
            try simp only [Act.put, List.setIfInBounds_toArray, List.set_cons_zero, List.set_cons_succ]
            refine wpAnyH_ready (rs := [14]) (by kernel_rfl) (by simp) ?_
            refine AllReadyH.cons (o := { dst := some 86, op := Op.call { callee := Callee.value (Operand.func 21), args := #[Operand.tmp 85], argTypes := #[49] }, type := 23, pos := "law.go:90", after := #[{ on := 13, ground := Ground.data }, { on := 11, ground := Ground.chain }, { on := 11, ground := Ground.guard }], guard := some (11, false) }) rfl (fun K hK => ?_) ?_
            · go_simp
              refine (HX.out _ HP7.out.rm.drew).mono ?_
              rintro e w8 ⟨rfl, hr8, hg8⟩
              have hp8 := HP7.out.both hr8 (undrew hg8)
              have d0 := hp8.2.c0
              have d1 := hp8.2.c1
              have d2 := hp8.2.c2
              have d3 := hp8.2.c3
              obtain ⟨c0, c1, c2, c3⟩ := HCE.out _ hp8.1.bel
              have em := hp8.1.rm.c2
              have HP8 := Lib.hid hp8.1
              clear hr8 hg8 hp8
              go_wp2_with fail
              refine hK.out _ _ ?_ (fun hH1 => ?_)
              · exact ⟨d0, d1, d2, d3, c0, c1, c2, c3⟩
              clear hK K hH0
              try simp only [Act.put, List.setIfInBounds_toArray, List.set_cons_zero, List.set_cons_succ]
              refine wpAnyH_take (i := 15) (oi := { dst := some 87, op := Op.binOp BinOp.neq 23 (Operand.tmp 84) (Operand.tmp 86) 23, type := 4, pos := "law.go:90", after := #[{ on := 12, ground := Ground.data }, { on := 14, ground := Ground.data }, { on := 11, ground := Ground.guard }], guard := some (11, false) }) (v := ?_) rfl (by kernel_rfl) (by kernel_rfl) (by kernel_rfl) (fun _ _ _ h => h) (Or.inl ⟨by rfl, ?_⟩) (by assumption) ?_
              rotate_left
              · intro w hSw
                try dsimp only at hSw
                go_simp
                all_goals with_reducible rfl
              try simp only [Act.put, List.setIfInBounds_toArray, List.set_cons_zero, List.set_cons_succ]
              refine wpAnyH_take (i := 16) (oi := { dst := some 88, op := Op.pick (Operand.tmp 83) (Operand.const (Value.bool true)) (Operand.tmp 87), type := 4, pos := "law.go:90", after := #[{ on := 11, ground := Ground.data }, { on := 15, ground := Ground.data }], guard := none }) (v := ?_) rfl (by kernel_rfl) (by kernel_rfl) (by kernel_rfl) (fun _ _ _ h => h) (Or.inl ⟨by rfl, ?_⟩) (by assumption) ?_
              rotate_left
              · intro w hSw
                try dsimp only at hSw
                go_simp
                all_goals with_reducible rfl
              try simp only [Act.put, List.setIfInBounds_toArray, List.set_cons_zero, List.set_cons_succ]
              refine wpAnyH_take (i := 17) (oi := { dst := some 89, op := Op.move (Operand.tmp 88), type := 4, pos := "law.go:90", after := #[{ on := 16, ground := Ground.data }, { on := 14, ground := Ground.chain }], guard := none }) (v := ?_) rfl (by kernel_rfl) (by kernel_rfl) (by kernel_rfl) (fun _ _ _ h => h) (Or.inl ⟨by rfl, ?_⟩) (by assumption) ?_
              rotate_left
              · intro w hSw
                try dsimp only at hSw
                go_simp
                all_goals with_reducible rfl
              try simp only [Act.put, List.setIfInBounds_toArray, List.set_cons_zero, List.set_cons_succ]
              refine wpAnyH_take (i := 18) (oi := { dst := some 90, op := Op.move (Operand.tmp 11), type := 47, pos := "law.go:90", after := #[{ on := 17, ground := Ground.guard }], guard := some (17, false) }) (v := ?_) rfl (by kernel_rfl) (by kernel_rfl) (by kernel_rfl) (fun _ _ _ h => h) (Or.inl ⟨by rfl, ?_⟩) (by assumption) ?_
              rotate_left
              · intro w hSw
                try dsimp only at hSw
                go_simp
                all_goals with_reducible rfl
              try simp only [Act.put, List.setIfInBounds_toArray, List.set_cons_zero, List.set_cons_succ]
              refine wpAnyH_take (i := 20) (oi := { dst := some 92, op := Op.move (Operand.tmp 12), type := 49, pos := "law.go:90", after := #[{ on := 17, ground := Ground.guard }], guard := some (17, false) }) (v := ?_) rfl (by kernel_rfl) (by kernel_rfl) (by kernel_rfl) (fun _ _ _ h => h) (Or.inl ⟨by rfl, ?_⟩) (by assumption) ?_
              rotate_left
              · intro w hSw
                try dsimp only at hSw
                go_simp
                all_goals with_reducible rfl
              try simp only [Act.put, List.setIfInBounds_toArray, List.set_cons_zero, List.set_cons_succ]
              refine wpAnyH_take (i := 21) (oi := { dst := some 93, op := Op.nilCheck (Operand.tmp 92), type := 0, pos := "law.go:90", after := #[{ on := 20, ground := Ground.data }, { on := 17, ground := Ground.guard }], guard := some (17, false) }) (v := ?_) rfl (by kernel_rfl) (by kernel_rfl) (by kernel_rfl) (fun _ _ _ h => h) (Or.inl ⟨by rfl, ?_⟩) (by assumption) ?_
              rotate_left
              · intro w hSw
                try dsimp only at hSw
                go_simp
                all_goals with_reducible rfl
              try simp only [Act.put, List.setIfInBounds_toArray, List.set_cons_zero, List.set_cons_succ]
              refine wpAnyH_take (i := 22) (oi := { dst := some 94, op := Op.fieldAddr 51 (Operand.tmp 93) 2, type := 0, pos := "law.go:90", after := #[{ on := 21, ground := Ground.data }, { on := 17, ground := Ground.guard }], guard := some (17, false) }) (v := ?_) rfl (by kernel_rfl) (by kernel_rfl) (by kernel_rfl) (fun _ _ _ h => h) (Or.inl ⟨by rfl, ?_⟩) (by assumption) ?_
              rotate_left
              · intro w hSw
                try dsimp only at hSw
                go_simp
                all_goals with_reducible rfl
              try simp only [Act.put, List.setIfInBounds_toArray, List.set_cons_zero, List.set_cons_succ]
              refine wpAnyH_ready (rs := [19, 23]) (by kernel_rfl) (by simp) ?_
              refine AllReadyH.cons (o := { dst := some 91, op := Op.call { callee := Callee.value (Operand.func 22), args := #[Operand.tmp 90], argTypes := #[47] }, type := 26, pos := "law.go:90", after := #[{ on := 18, ground := Ground.data }, { on := 17, ground := Ground.chain }, { on := 17, ground := Ground.guard }], guard := some (17, false) }) rfl (fun K hK => ?_) ?_
              · go_simp
                refine (err_any r _ 0 _ HP8.out.rd).mono ?_
                rintro e w9 ⟨rfl, rfl⟩
                go_wp2_with fail
                refine hK.out _ _ ?_ (fun hH2 => ?_)
                · exact ⟨d0, d1, d2, d3, c0, c1, c2, c3⟩
                clear hK K hH1
                try simp only [Act.put, List.setIfInBounds_toArray, List.set_cons_zero, List.set_cons_succ]
                refine wpAnyH_ready (rs := [23]) (by kernel_rfl) (by simp) ?_
                refine AllReadyH.cons (o := { dst := some 95, op := Op.load 3 (Operand.tmp 94), type := 3, pos := "law.go:90", after := #[{ on := 22, ground := Ground.data }, { on := 17, ground := Ground.guard }], guard := some (17, false) }) rfl (fun K hK => ?_) ?_
                · go_simp
                  refine hK.out _ _ ?_ (fun hH3 => ?_)
                  · exact ⟨d0, d1, d2, d3, c0, c1, c2, c3⟩
                  clear hK K hH2
                  try simp only [Act.put, List.setIfInBounds_toArray, List.set_cons_zero, List.set_cons_succ]
                  refine wpAnyH_take (i := 24) (oi := { dst := some 96, op := Op.binOp BinOp.neq 3 (Operand.tmp 91) (Operand.tmp 95) 3, type := 4, pos := "law.go:90", after := #[{ on := 19, ground := Ground.data }, { on := 23, ground := Ground.data }, { on := 17, ground := Ground.guard }], guard := some (17, false) }) (v := ?_) rfl (by kernel_rfl) (by kernel_rfl) (by kernel_rfl) (fun _ _ _ h => h) (Or.inl ⟨by rfl, ?_⟩) (by assumption) ?_
                  rotate_left
                  · intro w hSw
                    try dsimp only at hSw
                    go_simp
                    all_goals with_reducible rfl
                  try simp only [Act.put, List.setIfInBounds_toArray, List.set_cons_zero, List.set_cons_succ]
                  refine wpAnyH_take (i := 25) (oi := { dst := some 97, op := Op.pick (Operand.tmp 89) (Operand.const (Value.bool true)) (Operand.tmp 96), type := 4, pos := "law.go:90", after := #[{ on := 17, ground := Ground.data }, { on := 24, ground := Ground.data }], guard := none }) (v := ?_) rfl (by kernel_rfl) (by kernel_rfl) (by kernel_rfl) (fun _ _ _ h => h) (Or.inl ⟨by rfl, ?_⟩) (by assumption) ?_
                  rotate_left
                  · intro w hSw
                    try dsimp only at hSw
                    go_simp
                    all_goals with_reducible rfl
                  try simp only [Act.put, List.setIfInBounds_toArray, List.set_cons_zero, List.set_cons_succ]
                  refine wpAnyH_done (by kernel_rfl) ?_ _
                  go_wp2
                  go_roundw
                  case rel => exact ⟨j + 1, A', 0, by omega, by go_num, fun _ => ⟨HAT.out, rfl⟩, HP8.out⟩
                  case measure => simp [intOf]; omega
                exact AllReadyH.nil
              refine AllReadyH.cons (o := { dst := some 95, op := Op.load 3 (Operand.tmp 94), type := 3, pos := "law.go:90", after := #[{ on := 22, ground := Ground.data }, { on := 17, ground := Ground.guard }], guard := some (17, false) }) rfl (fun K hK => ?_) ?_
              · go_simp
                refine hK.out _ _ ?_ (fun hH2 => ?_)
                · exact ⟨d0, d1, d2, d3, c0, c1, c2, c3⟩
                clear hK K hH1
                try simp only [Act.put, List.setIfInBounds_toArray, List.set_cons_zero, List.set_cons_succ]
                refine wpAnyH_ready (rs := [19]) (by kernel_rfl) (by simp) ?_
                refine AllReadyH.cons (o := { dst := some 91, op := Op.call { callee := Callee.value (Operand.func 22), args := #[Operand.tmp 90], argTypes := #[47] }, type := 26, pos := "law.go:90", after := #[{ on := 18, ground := Ground.data }, { on := 17, ground := Ground.chain }, { on := 17, ground := Ground.guard }], guard := some (17, false) }) rfl (fun K hK => ?_) ?_
                · go_simp
                  refine (err_any r _ 0 _ HP8.out.rd).mono ?_
                  rintro e w9 ⟨rfl, rfl⟩
                  go_wp2_with fail
                  refine hK.out _ _ ?_ (fun hH3 => ?_)
                  · exact ⟨d0, d1, d2, d3, c0, c1, c2, c3⟩
                  clear hK K hH2
                  try simp only [Act.put, List.setIfInBounds_toArray, List.set_cons_zero, List.set_cons_succ]
                  refine wpAnyH_take (i := 24) (oi := { dst := some 96, op := Op.binOp BinOp.neq 3 (Operand.tmp 91) (Operand.tmp 95) 3, type := 4, pos := "law.go:90", after := #[{ on := 19, ground := Ground.data }, { on := 23, ground := Ground.data }, { on := 17, ground := Ground.guard }], guard := some (17, false) }) (v := ?_) rfl (by kernel_rfl) (by kernel_rfl) (by kernel_rfl) (fun _ _ _ h => h) (Or.inl ⟨by rfl, ?_⟩) (by assumption) ?_
                  rotate_left
                  · intro w hSw
                    try dsimp only at hSw
                    go_simp
                    all_goals with_reducible rfl
                  try simp only [Act.put, List.setIfInBounds_toArray, List.set_cons_zero, List.set_cons_succ]
                  refine wpAnyH_take (i := 25) (oi := { dst := some 97, op := Op.pick (Operand.tmp 89) (Operand.const (Value.bool true)) (Operand.tmp 96), type := 4, pos := "law.go:90", after := #[{ on := 17, ground := Ground.data }, { on := 24, ground := Ground.data }], guard := none }) (v := ?_) rfl (by kernel_rfl) (by kernel_rfl) (by kernel_rfl) (fun _ _ _ h => h) (Or.inl ⟨by rfl, ?_⟩) (by assumption) ?_
                  rotate_left
                  · intro w hSw
                    try dsimp only at hSw
                    go_simp
                    all_goals with_reducible rfl
                  try simp only [Act.put, List.setIfInBounds_toArray, List.set_cons_zero, List.set_cons_succ]
                  refine wpAnyH_done (by kernel_rfl) ?_ _
                  go_wp2
                  go_roundw
                  case rel => exact ⟨j + 1, A', 0, by omega, by go_num, fun _ => ⟨HAT.out, rfl⟩, HP8.out⟩
                  case measure => simp [intOf]; omega
                exact AllReadyH.nil
              exact AllReadyH.nil
            exact AllReadyH.nil
          · clear HRD
            generalize updR B At E = q at *
            obtain ⟨⟨uk, ux, un, ut⟩, A', E'⟩ := q
            have HAT : Hid (j + 1 ≤ k → A' = (catU (us.take (j + 1))).size ∧ E' = 0) := fun hx => absurd hx (by omega)
            clear hat
            simp only [uu] at HX1 HX HA
            have q3 : decide ((j : Int) < (k : Int)) = false := decide_eq_false (by omega)
            have q4 : decide (j < k) = false := decide_eq_false (by omega)
            have HP0 := Lib.hid HQ.out
            go_wp2_with fail
            refine (HX1.out _ HQ.out.d HQ.out.rd).mono ?_
            rintro x w7 ⟨rfl, hr7, hg7⟩
            have hp7 := HQ.out.read HA hr7 hg7 (uk, ux, un, ut)
            have d0 := hp7.ub.c0
            have d1 := hp7.ub.c1
            have d2 := hp7.ub.c2
            have d3 := hp7.ub.c3
            have HP7 := Lib.hid hp7
            clear hp7 hr7 hg7 HQ HX1 HP0
            go_wp2_with fail
            refine wp_region_held_drew (S := fun w' => w'.cell? ⟨w7.heap.size, 0, none⟩ = some (.string uk) ∧ w'.cell? ⟨w7.heap.size, 1, none⟩ = some (.int .i64 ux) ∧ w'.cell? ⟨w7.heap.size, 2, none⟩ = some (.int .i64 un) ∧ w'.cell? ⟨w7.heap.size, 3, none⟩ = some (.string ut)) (by kernel_rfl) ?_ (fun hH0 => ?_)
            · exact ⟨d0, d1, d2, d3⟩
            refine wpAnyH_take (i := 0) (oi := { dst := some 72, op := Op.move (Operand.tmp 13), type := 3, pos := "law.go:90", after := #[], guard := none }) (v := ?_) rfl (by kernel_rfl) (by kernel_rfl) (by kernel_rfl) (fun _ _ _ h => h) (Or.inl ⟨by rfl, ?_⟩) (by assumption) ?_
            rotate_left
            · intro w hSw
              try dsimp only at hSw
              go_simp
              all_goals with_reducible rfl
            try simp only [Act.put, List.setIfInBounds_toArray, List.set_cons_zero, List.set_cons_succ]
            refine wpAnyH_take (i := 1) (oi := { dst := some 73, op := Op.move (Operand.tmp 6), type := 3, pos := "law.go:90", after := #[], guard := none }) (v := ?_) rfl (by kernel_rfl) (by kernel_rfl) (by kernel_rfl) (fun _ _ _ h => h) (Or.inl ⟨by rfl, ?_⟩) (by assumption) ?_
            rotate_left
            · intro w hSw
              try dsimp only at hSw
              go_simp
              all_goals with_reducible rfl
            try simp only [Act.put, List.setIfInBounds_toArray, List.set_cons_zero, List.set_cons_succ]
            refine wpAnyH_take (i := 2) (oi := { dst := some 74, op := Op.binOp BinOp.lss 3 (Operand.tmp 72) (Operand.tmp 73) 3, type := 4, pos := "law.go:90", after := #[{ on := 0, ground := Ground.data }, { on := 1, ground := Ground.data }], guard := none }) (v := ?_) rfl (by kernel_rfl) (by kernel_rfl) (by kernel_rfl) (fun _ _ _ h => h) (Or.inl ⟨by rfl, ?_⟩) (by assumption) ?_
            rotate_left
            · intro w hSw
              try dsimp only at hSw
              go_simp
              all_goals with_reducible rfl
            try simp only [Act.put, List.setIfInBounds_toArray, List.set_cons_zero, List.set_cons_succ]
            refine wpAnyH_take (i := 3) (oi := { dst := some 75, op := Op.move (Operand.tmp 74), type := 4, pos := "law.go:90", after := #[{ on := 2, ground := Ground.data }], guard := none }) (v := ?_) rfl (by kernel_rfl) (by kernel_rfl) (by kernel_rfl) (fun _ _ _ h => h) (Or.inl ⟨by rfl, ?_⟩) (by assumption) ?_
            rotate_left
            · intro w hSw
              try dsimp only at hSw
              go_simp
              all_goals with_reducible rfl
            try simp only [Act.put, List.setIfInBounds_toArray, List.set_cons_zero, List.set_cons_succ]
            refine wpAnyH_take (i := 4) (oi := { dst := some 76, op := Op.load 23 (Operand.tmp 14), type := 23, pos := "law.go:90", after := #[{ on := 3, ground := Ground.guard }], guard := some (3, true) }) (v := undef) rfl (by kernel_rfl) (by kernel_rfl) (by kernel_rfl) (fun _ _ _ h => h) (Or.inr ⟨by rfl, rfl⟩) (by assumption) ?_
            try simp only [Act.put, List.setIfInBounds_toArray, List.set_cons_zero, List.set_cons_succ]
            refine wpAnyH_take (i := 5) (oi := { dst := some 77, op := Op.move (Operand.tmp 0), type := 37, pos := "law.go:90", after := #[{ on := 3, ground := Ground.guard }], guard := some (3, true) }) (v := undef) rfl (by kernel_rfl) (by kernel_rfl) (by kernel_rfl) (fun _ _ _ h => h) (Or.inr ⟨by rfl, rfl⟩) (by assumption) ?_
            try simp only [Act.put, List.setIfInBounds_toArray, List.set_cons_zero, List.set_cons_succ]
            refine wpAnyH_take (i := 6) (oi := { dst := some 78, op := Op.move (Operand.tmp 13), type := 3, pos := "law.go:90", after := #[{ on := 3, ground := Ground.guard }], guard := some (3, true) }) (v := undef) rfl (by kernel_rfl) (by kernel_rfl) (by kernel_rfl) (fun _ _ _ h => h) (Or.inr ⟨by rfl, rfl⟩) (by assumption) ?_
            try simp only [Act.put, List.setIfInBounds_toArray, List.set_cons_zero, List.set_cons_succ]
            refine wpAnyH_take (i := 7) (oi := { dst := some 79, op := Op.indexAddr 37 (Operand.tmp 77) (Operand.tmp 78), type := 0, pos := "law.go:90", after := #[{ on := 5, ground := Ground.data }, { on := 6, ground := Ground.data }, { on := 3, ground := Ground.guard }], guard := some (3, true) }) (v := undef) rfl (by kernel_rfl) (by kernel_rfl) (by kernel_rfl) (fun _ _ _ h => h) (Or.inr ⟨by rfl, rfl⟩) (by assumption) ?_
            try simp only [Act.put, List.setIfInBounds_toArray, List.set_cons_zero, List.set_cons_succ]
            refine wpAnyH_take (i := 8) (oi := { dst := some 80, op := Op.load 23 (Operand.tmp 79), type := 23, pos := "law.go:90", after := #[{ on := 7, ground := Ground.data }, { on := 3, ground := Ground.guard }], guard := some (3, true) }) (v := undef) rfl (by kernel_rfl) (by kernel_rfl) (by kernel_rfl) (fun _ _ _ h => h) (Or.inr ⟨by rfl, rfl⟩) (by assumption) ?_
            try simp only [Act.put, List.setIfInBounds_toArray, List.set_cons_zero, List.set_cons_succ]
            refine wpAnyH_take (i := 9) (oi := { dst := some 81, op := Op.binOp BinOp.neq 23 (Operand.tmp 76) (Operand.tmp 80) 23, type := 4, pos := "law.go:90", after := #[{ on := 4, ground := Ground.data }, { on := 8, ground := Ground.data }, { on := 3, ground := Ground.guard }], guard := some (3, true) }) (v := undef) rfl (by kernel_rfl) (by kernel_rfl) (by kernel_rfl) (fun _ _ _ h => h) (Or.inr ⟨by rfl, rfl⟩) (by assumption) ?_
            try simp only [Act.put, List.setIfInBounds_toArray, List.set_cons_zero, List.set_cons_succ]
            refine wpAnyH_take (i := 10) (oi := { dst := some 82, op := Op.pick (Operand.tmp 75) (Operand.tmp 81) (Operand.const (Value.bool false)), type := 4, pos := "law.go:90", after := #[{ on := 3, ground := Ground.data }, { on := 9, ground := Ground.data }], guard := none }) (v := ?_) rfl (by kernel_rfl) (by kernel_rfl) (by kernel_rfl) (fun _ _ _ h => h) (Or.inl ⟨by rfl, ?_⟩) (by assumption) ?_
            rotate_left
            · intro w hSw
              try dsimp only at hSw
              go_simp
              all_goals with_reducible rfl
            try simp only [Act.put, List.setIfInBounds_toArray, List.set_cons_zero, List.set_cons_succ]
            refine wpAnyH_take (i := 11) (oi := { dst := some 83, op := Op.move (Operand.tmp 82), type := 4, pos := "law.go:90", after := #[{ on := 10, ground := Ground.data }, { on := 3, ground := Ground.chain }], guard := none }) (v := ?_) rfl (by kernel_rfl) (by kernel_rfl) (by kernel_rfl) (fun _ _ _ h => h) (Or.inl ⟨by rfl, ?_⟩) (by assumption) ?_
            rotate_left
            · intro w hSw
              try dsimp only at hSw
              go_simp
              all_goals with_reducible rfl
            try simp only [Act.put, List.setIfInBounds_toArray, List.set_cons_zero, List.set_cons_succ]
            refine wpAnyH_take (i := 12) (oi := { dst := some 84, op := Op.load 23 (Operand.tmp 14), type := 23, pos := "law.go:90", after := #[{ on := 11, ground := Ground.guard }], guard := some (11, false) }) (v := ?_) rfl (by kernel_rfl) (by kernel_rfl) (by kernel_rfl) (fun _ _ _ h => h) (Or.inl ⟨by rfl, ?_⟩) (by assumption) ?_
            rotate_left
            · intro w hSw
              try dsimp only at hSw
              go_simp
              all_goals with_reducible rfl
            try simp only [Act.put, List.setIfInBounds_toArray, List.set_cons_zero, List.set_cons_succ]
            refine wpAnyH_take (i := 13) (oi := { dst := some 85, op := Op.move (Operand.tmp 12), type := 49, pos := "law.go:90", after := #[{ on := 11, ground := Ground.guard }], guard := some (11, false) }) (v := ?_) rfl (by kernel_rfl) (by kernel_rfl) (by kernel_rfl) (fun _ _ _ h => h) (Or.inl ⟨by rfl, ?_⟩) (by assumption) ?_
            rotate_left
            · intro w hSw
              try dsimp only at hSw
              go_simp
              all_goals with_reducible rfl
            try simp only [Act.put, List.setIfInBounds_toArray, List.set_cons_zero, List.set_cons_succ]
            refine wpAnyH_ready (rs := [14]) (by kernel_rfl) (by simp) ?_
            refine AllReadyH.cons (o := { dst := some 86, op := Op.call { callee := Callee.value (Operand.func 21), args := #[Operand.tmp 85], argTypes := #[49] }, type := 23, pos := "law.go:90", after := #[{ on := 13, ground := Ground.data }, { on := 11, ground := Ground.chain }, { on := 11, ground := Ground.guard }], guard := some (11, false) }) rfl (fun K hK => ?_) ?_
            · go_simp
              refine (HX.out _ HP7.out.rm.drew).mono ?_
              rintro e w8 ⟨rfl, hr8, hg8⟩
              have hp8 := HP7.out.both hr8 (undrew hg8)
              have d0 := hp8.2.c0
              have d1 := hp8.2.c1
              have d2 := hp8.2.c2
              have d3 := hp8.2.c3
              have em := hp8.1.rm.c2
              have HP8 := Lib.hid hp8.1
              clear hr8 hg8 hp8
              go_wp2_with fail
              refine hK.out _ _ ?_ (fun hH1 => ?_)
              · exact ⟨d0, d1, d2, d3⟩
              clear hK K hH0
              try simp only [Act.put, List.setIfInBounds_toArray, List.set_cons_zero, List.set_cons_succ]
              refine wpAnyH_take (i := 15) (oi := { dst := some 87, op := Op.binOp BinOp.neq 23 (Operand.tmp 84) (Operand.tmp 86) 23, type := 4, pos := "law.go:90", after := #[{ on := 12, ground := Ground.data }, { on := 14, ground := Ground.data }, { on := 11, ground := Ground.guard }], guard := some (11, false) }) (v := ?_) rfl (by kernel_rfl) (by kernel_rfl) (by kernel_rfl) (fun _ _ _ h => h) (Or.inl ⟨by rfl, ?_⟩) (by assumption) ?_
              rotate_left
              · intro w hSw
                try dsimp only at hSw
                go_simp
                all_goals with_reducible rfl
              try simp only [Act.put, List.setIfInBounds_toArray, List.set_cons_zero, List.set_cons_succ]
              refine wpAnyH_take (i := 16) (oi := { dst := some 88, op := Op.pick (Operand.tmp 83) (Operand.const (Value.bool true)) (Operand.tmp 87), type := 4, pos := "law.go:90", after := #[{ on := 11, ground := Ground.data }, { on := 15, ground := Ground.data }], guard := none }) (v := ?_) rfl (by kernel_rfl) (by kernel_rfl) (by kernel_rfl) (fun _ _ _ h => h) (Or.inl ⟨by rfl, ?_⟩) (by assumption) ?_
              rotate_left
              · intro w hSw
                try dsimp only at hSw
                go_simp
                all_goals with_reducible rfl
              try simp only [Act.put, List.setIfInBounds_toArray, List.set_cons_zero, List.set_cons_succ]
              refine wpAnyH_take (i := 17) (oi := { dst := some 89, op := Op.move (Operand.tmp 88), type := 4, pos := "law.go:90", after := #[{ on := 16, ground := Ground.data }, { on := 14, ground := Ground.chain }], guard := none }) (v := ?_) rfl (by kernel_rfl) (by kernel_rfl) (by kernel_rfl) (fun _ _ _ h => h) (Or.inl ⟨by rfl, ?_⟩) (by assumption) ?_
              rotate_left
              · intro w hSw
                try dsimp only at hSw
                go_simp
                all_goals with_reducible rfl
              try simp only [Act.put, List.setIfInBounds_toArray, List.set_cons_zero, List.set_cons_succ]
              refine wpAnyH_take (i := 18) (oi := { dst := some 90, op := Op.move (Operand.tmp 11), type := 47, pos := "law.go:90", after := #[{ on := 17, ground := Ground.guard }], guard := some (17, false) }) (v := ?_) rfl (by kernel_rfl) (by kernel_rfl) (by kernel_rfl) (fun _ _ _ h => h) (Or.inl ⟨by rfl, ?_⟩) (by assumption) ?_
              rotate_left
              · intro w hSw
                try dsimp only at hSw
                go_simp
                all_goals with_reducible rfl
              try simp only [Act.put, List.setIfInBounds_toArray, List.set_cons_zero, List.set_cons_succ]
              refine wpAnyH_take (i := 20) (oi := { dst := some 92, op := Op.move (Operand.tmp 12), type := 49, pos := "law.go:90", after := #[{ on := 17, ground := Ground.guard }], guard := some (17, false) }) (v := ?_) rfl (by kernel_rfl) (by kernel_rfl) (by kernel_rfl) (fun _ _ _ h => h) (Or.inl ⟨by rfl, ?_⟩) (by assumption) ?_
              rotate_left
              · intro w hSw
                try dsimp only at hSw
                go_simp
                all_goals with_reducible rfl
              try simp only [Act.put, List.setIfInBounds_toArray, List.set_cons_zero, List.set_cons_succ]
              refine wpAnyH_take (i := 21) (oi := { dst := some 93, op := Op.nilCheck (Operand.tmp 92), type := 0, pos := "law.go:90", after := #[{ on := 20, ground := Ground.data }, { on := 17, ground := Ground.guard }], guard := some (17, false) }) (v := ?_) rfl (by kernel_rfl) (by kernel_rfl) (by kernel_rfl) (fun _ _ _ h => h) (Or.inl ⟨by rfl, ?_⟩) (by assumption) ?_
              rotate_left
              · intro w hSw
                try dsimp only at hSw
                go_simp
                all_goals with_reducible rfl
              try simp only [Act.put, List.setIfInBounds_toArray, List.set_cons_zero, List.set_cons_succ]
              refine wpAnyH_take (i := 22) (oi := { dst := some 94, op := Op.fieldAddr 51 (Operand.tmp 93) 2, type := 0, pos := "law.go:90", after := #[{ on := 21, ground := Ground.data }, { on := 17, ground := Ground.guard }], guard := some (17, false) }) (v := ?_) rfl (by kernel_rfl) (by kernel_rfl) (by kernel_rfl) (fun _ _ _ h => h) (Or.inl ⟨by rfl, ?_⟩) (by assumption) ?_
              rotate_left
              · intro w hSw
                try dsimp only at hSw
                go_simp
                all_goals with_reducible rfl
              try simp only [Act.put, List.setIfInBounds_toArray, List.set_cons_zero, List.set_cons_succ]
              refine wpAnyH_ready (rs := [19, 23]) (by kernel_rfl) (by simp) ?_
              refine AllReadyH.cons (o := { dst := some 91, op := Op.call { callee := Callee.value (Operand.func 22), args := #[Operand.tmp 90], argTypes := #[47] }, type := 26, pos := "law.go:90", after := #[{ on := 18, ground := Ground.data }, { on := 17, ground := Ground.chain }, { on := 17, ground := Ground.guard }], guard := some (17, false) }) rfl (fun K hK => ?_) ?_
              · go_simp
                refine (err_any r _ E' _ HP8.out.rd).mono ?_
                rintro e w9 ⟨rfl, rfl⟩
                go_wp2_with fail
                refine hK.out _ _ ?_ (fun hH2 => ?_)
                · exact ⟨d0, d1, d2, d3⟩
                clear hK K hH1
                try simp only [Act.put, List.setIfInBounds_toArray, List.set_cons_zero, List.set_cons_succ]
                refine wpAnyH_ready (rs := [23]) (by kernel_rfl) (by simp) ?_
                refine AllReadyH.cons (o := { dst := some 95, op := Op.load 3 (Operand.tmp 94), type := 3, pos := "law.go:90", after := #[{ on := 22, ground := Ground.data }, { on := 17, ground := Ground.guard }], guard := some (17, false) }) rfl (fun K hK => ?_) ?_
                · go_simp
                  refine hK.out _ _ ?_ (fun hH3 => ?_)
                  · exact ⟨d0, d1, d2, d3⟩
                  clear hK K hH2
                  try simp only [Act.put, List.setIfInBounds_toArray, List.set_cons_zero, List.set_cons_succ]
                  refine wpAnyH_take (i := 24) (oi := { dst := some 96, op := Op.binOp BinOp.neq 3 (Operand.tmp 91) (Operand.tmp 95) 3, type := 4, pos := "law.go:90", after := #[{ on := 19, ground := Ground.data }, { on := 23, ground := Ground.data }, { on := 17, ground := Ground.guard }], guard := some (17, false) }) (v := ?_) rfl (by kernel_rfl) (by kernel_rfl) (by kernel_rfl) (fun _ _ _ h => h) (Or.inl ⟨by rfl, ?_⟩) (by assumption) ?_
                  rotate_left
                  · intro w hSw
                    try dsimp only at hSw
                    go_simp
                    all_goals with_reducible rfl
                  try simp only [Act.put, List.setIfInBounds_toArray, List.set_cons_zero, List.set_cons_succ]
                  refine wpAnyH_take (i := 25) (oi := { dst := some 97, op := Op.pick (Operand.tmp 89) (Operand.const (Value.bool true)) (Operand.tmp 96), type := 4, pos := "law.go:90", after := #[{ on := 17, ground := Ground.data }, { on := 24, ground := Ground.data }], guard := none }) (v := ?_) rfl (by kernel_rfl) (by kernel_rfl) (by kernel_rfl) (fun _ _ _ h => h) (Or.inl ⟨by rfl, ?_⟩) (by assumption) ?_
                  rotate_left
                  · intro w hSw
                    try dsimp only at hSw
                    go_simp
                    all_goals with_reducible rfl
                  try simp only [Act.put, List.setIfInBounds_toArray, List.set_cons_zero, List.set_cons_succ]
                  refine wpAnyH_done (by kernel_rfl) ?_ _
                  go_wp2
                  go_roundw
                  case rel => exact ⟨j + 1, A', E', by omega, by go_num, HAT.out, HP8.out⟩
                  case measure => simp [intOf]; omega
                exact AllReadyH.nil
              refine AllReadyH.cons (o := { dst := some 95, op := Op.load 3 (Operand.tmp 94), type := 3, pos := "law.go:90", after := #[{ on := 22, ground := Ground.data }, { on := 17, ground := Ground.guard }], guard := some (17, false) }) rfl (fun K hK => ?_) ?_
              · go_simp
                refine hK.out _ _ ?_ (fun hH2 => ?_)
                · exact ⟨d0, d1, d2, d3⟩
                clear hK K hH1
                try simp only [Act.put, List.setIfInBounds_toArray, List.set_cons_zero, List.set_cons_succ]
                refine wpAnyH_ready (rs := [19]) (by kernel_rfl) (by simp) ?_
                refine AllReadyH.cons (o := { dst := some 91, op := Op.call { callee := Callee.value (Operand.func 22), args := #[Operand.tmp 90], argTypes := #[47] }, type := 26, pos := "law.go:90", after := #[{ on := 18, ground := Ground.data }, { on := 17, ground := Ground.chain }, { on := 17, ground := Ground.guard }], guard := some (17, false) }) rfl (fun K hK => ?_) ?_
                · go_simp
                  refine (err_any r _ E' _ HP8.out.rd).mono ?_
                  rintro e w9 ⟨rfl, rfl⟩
                  go_wp2_with fail
                  refine hK.out _ _ ?_ (fun hH3 => ?_)
                  · exact ⟨d0, d1, d2, d3⟩
                  clear hK K hH2
                  try simp only [Act.put, List.setIfInBounds_toArray, List.set_cons_zero, List.set_cons_succ]
                  refine wpAnyH_take (i := 24) (oi := { dst := some 96, op := Op.binOp BinOp.neq 3 (Operand.tmp 91) (Operand.tmp 95) 3, type := 4, pos := "law.go:90", after := #[{ on := 19, ground := Ground.data }, { on := 23, ground := Ground.data }, { on := 17, ground := Ground.guard }], guard := some (17, false) }) (v := ?_) rfl (by kernel_rfl) (by kernel_rfl) (by kernel_rfl) (fun _ _ _ h => h) (Or.inl ⟨by rfl, ?_⟩) (by assumption) ?_
                  rotate_left
                  · intro w hSw
                    try dsimp only at hSw
                    go_simp
                    all_goals with_reducible rfl
                  try simp only [Act.put, List.setIfInBounds_toArray, List.set_cons_zero, List.set_cons_succ]
                  refine wpAnyH_take (i := 25) (oi := { dst := some 97, op := Op.pick (Operand.tmp 89) (Operand.const (Value.bool true)) (Operand.tmp 96), type := 4, pos := "law.go:90", after := #[{ on := 17, ground := Ground.data }, { on := 24, ground := Ground.data }], guard := none }) (v := ?_) rfl (by kernel_rfl) (by kernel_rfl) (by kernel_rfl) (fun _ _ _ h => h) (Or.inl ⟨by rfl, ?_⟩) (by assumption) ?_
                  rotate_left
                  · intro w hSw
                    try dsimp only at hSw
                    go_simp
                    all_goals with_reducible rfl
                  try simp only [Act.put, List.setIfInBounds_toArray, List.set_cons_zero, List.set_cons_succ]
                  refine wpAnyH_done (by kernel_rfl) ?_ _
                  go_wp2
                  go_roundw
                  case rel => exact ⟨j + 1, A', E', by omega, by go_num, HAT.out, HP8.out⟩
                  case measure => simp [intOf]; omega
                exact AllReadyH.nil
              exact AllReadyH.nil
            exact AllReadyH.nil
        · have hjz : j = k + 3 := by omega
          have n1 := HQ.out.ne
          have n2 := HQ.out.lo
          have HE1 := Lib.hid (fun W h => end_any B At E r W h)
          have HE2 := Lib.hid (fun W h => rend_any B At E m W h)
          generalize endE B At E = ee at *
          subst hjz
          clear hat HX HX1 HA
          go_wp2_with fail
          refine (HE1.out _ HQ.out.rd).mono ?_
          rintro x w7 ⟨rfl, _, hg7⟩
          have HM7 := Lib.hid (HQ.out.rm.kept hg7 (by simp; omega))
          have HB7 := Lib.hid (HQ.out.bel.grown hg7 HQ.out.bel.size (fun k e => by simp at e; omega))
          clear hg7 HQ HE1
          go_wp2_with fail
          refine (HE2.out _ HM7.out).mono ?_
          rintro x w8 ⟨rfl, _, hg8⟩
          have HB8 := Lib.hid (HB7.out.grown hg8 HB7.out.size (fun k e => by simp at e; omega))
          clear hg8 HB7 HM7 HE2
          go_wp2
          go_ret
          exact ⟨rfl, HB8.out⟩
end Go.Proofs.YtpdpmdbdnpemnaaDoor
