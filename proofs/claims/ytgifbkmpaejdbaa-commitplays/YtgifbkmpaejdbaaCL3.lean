/- The walk of CommitPlays. -/
import Derived.Test.YtgifbkmpaejdbaaC8
namespace Go.Proofs.Ytgifbkmpaejdbaa
open Go Go.RowKit
set_option maxRecDepth 20000
set_option maxHeartbeats 16000000 in
theorem walkPlays (c0 : Int) (a : Option Addr) (len cap : Nat) (rs : List Rn) (w : World) (h : IsRs w a len rs) :
    Calls Try.prog 3 #[.int .i64 c0, .slice a len cap] w fun e w' => e = .returned (.bool true) ∧ Below w.heap.size w w' := by
  have H := Lib.hid h
  have hsz := h.size
  clear h
  go_enter Try.func3, Try.ntmps3
  go_wp2_with fail
  refine (cnew_any c0 w.heap.size w (Nat.le_refl _)).mono ?_
  rintro e w1 ⟨rfl, hj, hb⟩
  have HJ0 := Lib.hid hj
  have HB0 := Lib.hid hb
  clear hj hb
  go_wp2_with fail
  refine (dnew_any c0 w.heap.size w1 HB0.out.size).mono ?_
  rintro e w2 ⟨rfl, hj, hb⟩
  have H1 : Hid (Cp 53 Pc 37 Pd w w2 w.heap.size w1.heap.size _ _ (clP c0) [] []) := Lib.hid ⟨Below.next HB0.out hb, HJ0.out.next hb, hj, fun k h1 h2 => by
    have := jf0 h1
    have := jf0 h2
    have := (HJ0.out.foot k h1).2
    omega⟩
  generalize Jf w.heap.size (.slice none 0 0) (fun _ => False) = F0 at H1
  generalize Jf w1.heap.size (.slice none 0 0) (fun _ => False) = G0 at H1
  clear hj hb HJ0 HB0
  generalize w1.heap.size = d at *
  generalize clP c0 = c at *
  by_cases hg : gRs rs
  · go_wp2_with fail
    refine (awake_any _).mono ?_
    rintro e w2 ⟨rfl, hb⟩
    have H2 := Lib.hid (H1.out.next hb)
    clear hb H1
    go_wp2_with fail
    refine (greatRs_yes a len cap rs hg _ (isRs_below H.out H2.out.bel)).mono ?_
    rintro e w3 ⟨rfl, hb⟩
    have H3 := Lib.hid (H2.out.next hb)
    clear hb H2
    go_wp2_with fail
    refine (awake_any _).mono ?_
    rintro e w4 ⟨rfl, hb⟩
    have H4 := Lib.hid (H3.out.next hb)
    clear hb H3
    go_wp2
    go_ret
    exact ⟨rfl, H4.out.bel⟩
  obtain ⟨hl40, hgl⟩ := gRs_at hg
  have HG := Lib.hid hgl
  have HNG := fun w h => Lib.hid (greatRs_no a len cap rs hg w h)
  have hlen : len ≤ 40 := by omega
  clear hgl hl40 hg
  go_wp2_with fail
  refine (awake_any _).mono ?_
  rintro e w2 ⟨rfl, hb⟩
  have H2 := Lib.hid (H1.out.next hb)
  clear hb H1
  go_wp2_with fail
  refine (HNG _ (isRs_below H.out H2.out.bel)).out.mono ?_
  rintro e w3 ⟨rfl, hb⟩
  have H3 := Lib.hid (H2.out.next hb)
  clear hb H2 HNG
  go_wp2_with fail
  go_loopw [26] (fun v26 wr => ∃ k : Nat, k ≤ len ∧ v26 = .int .i64 k ∧ ∃ F G L, L = sofar c rs k ∧ Cp 53 Pc 37 Pd w wr w.heap.size d F G c L L) (fun v26 _ => len - (intOf v26).toNat)
  case atStart => exact ⟨0, Nat.zero_le _, rfl, F0, G0, [], rfl, H3.out⟩
  case round =>
    obtain ⟨k, hk, rfl, F, G, L, hL, hp⟩ := hrel
    clear H3
    by_cases hlt : k < len
    · obtain ⟨gb, off, rfl, d0, d1, d2, hru⟩ := rcells_of H.out hp.bel hlt
      obtain ⟨_, hsm⟩ := HG.out k (by omega)
      have HRU0 := Lib.hid hru
      have HG8 : Hid (∀ j, wr.heap.size ≤ j → ¬ G j) := Lib.hid fun j hj hG => by have := (hp.m.foot j hG).2; omega
      have hru2 := (hru.below hp.bel).below (Joins.below_alloc1 wr (.cells #[.int .i64 (rs.getD k rn0).o, .int .i64 (rs.getD k rn0).n, .slice (rs.getD k rn0).a (rs.getD k rn0).len (rs.getD k rn0).cap] 31))
      have hst := sofar_step c (rs := rs) (k := k) (by omega)
      have hsl := sofar_len c rs k
      rw [← hL] at hst hsl
      have HPA := Lib.hid (hp.next (Joins.below_alloc1 wr (.cells #[.int .i64 (rs.getD k rn0).o, .int .i64 (rs.getD k rn0).n, .slice (rs.getD k rn0).a (rs.getD k rn0).len (rs.getD k rn0).cap] 31)))
      have HF8 : Hid (∀ j, wr.heap.size ≤ j → ¬ F j) := Lib.hid fun j hj hF => by have := (hp.j.foot j hF).2; omega
      generalize rs.getD k rn0 = r at *
      obtain ⟨ro, rn, ra, rl, rc, rus⟩ := r
      simp only at d0 d1 d2 hsm hru2 HPA HRU0
      have HST := Lib.hid hst
      have HRU := Lib.hid hru2
      have HSM := Lib.hid hsm
      have h8 := Rb.new wr ro rn ra rl rc
      have HR8 := Lib.hid h8
      have e0 := h8.c0
      have e1 := h8.c1
      have e2 := h8.c2
      have hL1000 : L.length ≤ 1000 := by omega
      clear hru hru2 hst hp hL hsm h8
      have hPD := HPA.out.drew
      obtain ⟨E, hE⟩ : ∃ E, comE c L (kR ⟨ro, rn, ra, rl, rc, rus⟩) = E := ⟨_, rfl⟩
      have hA := cadd_any (L := L) hL1000 ⟨ro, rn, ra, rl, rc, rus⟩ HSM.out (wr.alloc (.cells #[.int .i64 ro, .int .i64 rn, .slice ra rl rc] 31)).drew (HRU0.out.below hPD.bel) hPD.j
      rw [hE] at hA
      have HA := Lib.hid hA
      have HPD := Lib.hid hPD
      have HE := Lib.hid hE
      have HLL := Lib.hid hL1000
      have z0 : (wr.alloc (.cells #[.int .i64 ro, .int .i64 rn, .slice ra rl rc] 31)).drew.cell? ⟨wr.heap.size, 0, none⟩ = some (.int .i64 ro) ∧ (wr.alloc (.cells #[.int .i64 ro, .int .i64 rn, .slice ra rl rc] 31)).drew.cell? ⟨wr.heap.size, 1, none⟩ = some (.int .i64 rn) ∧ (wr.alloc (.cells #[.int .i64 ro, .int .i64 rn, .slice ra rl rc] 31)).drew.cell? ⟨wr.heap.size, 2, none⟩ = some (.slice ra rl rc) := ⟨e0, e1, e2⟩
      clear hPD hE hA hL1000 hsl
      go_wp2_with fail
      refine wp_region_held_drew (S := fun w' => w'.cell? ⟨wr.heap.size, 0, none⟩ = some (.int .i64 ro) ∧ w'.cell? ⟨wr.heap.size, 1, none⟩ = some (.int .i64 rn) ∧ w'.cell? ⟨wr.heap.size, 2, none⟩ = some (.slice ra rl rc)) (by kernel_rfl) ?_ (fun hH => ?_)
      · exact z0
      refine wpAnyH_take (i := 0) (oi := { dst := some 30, op := Go.Op.move (Go.Operand.tmp 5), type := 23, pos := "law.go:34", after := #[], guard := none }) (v := ?_) rfl (by kernel_rfl) (by kernel_rfl) (by kernel_rfl) (fun _ _ _ h => h) (Or.inl ⟨by rfl, ?_⟩) (by assumption) ?_
      rotate_left
      · intro w hSw
        try dsimp only at hSw
        obtain ⟨q1, q2, q3⟩ := hSw
        go_simp
        all_goals with_reducible rfl
      try simp only [Act.put, List.setIfInBounds_toArray, List.set_cons_zero, List.set_cons_succ]
      refine wpAnyH_take (i := 1) (oi := { dst := some 31, op := Go.Op.load 31 (Go.Operand.tmp 8), type := 31, pos := "law.go:34", after := #[], guard := none }) (v := ?_) rfl (by kernel_rfl) (by kernel_rfl) (by kernel_rfl) (fun _ _ _ h => h) (Or.inl ⟨by rfl, ?_⟩) (by assumption) ?_
      rotate_left
      · intro w hSw
        try dsimp only at hSw
        obtain ⟨q1, q2, q3⟩ := hSw
        go_simp
        all_goals with_reducible rfl
      try simp only [Act.put, List.setIfInBounds_toArray, List.set_cons_zero, List.set_cons_succ]
      refine wpAnyH_take (i := 3) (oi := { dst := some 33, op := Go.Op.move (Go.Operand.tmp 6), type := 25, pos := "law.go:34", after := #[], guard := none }) (v := ?_) rfl (by kernel_rfl) (by kernel_rfl) (by kernel_rfl) (fun _ _ _ h => h) (Or.inl ⟨by rfl, ?_⟩) (by assumption) ?_
      rotate_left
      · intro w hSw
        try dsimp only at hSw
        obtain ⟨q1, q2, q3⟩ := hSw
        go_simp
        all_goals with_reducible rfl
      try simp only [Act.put, List.setIfInBounds_toArray, List.set_cons_zero, List.set_cons_succ]
      refine wpAnyH_take (i := 4) (oi := { dst := some 34, op := Go.Op.load 31 (Go.Operand.tmp 8), type := 31, pos := "law.go:34", after := #[], guard := none }) (v := ?_) rfl (by kernel_rfl) (by kernel_rfl) (by kernel_rfl) (fun _ _ _ h => h) (Or.inl ⟨by rfl, ?_⟩) (by assumption) ?_
      rotate_left
      · intro w hSw
        try dsimp only at hSw
        obtain ⟨q1, q2, q3⟩ := hSw
        go_simp
        all_goals with_reducible rfl
      try simp only [Act.put, List.setIfInBounds_toArray, List.set_cons_zero, List.set_cons_succ]
      refine wpAnyH_ready (rs := [2]) (by kernel_rfl) (by simp) ?_
      refine AllReadyH.cons (o := { dst := some 32, op := Go.Op.call { callee := Go.Callee.value (Go.Operand.func 13), args := #[Go.Operand.tmp 30, Go.Operand.tmp 31], argTypes := #[23, 31] }, type := 32, pos := "law.go:34", after := #[{ on := 0, ground := Go.Ground.data }, { on := 1, ground := Go.Ground.data }], guard := none }) rfl (fun K hK => ?_) ?_
      · go_simp
        refine HA.out.mono ?_
        rintro e w3 ⟨rfl, F', hc⟩
        have hr3 := (HR8.out.left (w := (wr.alloc (.cells #[.int .i64 ro, .int .i64 rn, .slice ra rl rc] 31)).drew) hc.lv (HF8.out _ (Nat.le_refl _)))
        have hP3 := HPD.out.com1 hc
        have hB := dadd_any (L := L) HLL.out ⟨ro, rn, ra, rl, rc, rus⟩ HSM.out w3 (HRU0.out.below hP3.bel) hP3.m
        rw [HE.out] at hB
        have HB := Lib.hid hB
        have HP3 := Lib.hid hP3
        have HR3 := Lib.hid hr3
        have z3 : w3.cell? ⟨wr.heap.size, 0, none⟩ = some (.int .i64 ro) ∧ w3.cell? ⟨wr.heap.size, 1, none⟩ = some (.int .i64 rn) ∧ w3.cell? ⟨wr.heap.size, 2, none⟩ = some (.slice ra rl rc) := ⟨hr3.c0, hr3.c1, hr3.c2⟩
        clear hc hP3 hB hr3
        go_wp2_with fail
        refine hK.out _ _ ?_ (fun hH => ?_)
        · exact z3
        clear hK K
        try simp only [Act.put, List.setIfInBounds_toArray, List.set_cons_zero, List.set_cons_succ]
        refine wpAnyH_ready (rs := [5]) (by kernel_rfl) (by simp) ?_
        refine AllReadyH.cons (o := { dst := some 35, op := Go.Op.call { callee := Go.Callee.value (Go.Operand.func 14), args := #[Go.Operand.tmp 33, Go.Operand.tmp 34], argTypes := #[25, 31] }, type := 3, pos := "law.go:34", after := #[{ on := 3, ground := Go.Ground.data }, { on := 4, ground := Go.Ground.data }, { on := 2, ground := Go.Ground.chain }], guard := none }) rfl (fun K hK => ?_) ?_
        · go_simp
          refine HB.out.mono ?_
          rintro e w4 ⟨rfl, G', hc⟩
          have hr4 := (HR3.out.left hc.lv (HG8.out _ (Nat.le_refl _)))
          have hP4 := HP3.out.com2 hc
          have z4 : w4.cell? ⟨wr.heap.size, 0, none⟩ = some (.int .i64 ro) ∧ w4.cell? ⟨wr.heap.size, 1, none⟩ = some (.int .i64 rn) ∧ w4.cell? ⟨wr.heap.size, 2, none⟩ = some (.slice ra rl rc) := ⟨hr4.c0, hr4.c1, hr4.c2⟩
          obtain ⟨am, cm, rm, hc1, _, _, _⟩ := hP4.m.open'
          obtain ⟨n1, hn1⟩ : ∃ n1, (comL c L (kR ⟨ro, rn, ra, rl, rc, rus⟩)).length = n1 := ⟨_, rfl⟩
          rw [hn1] at hc1
          have HLEN := Lib.hid (fun W h => clen_any (L := comL c L (kR ⟨ro, rn, ra, rl, rc, rus⟩)) (F := F') (B := w.heap.size) (b := w.heap.size) (c := c) W h)
          rw [hn1] at HLEN
          have HP4 := Lib.hid hP4
          clear hc hP4 hr4 z0 z3 hn1 HP3 HB HA HPD
          go_wp2_with fail
          refine hK.out _ _ ?_ (fun hH => ?_)
          · exact z4
          clear hK K
          try simp only [Act.put, List.setIfInBounds_toArray, List.set_cons_zero, List.set_cons_succ]
          refine wpAnyH_take (i := 6) (oi := { dst := some 36, op := Go.Op.binOp Go.BinOp.neq 3 (Go.Operand.tmp 32) (Go.Operand.tmp 35) 3, type := 4, pos := "law.go:34", after := #[{ on := 2, ground := Go.Ground.data }, { on := 5, ground := Go.Ground.data }], guard := none }) (v := ?_) rfl (by kernel_rfl) (by kernel_rfl) (by kernel_rfl) (fun _ _ _ h => h) (Or.inl ⟨by rfl, ?_⟩) (by assumption) ?_
          rotate_left
          · intro w hSw
            try dsimp only at hSw
            obtain ⟨q1, q2, q3⟩ := hSw
            go_simp
            all_goals with_reducible rfl
          try simp only [Act.put, List.setIfInBounds_toArray, List.set_cons_zero, List.set_cons_succ]
          refine wpAnyH_take (i := 7) (oi := { dst := some 37, op := Go.Op.move (Go.Operand.tmp 36), type := 4, pos := "law.go:34", after := #[{ on := 6, ground := Go.Ground.data }, { on := 5, ground := Go.Ground.chain }], guard := none }) (v := ?_) rfl (by kernel_rfl) (by kernel_rfl) (by kernel_rfl) (fun _ _ _ h => h) (Or.inl ⟨by rfl, ?_⟩) (by assumption) ?_
          rotate_left
          · intro w hSw
            try dsimp only at hSw
            obtain ⟨q1, q2, q3⟩ := hSw
            go_simp
            all_goals with_reducible rfl
          try simp only [Act.put, List.setIfInBounds_toArray, List.set_cons_zero, List.set_cons_succ]
          refine wpAnyH_take (i := 8) (oi := { dst := some 38, op := Go.Op.move (Go.Operand.tmp 5), type := 23, pos := "law.go:34", after := #[{ on := 7, ground := Go.Ground.guard }], guard := some (7, false) }) (v := ?_) rfl (by kernel_rfl) (by kernel_rfl) (by kernel_rfl) (fun _ _ _ h => h) (Or.inl ⟨by rfl, ?_⟩) (by assumption) ?_
          rotate_left
          · intro w hSw
            try dsimp only at hSw
            obtain ⟨q1, q2, q3⟩ := hSw
            go_simp
            all_goals with_reducible rfl
          try simp only [Act.put, List.setIfInBounds_toArray, List.set_cons_zero, List.set_cons_succ]
          refine wpAnyH_take (i := 10) (oi := { dst := some 40, op := Go.Op.move (Go.Operand.tmp 6), type := 25, pos := "law.go:34", after := #[{ on := 7, ground := Go.Ground.guard }], guard := some (7, false) }) (v := ?_) rfl (by kernel_rfl) (by kernel_rfl) (by kernel_rfl) (fun _ _ _ h => h) (Or.inl ⟨by rfl, ?_⟩) (by assumption) ?_
          rotate_left
          · intro w hSw
            try dsimp only at hSw
            obtain ⟨q1, q2, q3⟩ := hSw
            go_simp
            all_goals with_reducible rfl
          try simp only [Act.put, List.setIfInBounds_toArray, List.set_cons_zero, List.set_cons_succ]
          refine wpAnyH_take (i := 11) (oi := { dst := some 41, op := Go.Op.nilCheck (Go.Operand.tmp 40), type := 0, pos := "law.go:34", after := #[{ on := 10, ground := Go.Ground.data }, { on := 7, ground := Go.Ground.guard }], guard := some (7, false) }) (v := ?_) rfl (by kernel_rfl) (by kernel_rfl) (by kernel_rfl) (fun _ _ _ h => h) (Or.inl ⟨by rfl, ?_⟩) (by assumption) ?_
          rotate_left
          · intro w hSw
            try dsimp only at hSw
            obtain ⟨q1, q2, q3⟩ := hSw
            go_simp
            all_goals with_reducible rfl
          try simp only [Act.put, List.setIfInBounds_toArray, List.set_cons_zero, List.set_cons_succ]
          refine wpAnyH_take (i := 12) (oi := { dst := some 42, op := Go.Op.fieldAddr 37 (Go.Operand.tmp 41) 1, type := 0, pos := "law.go:34", after := #[{ on := 11, ground := Go.Ground.data }, { on := 7, ground := Go.Ground.guard }], guard := some (7, false) }) (v := ?_) rfl (by kernel_rfl) (by kernel_rfl) (by kernel_rfl) (fun _ _ _ h => h) (Or.inl ⟨by rfl, ?_⟩) (by assumption) ?_
          rotate_left
          · intro w hSw
            try dsimp only at hSw
            obtain ⟨q1, q2, q3⟩ := hSw
            go_simp
            all_goals with_reducible rfl
          try simp only [Act.put, List.setIfInBounds_toArray, List.set_cons_zero, List.set_cons_succ]
          refine wpAnyH_ready (rs := [9, 13]) (by kernel_rfl) (by simp) ?_
          refine AllReadyH.cons (o := { dst := some 39, op := Go.Op.call { callee := Go.Callee.value (Go.Operand.func 15), args := #[Go.Operand.tmp 38], argTypes := #[23] }, type := 3, pos := "law.go:34", after := #[{ on := 8, ground := Go.Ground.data }, { on := 7, ground := Go.Ground.chain }, { on := 7, ground := Go.Ground.guard }], guard := some (7, false) }) rfl (fun K hK => ?_) ?_
          · go_simp
            refine (HLEN.out w4 HP4.out.j).mono ?_
            rintro e w8 ⟨rfl, rfl⟩
            go_wp2_with fail
            refine hK.out _ _ ?_ (fun hH => ?_)
            · exact z4
            clear hK K
            try simp only [Act.put, List.setIfInBounds_toArray, List.set_cons_zero, List.set_cons_succ]
            refine wpAnyH_ready (rs := [13]) (by kernel_rfl) (by simp) ?_
            refine AllReadyH.cons (o := { dst := some 43, op := Go.Op.load 22 (Go.Operand.tmp 42), type := 22, pos := "law.go:34", after := #[{ on := 12, ground := Go.Ground.data }, { on := 7, ground := Go.Ground.guard }], guard := some (7, false) }) rfl (fun K hK => ?_) ?_
            · go_simp
              refine hK.out _ _ ?_ (fun hH => ?_)
              · exact z4
              clear hK K
              try simp only [Act.put, List.setIfInBounds_toArray, List.set_cons_zero, List.set_cons_succ]
              refine wpAnyH_take (i := 14) (oi := { dst := some 44, op := Go.Op.call { callee := Go.Callee.builtin Go.Builtin.len, args := #[Go.Operand.tmp 43], argTypes := #[22] }, type := 3, pos := "law.go:34", after := #[{ on := 13, ground := Go.Ground.data }, { on := 7, ground := Go.Ground.guard }], guard := some (7, false) }) (v := ?_) rfl (by kernel_rfl) (by kernel_rfl) (by kernel_rfl) (fun _ _ _ h => h) (Or.inl ⟨by rfl, ?_⟩) (by assumption) ?_
              rotate_left
              · intro w hSw
                try dsimp only at hSw
                obtain ⟨q1, q2, q3⟩ := hSw
                go_simp
                all_goals with_reducible rfl
              try simp only [Act.put, List.setIfInBounds_toArray, List.set_cons_zero, List.set_cons_succ]
              refine wpAnyH_take (i := 15) (oi := { dst := some 45, op := Go.Op.binOp Go.BinOp.neq 3 (Go.Operand.tmp 39) (Go.Operand.tmp 44) 3, type := 4, pos := "law.go:34", after := #[{ on := 9, ground := Go.Ground.data }, { on := 14, ground := Go.Ground.data }, { on := 7, ground := Go.Ground.guard }], guard := some (7, false) }) (v := ?_) rfl (by kernel_rfl) (by kernel_rfl) (by kernel_rfl) (fun _ _ _ h => h) (Or.inl ⟨by rfl, ?_⟩) (by assumption) ?_
              rotate_left
              · intro w hSw
                try dsimp only at hSw
                obtain ⟨q1, q2, q3⟩ := hSw
                go_simp
                all_goals with_reducible rfl
              try simp only [Act.put, List.setIfInBounds_toArray, List.set_cons_zero, List.set_cons_succ]
              refine wpAnyH_take (i := 16) (oi := { dst := some 46, op := Go.Op.pick (Go.Operand.tmp 37) (Go.Operand.const (Go.Value.bool true)) (Go.Operand.tmp 45), type := 4, pos := "law.go:34", after := #[{ on := 7, ground := Go.Ground.data }, { on := 15, ground := Go.Ground.data }], guard := none }) (v := ?_) rfl (by kernel_rfl) (by kernel_rfl) (by kernel_rfl) (fun _ _ _ h => h) (Or.inl ⟨by rfl, ?_⟩) (by assumption) ?_
              rotate_left
              · intro w hSw
                try dsimp only at hSw
                obtain ⟨q1, q2, q3⟩ := hSw
                go_simp
                all_goals with_reducible rfl
              try simp only [Act.put, List.setIfInBounds_toArray, List.set_cons_zero, List.set_cons_succ]
              refine wpAnyH_done (by kernel_rfl) ?_ _
              clear z4
              go_wp2
              go_roundw
              case rel => exact ⟨k + 1, by omega, by go_num, F', G', _, HST.out.symm, HP4.out⟩
              case measure => simp [intOf]; omega
            exact AllReadyH.nil
          refine AllReadyH.cons (o := { dst := some 43, op := Go.Op.load 22 (Go.Operand.tmp 42), type := 22, pos := "law.go:34", after := #[{ on := 12, ground := Go.Ground.data }, { on := 7, ground := Go.Ground.guard }], guard := some (7, false) }) rfl (fun K hK => ?_) ?_
          · go_simp
            refine hK.out _ _ ?_ (fun hH => ?_)
            · exact z4
            clear hK K
            try simp only [Act.put, List.setIfInBounds_toArray, List.set_cons_zero, List.set_cons_succ]
            refine wpAnyH_take (i := 14) (oi := { dst := some 44, op := Go.Op.call { callee := Go.Callee.builtin Go.Builtin.len, args := #[Go.Operand.tmp 43], argTypes := #[22] }, type := 3, pos := "law.go:34", after := #[{ on := 13, ground := Go.Ground.data }, { on := 7, ground := Go.Ground.guard }], guard := some (7, false) }) (v := ?_) rfl (by kernel_rfl) (by kernel_rfl) (by kernel_rfl) (fun _ _ _ h => h) (Or.inl ⟨by rfl, ?_⟩) (by assumption) ?_
            rotate_left
            · intro w hSw
              try dsimp only at hSw
              obtain ⟨q1, q2, q3⟩ := hSw
              go_simp
              all_goals with_reducible rfl
            try simp only [Act.put, List.setIfInBounds_toArray, List.set_cons_zero, List.set_cons_succ]
            refine wpAnyH_ready (rs := [9]) (by kernel_rfl) (by simp) ?_
            refine AllReadyH.cons (o := { dst := some 39, op := Go.Op.call { callee := Go.Callee.value (Go.Operand.func 15), args := #[Go.Operand.tmp 38], argTypes := #[23] }, type := 3, pos := "law.go:34", after := #[{ on := 8, ground := Go.Ground.data }, { on := 7, ground := Go.Ground.chain }, { on := 7, ground := Go.Ground.guard }], guard := some (7, false) }) rfl (fun K hK => ?_) ?_
            · go_simp
              refine (HLEN.out w4 HP4.out.j).mono ?_
              rintro e w8 ⟨rfl, rfl⟩
              go_wp2_with fail
              refine hK.out _ _ ?_ (fun hH => ?_)
              · exact z4
              clear hK K
              try simp only [Act.put, List.setIfInBounds_toArray, List.set_cons_zero, List.set_cons_succ]
              refine wpAnyH_take (i := 15) (oi := { dst := some 45, op := Go.Op.binOp Go.BinOp.neq 3 (Go.Operand.tmp 39) (Go.Operand.tmp 44) 3, type := 4, pos := "law.go:34", after := #[{ on := 9, ground := Go.Ground.data }, { on := 14, ground := Go.Ground.data }, { on := 7, ground := Go.Ground.guard }], guard := some (7, false) }) (v := ?_) rfl (by kernel_rfl) (by kernel_rfl) (by kernel_rfl) (fun _ _ _ h => h) (Or.inl ⟨by rfl, ?_⟩) (by assumption) ?_
              rotate_left
              · intro w hSw
                try dsimp only at hSw
                obtain ⟨q1, q2, q3⟩ := hSw
                go_simp
                all_goals with_reducible rfl
              try simp only [Act.put, List.setIfInBounds_toArray, List.set_cons_zero, List.set_cons_succ]
              refine wpAnyH_take (i := 16) (oi := { dst := some 46, op := Go.Op.pick (Go.Operand.tmp 37) (Go.Operand.const (Go.Value.bool true)) (Go.Operand.tmp 45), type := 4, pos := "law.go:34", after := #[{ on := 7, ground := Go.Ground.data }, { on := 15, ground := Go.Ground.data }], guard := none }) (v := ?_) rfl (by kernel_rfl) (by kernel_rfl) (by kernel_rfl) (fun _ _ _ h => h) (Or.inl ⟨by rfl, ?_⟩) (by assumption) ?_
              rotate_left
              · intro w hSw
                try dsimp only at hSw
                obtain ⟨q1, q2, q3⟩ := hSw
                go_simp
                all_goals with_reducible rfl
              try simp only [Act.put, List.setIfInBounds_toArray, List.set_cons_zero, List.set_cons_succ]
              refine wpAnyH_done (by kernel_rfl) ?_ _
              clear z4
              go_wp2
              go_roundw
              case rel => exact ⟨k + 1, by omega, by go_num, F', G', _, HST.out.symm, HP4.out⟩
              case measure => simp [intOf]; omega
            exact AllReadyH.nil
          exact AllReadyH.nil
        exact AllReadyH.nil
      exact AllReadyH.nil
    · obtain rfl : k = len := by omega
      have hsl := sofar_len c rs k
      rw [← hL] at hsl
      have hsml := hp.j.sm
      obtain ⟨am, cm, rm, hc1, hrm, hem, hcW⟩ := hp.m.open'
      obtain ⟨M, hM⟩ : ∃ M, L.length = M := ⟨_, rfl⟩
      rw [hM] at hc1 hrm hcW
      have hM40 : M ≤ 40 := by omega
      have hn : L.length ≤ 1000 := by omega
      have hCA := call_any (L := L) (B := w.heap.size) (b := w.heap.size) (F := F) (c := c) hn wr.drew hp.drew.j
      rw [hM] at hCA
      have HCA := Lib.hid hCA
      have HRM := Lib.hid hrm
      have HEM := Lib.hid hem
      have HCW := Lib.hid hcW
      have HSML := Lib.hid hsml
      have HM := Lib.hid hM
      have HP := Lib.hid hp
      have z0 := HCW.out wr.drew (Below.refl _ _).drew
      clear hp hL hsl hsml hM hn hCA hrm hem hcW
      go_wp2_with fail
      refine wp_region_held_drew (S := fun w' => w'.cell? ⟨d, 1, none⟩ = some (.slice am M cm)) (by kernel_rfl) ?_ (fun hH => ?_)
      · exact z0
      refine wpAnyH_take (i := 0) (oi := { dst := some 48, op := Go.Op.move (Go.Operand.tmp 5), type := 23, pos := "law.go:38", after := #[], guard := none }) (v := ?_) rfl (by kernel_rfl) (by kernel_rfl) (by kernel_rfl) (fun _ _ _ h => h) (Or.inl ⟨by rfl, ?_⟩) (by assumption) ?_
      rotate_left
      · intro w hSw
        try dsimp only at hSw
        go_simp
        all_goals with_reducible rfl
      try simp only [Act.put, List.setIfInBounds_toArray, List.set_cons_zero, List.set_cons_succ]
      refine wpAnyH_take (i := 2) (oi := { dst := some 50, op := Go.Op.move (Go.Operand.tmp 6), type := 25, pos := "law.go:38", after := #[], guard := none }) (v := ?_) rfl (by kernel_rfl) (by kernel_rfl) (by kernel_rfl) (fun _ _ _ h => h) (Or.inl ⟨by rfl, ?_⟩) (by assumption) ?_
      rotate_left
      · intro w hSw
        try dsimp only at hSw
        go_simp
        all_goals with_reducible rfl
      try simp only [Act.put, List.setIfInBounds_toArray, List.set_cons_zero, List.set_cons_succ]
      refine wpAnyH_take (i := 3) (oi := { dst := some 51, op := Go.Op.nilCheck (Go.Operand.tmp 50), type := 0, pos := "law.go:38", after := #[{ on := 2, ground := Go.Ground.data }], guard := none }) (v := ?_) rfl (by kernel_rfl) (by kernel_rfl) (by kernel_rfl) (fun _ _ _ h => h) (Or.inl ⟨by rfl, ?_⟩) (by assumption) ?_
      rotate_left
      · intro w hSw
        try dsimp only at hSw
        go_simp
        all_goals with_reducible rfl
      try simp only [Act.put, List.setIfInBounds_toArray, List.set_cons_zero, List.set_cons_succ]
      refine wpAnyH_take (i := 4) (oi := { dst := some 52, op := Go.Op.fieldAddr 37 (Go.Operand.tmp 51) 1, type := 0, pos := "law.go:38", after := #[{ on := 3, ground := Go.Ground.data }], guard := none }) (v := ?_) rfl (by kernel_rfl) (by kernel_rfl) (by kernel_rfl) (fun _ _ _ h => h) (Or.inl ⟨by rfl, ?_⟩) (by assumption) ?_
      rotate_left
      · intro w hSw
        try dsimp only at hSw
        go_simp
        all_goals with_reducible rfl
      try simp only [Act.put, List.setIfInBounds_toArray, List.set_cons_zero, List.set_cons_succ]
      refine wpAnyH_take (i := 5) (oi := { dst := some 53, op := Go.Op.load 22 (Go.Operand.tmp 52), type := 22, pos := "law.go:38", after := #[{ on := 4, ground := Go.Ground.data }], guard := none }) (v := ?_) rfl (by kernel_rfl) (by kernel_rfl) (by kernel_rfl) (fun _ _ _ h => h) (Or.inl ⟨by rfl, ?_⟩) (by assumption) ?_
      rotate_left
      · intro w hSw
        try dsimp only at hSw
        go_simp
        all_goals with_reducible rfl
      try simp only [Act.put, List.setIfInBounds_toArray, List.set_cons_zero, List.set_cons_succ]
      refine wpAnyH_ready (rs := [1]) (by kernel_rfl) (by simp) ?_
      refine AllReadyH.cons (o := { dst := some 49, op := Go.Op.call { callee := Go.Callee.value (Go.Operand.func 17), args := #[Go.Operand.tmp 48], argTypes := #[23] }, type := 22, pos := "law.go:38", after := #[{ on := 0, ground := Go.Ground.data }], guard := none }) rfl (fun K hK => ?_) ?_
      · go_simp
        refine HCA.out.mono ?_
        rintro e w5 ⟨g, xs, rfl, hrz, _, how, hxs, hb'⟩
        have hb : Below wr.heap.size wr w5 := ⟨hb'.os, hb'.tape, hb'.output, hb'.size, hb'.block⟩
        have hxl := map_len hxs
        rw [HM.out] at hxl
        have hix := rz_is hrz how
        rw [hxl] at hix
        have HP5 := Lib.hid (HP.out.next hb)
        have HSA := Lib.hid (sameall_yes (some ⟨g, 0, none⟩) am M M cm xs rm (by omega) (alk_of (hxs.trans HEM.out.symm) M) (fun i hi => us_le HSML.out hxs i (by omega)) w5 hix (isRs_below HRM.out hb))
        have z5 := HCW.out w5 hb
        have HB5 := Lib.hid hb
        clear hrz how hxs hb' hb hxl hix HP
        go_wp2_with fail
        refine hK.out _ _ ?_ (fun hH => ?_)
        · exact z5
        clear hK K
        try simp only [Act.put, List.setIfInBounds_toArray, List.set_cons_zero, List.set_cons_succ]
        refine wpAnyH_ready (rs := [6]) (by kernel_rfl) (by simp) ?_
        refine AllReadyH.cons (o := { dst := some 54, op := Go.Op.call { callee := Go.Callee.value (Go.Operand.func 16), args := #[Go.Operand.tmp 49, Go.Operand.tmp 53], argTypes := #[22, 22] }, type := 4, pos := "law.go:38", after := #[{ on := 1, ground := Go.Ground.data }, { on := 5, ground := Go.Ground.data }, { on := 1, ground := Go.Ground.chain }], guard := none }) rfl (fun K hK => ?_) ?_
        · go_simp
          refine HSA.out.mono ?_
          rintro e w6 ⟨rfl, hb⟩
          have HP6 := Lib.hid (HP5.out.next hb)
          have z6 := HCW.out w6 (Below.next HB5.out hb)
          clear hb
          go_wp2_with fail
          refine hK.out _ _ ?_ (fun hH => ?_)
          · exact z6
          clear hK K
          try simp only [Act.put, List.setIfInBounds_toArray, List.set_cons_zero, List.set_cons_succ]
          refine wpAnyH_take (i := 7) (oi := { dst := some 4, op := Go.Op.assign (Go.Operand.tmp 54), type := 4, pos := "law.go:38", after := #[{ on := 6, ground := Go.Ground.data }, { on := 6, ground := Go.Ground.chain }, { on := 0, ground := Go.Ground.phase }, { on := 1, ground := Go.Ground.phase }, { on := 2, ground := Go.Ground.phase }, { on := 3, ground := Go.Ground.phase }, { on := 4, ground := Go.Ground.phase }, { on := 5, ground := Go.Ground.phase }, { on := 6, ground := Go.Ground.phase }], guard := none }) (v := ?_) rfl (by kernel_rfl) (by kernel_rfl) (by kernel_rfl) (fun _ _ _ h => h) (Or.inl ⟨by rfl, ?_⟩) (by assumption) ?_
          rotate_left
          · intro w hSw
            try dsimp only at hSw
            go_simp
            all_goals with_reducible rfl
          try simp only [Act.put, List.setIfInBounds_toArray, List.set_cons_zero, List.set_cons_succ]
          refine wpAnyH_done (by kernel_rfl) ?_ _
          clear z6 z5 z0
          go_wp2
          go_ret
          exact ⟨rfl, HP6.out.bel⟩
        exact AllReadyH.nil
      exact AllReadyH.nil
end Go.Proofs.Ytgifbkmpaejdbaa
