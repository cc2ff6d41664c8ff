/- A receiver's Pop and Look. -/
import Derived.Test.YtlmnncablfbafaaE3
namespace Go.Proofs.Ytlmnncablfbafaa
open Go Go.RowKit
set_option maxRecDepth 20000
theorem ring_less {k : Nat} {x : ByteArray} {ps L : List ByteArray} (h : Ring k (x :: ps) L) (hl : ps.length < 16) : Ring (k + 1) ps (L.set ((k + 1) % 16) emp) := by
  obtain ⟨h1, h2⟩ := h
  refine ⟨by rw [List.length_set]; exact h1, fun i hi => ?_⟩
  have := h2 (i + 1) (by rw [List.length_cons]; omega)
  simp only [List.getD_eq_getElem?_getD, List.getElem?_cons_succ] at this ⊢
  rw [List.getElem?_set_ne (by omega), show k + 1 + 1 + i = k + 1 + (i + 1) by omega]
  exact this
section
variable {B : Nat} {b : Nat} {room : Int} {k : Nat} {ps L : List ByteArray}
theorem Okr.less {x : ByteArray} (h : Okr room (x :: ps)) : Okr room ps := ⟨h.r1, h.r2, by have := h.len; rw [List.length_cons] at this; omega, fun d hd => h.sh d (List.mem_cons_of_mem _ hd)⟩
set_option maxHeartbeats 1000000 in
theorem pop_none (w : World) (h : Rv B w b room k [] L) :
    Calls Try.prog 13 #[.pointer (some ⟨b, 0, none⟩)] w fun e w' => e = .returned (.tuple #[.string emp, .bool false]) ∧ w' = w := by
  have c2 : w.cell? ⟨b, 2, none⟩ = some (.int .i64 0) := h.c2
  unfold emp
  clear h
  go_enter Try.func13, Try.ntmps13
  go_wp2
  go_ret2
  exact ⟨rfl, rfl⟩
theorem pop_fin {w : World} {x : ByteArray} {j : Nat} (hjj : (k + 1) % 16 = j) (h : Rv B w b room k (x :: ps) L) :
    w.cell? ⟨b, 3 + j, none⟩ = some (.string x) ∧ w.frozen? ⟨b, 3 + j, none⟩ = false ∧ (w.setCell ⟨b, 3 + j, none⟩ (.string emp)).cell? ⟨b, 2, none⟩ = some (.int .i64 ((ps.length + 1 : Nat) : Int)) ∧ (w.setCell ⟨b, 3 + j, none⟩ (.string emp)).frozen? ⟨b, 2, none⟩ = false ∧
      Hid (Rv B ((w.setCell ⟨b, 3 + j, none⟩ (.string emp)).setCell ⟨b, 2, none⟩ (.int .i64 (ps.length : Int))) b room (k + 1) ps (L.set j emp) ∧ w.grownBy ((w.setCell ⟨b, 3 + j, none⟩ (.string emp)).setCell ⟨b, 2, none⟩ (.int .i64 (ps.length : Int))) (some b)) := by
  have h0 : Rc w b room (k + (x :: ps).length) (x :: ps).length L := h.blk
  have h1 := h0.setj j emp
  refine ⟨?_, h0.f0 _, h1.c2, h1.f0 _, ⟨⟨h.lo, ?_, ?_, h.ok.less⟩, World.grownBy.trans (grown_set w b (3 + j) (.string emp)) (grown_set (w.setCell ⟨b, 3 + j, none⟩ (.string emp)) b 2 (.int .i64 (ps.length : Int)))⟩⟩
  · have := h.at 0 (by simp)
    rw [Nat.add_zero, hjj] at this
    exact this
  · have := h1.set2 ps.length
    rw [List.length_cons, show k + (ps.length + 1) = k + 1 + ps.length by omega] at this
    exact this
  · have := ring_less h.ring (by have := h.ok.le; rw [List.length_cons] at this; omega)
    rw [hjj] at this
    exact this
set_option maxHeartbeats 2000000 in
theorem pop_yes (x : ByteArray) (hk : k + (ps.length + 1) ≤ 1000000) (w : World) (h : Rv B w b room k (x :: ps) L) :
    Calls Try.prog 13 #[.pointer (some ⟨b, 0, none⟩)] w fun e w' => e = .returned (.tuple #[.string x, .bool true]) ∧ (∃ L', Rv B w' b room (k + 1) ps L') ∧ w.grownBy w' (some b) := by
  have c2 : w.cell? ⟨b, 2, none⟩ = some (.int .i64 ((ps.length + 1 : Nat) : Int)) := h.c2
  have hl := h.ok.le
  rw [List.length_cons] at hl
  have hw : IntKind.i64.wrap (((ps.length + 1 : Nat) : Int) - 1) = (ps.length : Int) := by
    rw [show ((ps.length + 1 : Nat) : Int) - 1 = (ps.length : Int) by omega]
    exact i64_id (by omega) (by omega)
  have hn : ¬ ((ps.length + 1 : Nat) : Int) = 0 := by omega
  have HP := fun w => Lib.hid (place_any (k + 1) (by omega) w)
  have H := Lib.hid h
  have hj : (k + 1) % 16 < 16 := Nat.mod_lt _ (by decide)
  generalize hJ : (k + 1) % 16 = j at *
  have HJ := Lib.hid hJ
  have hj2 : (j : Int) < 16 := by omega
  clear h hJ
  go_enter Try.func13, Try.ntmps13
  generalize hT : ((ps.length + 1 : Nat) : Int) = T1 at *
  have HT := Lib.hid hT
  clear hT
  go_wp2_with fail
  refine (first_any (by rw [List.length_cons]; exact hk) w H.out).mono ?_
  rintro e w1 ⟨rfl, e1, e2, e3, e4⟩
  obtain ⟨d1, f1, d2, f2, HF⟩ := pop_fin HJ.out (H.out.asit e1)
  rw [HT.out] at d2
  unfold emp at d2 f2 HF
  have HE : Hid (w.grownBy w1 (some b)) := Lib.hid (grown_asit e1 e2 e3 e4)
  clear e1 e2 e3 e4 c2
  go_wp2_with fail
  refine (HP _).out.mono ?_
  rintro e w2 ⟨rfl, rfl⟩
  go_wp2
  go_ret2
  exact ⟨rfl, ⟨_, HF.out.1⟩, World.grownBy.trans HE.out HF.out.2⟩
theorem infoS : ∃ i, Try.prog.info? 9 = some i ∧ i.zero = some (.string ⟨#[]⟩) ∧ i.size = 1 ∧ i.bytes = 16 := by
  have h : (Try.prog.info? 9).map (fun i => (i.zero, i.size, i.bytes)) = some (some (.string ⟨#[]⟩), 1, 16) := by kernel_rfl
  cases hx : Try.prog.info? 9 with
  | none => rw [hx] at h; cases h
  | some i =>
    rw [hx] at h
    simp at h
    exact ⟨i, rfl, h.1, h.2.1, h.2.2⟩
/-- How it stands within Look, before the piece i. -/
structure Lk (B : Nat) (w wr : World) (b : Nat) (room : Int) (k : Nat) (ps L : List ByteArray) (g i : Nat) : Prop where
  rv : Rv B wr b room k ps L
  ne : b < g
  lo : w.heap.size ≤ g
  own : ∃ xs, wr.ownsRow w.heap.size 9 1 (.slice (some ⟨g, 0, none⟩) ps.length ps.length) ps.length xs ∧ ∀ j, j < i → xs[j]? = (flS ps)[j]?
  bel : Below w.heap.size w wr
section
variable {w wr w' : World} {g i : Nat}
theorem Lk.next (h : Lk B w wr b room k ps L g i) (hb : Below wr.heap.size wr w') : Lk B w w' b room k ps L g i := by
  obtain ⟨xs, h1, h2⟩ := h.own
  exact ⟨h.rv.next hb, h.ne, h.lo, ⟨xs, World.ownsRow.kept h1 (grownOf none hb) (Classical.em _), h2⟩, Below.next h.bel hb⟩
theorem Lk.asit (h : Lk B w wr b room k ps L g i) (e : w'.heap = wr.heap) (e1 : w'.os = wr.os) (e2 : w'.tape = wr.tape) (e3 : w'.output = wr.output) : Lk B w w' b room k ps L g i :=
  h.next ⟨e1, e2, e3, by rw [e]; exact Nat.le_refl _, fun i _ => by rw [e]⟩
theorem Lk.cell (h : Lk B w wr b room k ps L g i) (hi : i < ps.length) : ∃ u, wr.cell? ⟨g, i, none⟩ = some u ∧ wr.frozen? ⟨g, i, none⟩ = false := by
  obtain ⟨xs, h1, h2⟩ := h.own
  have hl := h1.1
  exact ⟨_, (World.ownsRow.cellAt h1 i (by omega)).trans (List.getElem?_eq_getElem (by omega)), World.ownsRow.frozenAt h1 i⟩
theorem Lk.store (h : Lk B w wr b room k ps L g i) (x : ByteArray) (hx : ps.getD i emp = x) (hi : i < ps.length) : Lk B w (wr.setCell ⟨g, i, none⟩ (.string x)) b room k ps L g (i + 1) := by
  obtain ⟨xs, h1, h2⟩ := h.own
  have hl := h1.1
  obtain ⟨s1, g1⟩ := World.ownsRow.stored h1 i (.string x)
  have hne := h.ne
  refine ⟨h.rv.kept g1 (by simp; omega), h.ne, h.lo, ⟨_, s1, fun j hj => ?_⟩, h.bel.grown g1 h.bel.size (fun j hj => by cases hj; exact h.lo)⟩
  by_cases hji : j = i
  · subst hji
    rw [List.getElem?_set_self (by omega), ← hx]
    simp [flS, List.getD_eq_getElem?_getD, hi]
  · rw [List.getElem?_set_ne (by omega)]
    exact h2 j (by omega)
theorem Lk.row (h : Lk B w wr b room k ps L g ps.length) : RowS w.heap.size wr (.slice (some ⟨g, 0, none⟩) ps.length ps.length) ps := by
  obtain ⟨xs, h1, h2⟩ := h.own
  have hl := h1.1
  have e : xs = flS ps := by
    apply List.ext_getElem?
    intro j
    by_cases hj : j < ps.length
    · exact h2 j hj
    · rw [List.getElem?_eq_none (by omega), List.getElem?_eq_none (by rw [flS_len]; omega)]
  subst e
  exact h1
end
set_option maxHeartbeats 4000000 in
theorem look_any (hk : k + ps.length ≤ 1000000) (w : World) (h : Rv B w b room k ps L) :
    Calls Try.prog 19 #[.pointer (some ⟨b, 0, none⟩)] w fun e w' => ∃ g, e = .returned (.slice (some ⟨g, 0, none⟩) ps.length ps.length) ∧ RowS w.heap.size w' (.slice (some ⟨g, 0, none⟩) ps.length ps.length) ps ∧ Below w.heap.size w w' := by
  have c2 := h.c2
  have hl := h.ok.le
  obtain ⟨i0, hi, hz, hs, hby⟩ := infoS
  have H := Lib.hid h
  clear h
  go_enter Try.func19, Try.ntmps19
  go_wp2_with (at_make; refine wpList_make_full _ rfl _ _ 35 rfl w.heap.size 9 i0 _ 1 Try.underlying35 hi hz hs .i64 .i64 (ps.length : Int) (ps.length : Int) ps.length rfl rfl rfl rfl (by rw [hby]; omega) (by unfold maxLen; omega) (Nat.le_refl _) ?_)
  intro w1 hown hgr
  have HL : Hid (Lk B w w1 b room k ps L w.heap.size 0) := Lib.hid ⟨H.out.next (belowOf hgr), H.out.lt, Nat.le_refl _, ⟨_, hown, fun j hj => absurd hj (by omega)⟩, belowOf hgr⟩
  have HSH := Lib.hid H.out.ok.sh
  clear hown hgr hi hz hs hby c2 H
  go_wp2_with fail
  generalize w.heap.size = g at HL ⊢
  go_loopw [12] (fun v12 wr => ∃ i : Nat, i ≤ ps.length ∧ v12 = .int .i64 i ∧ Lk B w wr b room k ps L g i) (fun v12 _ => ps.length - (intOf v12).toNat)
  case atStart => exact ⟨0, Nat.zero_le _, rfl, HL.out⟩
  case round =>
    obtain ⟨i, hi, rfl, hlk⟩ := hrel
    clear HL
    by_cases hlt : i < ps.length
    · have s0 := hlk.rv.at i hlt
      have HP := fun w => Lib.hid (place_any (k + 1 + i) (by omega) w)
      have hj : (k + 1 + i) % 16 < 16 := Nat.mod_lt _ (by decide)
      have hD : (ps.getD i emp).size ≤ 140737488355328 := by
        have := HSH.out (ps.getD i emp) (by rw [show ps.getD i emp = ps[i] by simp [List.getD_eq_getElem?_getD, hlt]]; exact List.getElem_mem _)
        omega
      have hw : IntKind.i64.wrap (((k + 1 : Nat) : Int) + (i : Int)) = ((k + 1 + i : Nat) : Int) := by
        rw [show ((k + 1 : Nat) : Int) + (i : Int) = ((k + 1 + i : Nat) : Int) by omega]
        exact i64_id (by omega) (by omega)
      generalize hJJ : (k + 1 + i) % 16 = J at *
      generalize hDD : ps.getD i emp = D at *
      generalize hQ : ((k + 1 + i : Nat) : Int) = Q at *
      obtain ⟨R, hR⟩ : ∃ R, ((k + 1 : Nat) : Int) = R := ⟨_, rfl⟩
      rw [hR] at hw
      have HR := Lib.hid hR
      have hj2 : (J : Int) < 16 := by omega
      have HJ := Lib.hid hJJ
      have HD := Lib.hid hDD
      have H1 := Lib.hid hlk
      have HLD : Hid (Lk B w wr.drew b room k ps L g i) := Lib.hid (hlk.asit rfl rfl rfl rfl)
      clear hlk hJJ hDD hR hQ
      go_wp2_with fail
      refine wp_region_held_drew (S := fun w' => w'.cell? ⟨b, 3 + J, none⟩ = some (.string D)) (by kernel_rfl) ?_ (fun hH => ?_)
      · exact s0
      refine wpAnyH_take (i := 0) (oi := { dst := some 15, op := Go.Op.move (Go.Operand.tmp 3), type := 35, pos := "receiver.go:56", after := #[], guard := none }) (v := ?_) rfl (by kernel_rfl) (by kernel_rfl) (by kernel_rfl) (fun _ _ _ h => h) (Or.inl ⟨by rfl, ?_⟩) (by assumption) ?_
      rotate_left
      · intro w hSw
        try dsimp only at hSw
        go_simp
        all_goals with_reducible rfl
      try simp only [Act.put, List.setIfInBounds_toArray, List.set_cons_zero, List.set_cons_succ]
      refine wpAnyH_take (i := 1) (oi := { dst := some 16, op := Go.Op.move (Go.Operand.tmp 4), type := 3, pos := "receiver.go:56", after := #[], guard := none }) (v := ?_) rfl (by kernel_rfl) (by kernel_rfl) (by kernel_rfl) (fun _ _ _ h => h) (Or.inl ⟨by rfl, ?_⟩) (by assumption) ?_
      rotate_left
      · intro w hSw
        try dsimp only at hSw
        go_simp
        all_goals with_reducible rfl
      try simp only [Act.put, List.setIfInBounds_toArray, List.set_cons_zero, List.set_cons_succ]
      refine wpAnyH_take (i := 2) (oi := { dst := some 17, op := Go.Op.move (Go.Operand.tmp 0), type := 23, pos := "receiver.go:56", after := #[], guard := none }) (v := ?_) rfl (by kernel_rfl) (by kernel_rfl) (by kernel_rfl) (fun _ _ _ h => h) (Or.inl ⟨by rfl, ?_⟩) (by assumption) ?_
      rotate_left
      · intro w hSw
        try dsimp only at hSw
        go_simp
        all_goals with_reducible rfl
      try simp only [Act.put, List.setIfInBounds_toArray, List.set_cons_zero, List.set_cons_succ]
      refine wpAnyH_take (i := 3) (oi := { dst := some 18, op := Go.Op.move (Go.Operand.tmp 0), type := 23, pos := "receiver.go:56", after := #[], guard := none }) (v := ?_) rfl (by kernel_rfl) (by kernel_rfl) (by kernel_rfl) (fun _ _ _ h => h) (Or.inl ⟨by rfl, ?_⟩) (by assumption) ?_
      rotate_left
      · intro w hSw
        try dsimp only at hSw
        go_simp
        all_goals with_reducible rfl
      try simp only [Act.put, List.setIfInBounds_toArray, List.set_cons_zero, List.set_cons_succ]
      refine wpAnyH_take (i := 5) (oi := { dst := some 20, op := Go.Op.move (Go.Operand.tmp 4), type := 3, pos := "receiver.go:56", after := #[], guard := none }) (v := ?_) rfl (by kernel_rfl) (by kernel_rfl) (by kernel_rfl) (fun _ _ _ h => h) (Or.inl ⟨by rfl, ?_⟩) (by assumption) ?_
      rotate_left
      · intro w hSw
        try dsimp only at hSw
        go_simp
        all_goals with_reducible rfl
      try simp only [Act.put, List.setIfInBounds_toArray, List.set_cons_zero, List.set_cons_succ]
      refine wpAnyH_take (i := 8) (oi := { dst := some 23, op := Go.Op.nilCheck (Go.Operand.tmp 17), type := 0, pos := "receiver.go:56", after := #[{ on := 2, ground := Go.Ground.data }], guard := none }) (v := ?_) rfl (by kernel_rfl) (by kernel_rfl) (by kernel_rfl) (fun _ _ _ h => h) (Or.inl ⟨by rfl, ?_⟩) (by assumption) ?_
      rotate_left
      · intro w hSw
        try dsimp only at hSw
        go_simp
        all_goals with_reducible rfl
      try simp only [Act.put, List.setIfInBounds_toArray, List.set_cons_zero, List.set_cons_succ]
      refine wpAnyH_take (i := 9) (oi := { dst := some 24, op := Go.Op.fieldAddr 49 (Go.Operand.tmp 23) 3, type := 0, pos := "receiver.go:56", after := #[{ on := 8, ground := Go.Ground.data }], guard := none }) (v := ?_) rfl (by kernel_rfl) (by kernel_rfl) (by kernel_rfl) (fun _ _ _ h => h) (Or.inl ⟨by rfl, ?_⟩) (by assumption) ?_
      rotate_left
      · intro w hSw
        try dsimp only at hSw
        go_simp
        all_goals with_reducible rfl
      try simp only [Act.put, List.setIfInBounds_toArray, List.set_cons_zero, List.set_cons_succ]
      refine wpAnyH_ready (rs := [4]) (by kernel_rfl) (by simp) ?_
      refine AllReadyH.cons (o := { dst := some 19, op := Go.Op.call { callee := Go.Callee.value (Go.Operand.func 22), args := #[Go.Operand.tmp 18], argTypes := #[23] }, type := 3, pos := "receiver.go:56", after := #[{ on := 3, ground := Go.Ground.data }], guard := none }) rfl (fun K hK => ?_) ?_
      · go_simp
        refine (first_any hk _ HLD.out.rv).mono ?_
        rintro e w1 ⟨rfl, e1, e2, e3, e4⟩
        rw [HR.out]
        have HL2 := Lib.hid (HLD.out.asit e1 e2 e3 e4)
        have s1 := HL2.out.rv.at i hlt
        rw [HJ.out, HD.out] at s1
        clear e1 e2 e3 e4 HLD
        go_wp2_with fail
        refine hK.out _ _ ?_ (fun hH => ?_)
        · exact s1
        clear hK K
        try simp only [Act.put, List.setIfInBounds_toArray, List.set_cons_zero, List.set_cons_succ]
        refine wpAnyH_take (i := 6) (oi := { dst := some 21, op := Go.Op.binOp Go.BinOp.add 3 (Go.Operand.tmp 19) (Go.Operand.tmp 20) 3, type := 3, pos := "receiver.go:56", after := #[{ on := 4, ground := Go.Ground.data }, { on := 5, ground := Go.Ground.data }], guard := none }) (v := ?_) rfl (by kernel_rfl) (by kernel_rfl) (by kernel_rfl) (fun _ _ _ h => h) (Or.inl ⟨by rfl, ?_⟩) (by assumption) ?_
        rotate_left
        · intro w hSw
          try dsimp only at hSw
          go_simp
          all_goals with_reducible rfl
        try simp only [Act.put, List.setIfInBounds_toArray, List.set_cons_zero, List.set_cons_succ]
        refine wpAnyH_ready (rs := [7]) (by kernel_rfl) (by simp) ?_
        refine AllReadyH.cons (o := { dst := some 22, op := Go.Op.call { callee := Go.Callee.value (Go.Operand.func 21), args := #[Go.Operand.tmp 21], argTypes := #[3] }, type := 3, pos := "receiver.go:56", after := #[{ on := 6, ground := Go.Ground.data }, { on := 4, ground := Go.Ground.chain }], guard := none }) rfl (fun K hK => ?_) ?_
        · go_simp
          refine (HP _).out.mono ?_
          rintro e w2 ⟨rfl, rfl⟩
          go_wp2_with fail
          refine hK.out _ _ ?_ (fun hH => ?_)
          · exact s1
          clear hK K
          try simp only [Act.put, List.setIfInBounds_toArray, List.set_cons_zero, List.set_cons_succ]
          refine wpAnyH_take (i := 10) (oi := { dst := some 25, op := Go.Op.indexAddr 47 (Go.Operand.tmp 24) (Go.Operand.tmp 22), type := 0, pos := "receiver.go:56", after := #[{ on := 9, ground := Go.Ground.data }, { on := 7, ground := Go.Ground.data }], guard := none }) (v := ?_) rfl (by kernel_rfl) (by kernel_rfl) (by kernel_rfl) (fun _ _ _ h => h) (Or.inl ⟨by rfl, ?_⟩) (by assumption) ?_
          rotate_left
          · intro w hSw
            try dsimp only at hSw
            go_simp
            all_goals with_reducible rfl
          try simp only [Act.put, List.setIfInBounds_toArray, List.set_cons_zero, List.set_cons_succ]
          refine wpAnyH_take (i := 11) (oi := { dst := some 26, op := Go.Op.load 9 (Go.Operand.tmp 25), type := 9, pos := "receiver.go:56", after := #[{ on := 10, ground := Go.Ground.data }], guard := none }) (v := ?_) rfl (by kernel_rfl) (by kernel_rfl) (by kernel_rfl) (fun _ _ _ h => h) (Or.inl ⟨by rfl, ?_⟩) (by assumption) ?_
          rotate_left
          · intro w hSw
            try dsimp only at hSw
            go_simp
            all_goals with_reducible rfl
          try simp only [Act.put, List.setIfInBounds_toArray, List.set_cons_zero, List.set_cons_succ]
          refine wpAnyH_ready (rs := [12]) (by kernel_rfl) (by simp) ?_
          refine AllReadyH.cons (o := { dst := some 27, op := Go.Op.call { callee := Go.Callee.value (Go.Operand.func 20), args := #[Go.Operand.tmp 26], argTypes := #[9] }, type := 9, pos := "receiver.go:56", after := #[{ on := 11, ground := Go.Ground.data }, { on := 7, ground := Go.Ground.chain }], guard := none }) rfl (fun K hK => ?_) ?_
          · go_simp
            refine (clone_any D hD _).mono ?_
            rintro e w3 ⟨rfl, hb⟩
            have hl3 := HL2.out.next hb
            have s3 := hl3.rv.at i hlt
            rw [HJ.out, HD.out] at s3
            obtain ⟨u, d1, d2⟩ := hl3.cell hlt
            have HL4 := Lib.hid (hl3.store D HD.out hlt)
            have s4 := HL4.out.rv.at i hlt
            rw [HJ.out, HD.out] at s4
            clear hb hl3 HL2
            go_wp2_with fail
            refine hK.out _ _ ?_ (fun hH => ?_)
            · exact s3
            clear hK K
            try simp only [Act.put, List.setIfInBounds_toArray, List.set_cons_zero, List.set_cons_succ]
            refine wpAnyH_take (i := 13) (oi := { dst := some 28, op := Go.Op.indexAddr 35 (Go.Operand.tmp 15) (Go.Operand.tmp 16), type := 0, pos := "receiver.go:56", after := #[{ on := 0, ground := Go.Ground.data }, { on := 1, ground := Go.Ground.data }, { on := 0, ground := Go.Ground.phase }, { on := 1, ground := Go.Ground.phase }, { on := 2, ground := Go.Ground.phase }, { on := 3, ground := Go.Ground.phase }, { on := 4, ground := Go.Ground.phase }, { on := 5, ground := Go.Ground.phase }, { on := 6, ground := Go.Ground.phase }, { on := 7, ground := Go.Ground.phase }, { on := 8, ground := Go.Ground.phase }, { on := 9, ground := Go.Ground.phase }, { on := 10, ground := Go.Ground.phase }, { on := 11, ground := Go.Ground.phase }, { on := 12, ground := Go.Ground.phase }], guard := none }) (v := ?_) rfl (by kernel_rfl) (by kernel_rfl) (by kernel_rfl) (fun _ _ _ h => h) (Or.inl ⟨by rfl, ?_⟩) (by assumption) ?_
            rotate_left
            · intro w hSw
              try dsimp only at hSw
              go_simp
              all_goals with_reducible rfl
            try simp only [Act.put, List.setIfInBounds_toArray, List.set_cons_zero, List.set_cons_succ]
            refine wpAnyH_ready (rs := [14]) (by kernel_rfl) (by simp) ?_
            refine AllReadyH.cons (o := { dst := none, op := Go.Op.store 9 (Go.Operand.tmp 28) (Go.Operand.tmp 27), type := 0, pos := "receiver.go:56", after := #[{ on := 13, ground := Go.Ground.data }, { on := 12, ground := Go.Ground.data }, { on := 12, ground := Go.Ground.chain }, { on := 0, ground := Go.Ground.phase }, { on := 1, ground := Go.Ground.phase }, { on := 2, ground := Go.Ground.phase }, { on := 3, ground := Go.Ground.phase }, { on := 4, ground := Go.Ground.phase }, { on := 5, ground := Go.Ground.phase }, { on := 6, ground := Go.Ground.phase }, { on := 7, ground := Go.Ground.phase }, { on := 8, ground := Go.Ground.phase }, { on := 9, ground := Go.Ground.phase }, { on := 10, ground := Go.Ground.phase }, { on := 11, ground := Go.Ground.phase }, { on := 12, ground := Go.Ground.phase }], guard := none }) rfl (fun K hK => ?_) ?_
            · go_simp
              refine hK.out _ _ ?_ (fun hH => ?_)
              · exact s4
              clear hK K
              try simp only [Act.put, List.setIfInBounds_toArray, List.set_cons_zero, List.set_cons_succ]
              refine wpAnyH_done (by kernel_rfl) ?_ _
              go_wp2
              go_roundw
              case rel => exact ⟨i + 1, by omega, by go_num, HL4.out⟩
              case measure => simp [intOf]; omega
            exact AllReadyH.nil
          exact AllReadyH.nil
        exact AllReadyH.nil
      exact AllReadyH.nil
    · obtain rfl : i = ps.length := by omega
      have H1 := Lib.hid hlk
      clear hlk
      go_wp2
      go_ret
      exact ⟨g, rfl, H1.out.row, H1.out.bel⟩
end
end Go.Proofs.Ytlmnncablfbafaa
