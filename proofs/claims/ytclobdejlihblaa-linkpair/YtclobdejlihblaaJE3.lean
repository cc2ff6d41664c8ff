/- A receiver's Hear; beside a sender. -/
import Derived.Test.YtclobdejlihblaaJE2
import Derived.Deep.RegionHeld3
namespace Go.Proofs.Ytclobdejlihblaa.Rcv
open Go Go.RowKit
set_option maxRecDepth 20000
theorem ring_more {k : Nat} {ps L : List ByteArray} (h : Ring k ps L) (hl : ps.length < 16) (x : ByteArray) : Ring k (ps ++ [x]) (L.set ((k + ps.length + 1) % 16) x) := by
  obtain ⟨h1, h2⟩ := h
  refine ⟨by rw [List.length_set]; exact h1, fun i hi => ?_⟩
  rw [List.length_append, List.length_singleton] at hi
  simp only [List.getD_eq_getElem?_getD]
  by_cases hx : i = ps.length
  · subst hx
    rw [show k + 1 + ps.length = k + ps.length + 1 by omega, List.getElem?_set_self (by omega), List.getElem?_append_right (Nat.le_refl _)]
    simp
  · rw [List.getElem?_set_ne (by omega), List.getElem?_append_left (by omega)]
    have := h2 i (by omega)
    simp only [List.getD_eq_getElem?_getD] at this
    exact this
theorem okr_more {room : Int} {ps : List ByteArray} (h : Okr room ps) (hl : (ps.length : Int) < room) {x : ByteArray} (hx : x.size ≤ 1000) : Okr room (ps ++ [x]) :=
  ⟨h.r1, h.r2, by rw [List.length_append, List.length_singleton]; omega, fun d hd => by
    rcases List.mem_append.1 hd with hd | hd
    · exact h.sh d hd
    · rw [List.mem_singleton.1 hd]; exact hx⟩
/-- The block alone. -/
def Rc (w : World) (b : Nat) (room : Int) (ack wt : Nat) (L : List ByteArray) : Prop := w.heap[b]? = some (.cells (rcl room ack wt L) 76 (0, 0))
section
variable {w w' : World} {b : Nat} {room : Int} {ack wt : Nat} {L : List ByteArray}
theorem Rc.c1 (h : Rc w b room ack wt L) : w.cell? ⟨b, 1, none⟩ = some (.int .i64 (ack : Int)) := cell_at h 1 _ rfl
theorem Rc.c2 (h : Rc w b room ack wt L) : w.cell? ⟨b, 2, none⟩ = some (.int .i64 (wt : Int)) := cell_at h 2 _ rfl
theorem Rc.cj (h : Rc w b room ack wt L) (hL : L.length = 16) (j : Nat) (hj : j < 16) : w.cell? ⟨b, 3 + j, none⟩ = some (.string (L.getD j emp)) := cell_at h (3 + j) _ (rcl_get _ _ _ _ hL j hj)
theorem Rc.f0 (h : Rc w b room ack wt L) (i : Nat) : w.frozen? ⟨b, i, none⟩ = false := by unfold Rc at h; simp [World.frozen?, h]
theorem Rc.next (h : Rc w b room ack wt L) (hb : Below w.heap.size w w') : Rc w' b room ack wt L := (hb.block b (Array.getElem?_eq_some_iff.1 h).1).trans h
theorem Rc.set1 (h : Rc w b room ack wt L) (n : Nat) : Rc (w.setCell ⟨b, 1, none⟩ (.int .i64 (n : Int))) b room n wt L := by
  unfold Rc rcl at *; simp [World.setCell, Array.getElem?_modify, h]
theorem Rc.set2 (h : Rc w b room ack wt L) (n : Nat) : Rc (w.setCell ⟨b, 2, none⟩ (.int .i64 (n : Int))) b room ack n L := by
  unfold Rc rcl at *; simp [World.setCell, Array.getElem?_modify, h]
theorem Rc.setj (h : Rc w b room ack wt L) (j : Nat) (x : ByteArray) : Rc (w.setCell ⟨b, 3 + j, none⟩ (.string x)) b room ack wt (L.set j x) := by
  unfold Rc rcl at *
  rw [show 3 + j = j + 1 + 1 + 1 by omega]
  simp [World.setCell, Array.getElem?_modify, h, List.map_set]
end
section
variable {B : Nat} {b : Nat} {room : Int} {k : Nat} {ps L : List ByteArray}
/-- Is it taken? And what then waits. -/
def takes (room : Int) (k : Nat) (ps : List ByteArray) (seq : Int) : Prop := seq = ((k + ps.length + 1 : Nat) : Int) ∧ (ps.length : Int) < room
instance (room : Int) (k : Nat) (ps : List ByteArray) (seq : Int) : Decidable (takes room k ps seq) := by unfold takes; infer_instance
def hearD (room : Int) (k : Nat) (ps : List ByteArray) (seq : Int) (x : ByteArray) : List ByteArray := if takes room k ps seq then ps ++ [x] else ps
set_option maxHeartbeats 1000000 in
theorem hear_seq (seq : Int) (x : ByteArray) (hk : k + ps.length ≤ 1000000) (h1 : seq ≠ ((k + ps.length + 1 : Nat) : Int)) (w : World) (h : Rv B w b room k ps L) :
    Calls Try.prog 34 #[.pointer (some ⟨b, 0, none⟩), .int .i64 seq, .string x] w fun e w' => e = .returned (.bool false) ∧ w'.heap = w.heap ∧ w'.os = w.os ∧ w'.tape = w.tape ∧ w'.output = w.output := by
  have c1 := h.c1
  have hw : IntKind.i64.wrap (((k + ps.length : Nat) : Int) + 1) = ((k + ps.length + 1 : Nat) : Int) := i64_id (by omega) (by omega)
  generalize ((k + ps.length + 1 : Nat) : Int) = R at *
  generalize ((k + ps.length : Nat) : Int) = S at *
  have hd : decide (seq = R) = false := by simpa using h1
  clear h
  go_enter Try.func34, Try.ntmps34
  go_wp2_with fail
  go_quiet (fail)
  go_wp2
  go_ret
  exact ⟨rfl, rfl, rfl, rfl, rfl⟩
set_option maxHeartbeats 1000000 in
theorem hear_full (x : ByteArray) (hk : k + ps.length ≤ 1000000) (h1 : room ≤ (ps.length : Int)) (w : World) (h : Rv B w b room k ps L) :
    Calls Try.prog 34 #[.pointer (some ⟨b, 0, none⟩), .int .i64 ((k + ps.length + 1 : Nat) : Int), .string x] w fun e w' => e = .returned (.bool false) ∧ w'.heap = w.heap ∧ w'.os = w.os ∧ w'.tape = w.tape ∧ w'.output = w.output := by
  have c0 := h.c0
  have c1 := h.c1
  have c2 := h.c2
  have hw : IntKind.i64.wrap (((k + ps.length : Nat) : Int) + 1) = ((k + ps.length + 1 : Nat) : Int) := i64_id (by omega) (by omega)
  generalize ((k + ps.length + 1 : Nat) : Int) = R at *
  generalize ((k + ps.length : Nat) : Int) = S at *
  generalize (ps.length : Int) = T at *
  have hd : decide (room ≤ T) = true := by simpa using h1
  clear h
  go_enter Try.func34, Try.ntmps34
  go_wp2_with fail
  go_quiet (fail)
  go_wp2
  go_ret
  exact ⟨rfl, rfl, rfl, rfl, rfl⟩
theorem hear_fin {w w2 : World} {x : ByteArray} {j : Nat} (hx : x.size ≤ 1000) (hl : (ps.length : Int) < room) (hj : j < 16) (hjj : (k + ps.length + 1) % 16 = j) (h : Rv B w b room k ps L)
    (hb : Below ((w.setCell ⟨b, 1, none⟩ (.int .i64 ((k + ps.length + 1 : Nat) : Int))).setCell ⟨b, 2, none⟩ (.int .i64 ((ps.length + 1 : Nat) : Int))).drew.heap.size ((w.setCell ⟨b, 1, none⟩ (.int .i64 ((k + ps.length + 1 : Nat) : Int))).setCell ⟨b, 2, none⟩ (.int .i64 ((ps.length + 1 : Nat) : Int))).drew w2) :
    w2.cell? ⟨b, 3 + j, none⟩ = some (.string (L.getD j emp)) ∧ w2.frozen? ⟨b, 3 + j, none⟩ = false ∧ Hid (Rv B (w2.setCell ⟨b, 3 + j, none⟩ (.string x)) b room k (ps ++ [x]) (L.set j x) ∧ w.grownBy (w2.setCell ⟨b, 3 + j, none⟩ (.string x)) (some b)) := by
  have h0 : Rc w b room (k + ps.length) ps.length L := h.blk
  have h2 : Rc w2 b room (k + ps.length + 1) (ps.length + 1) L := Rc.next (w := ((w.setCell ⟨b, 1, none⟩ (.int .i64 ((k + ps.length + 1 : Nat) : Int))).setCell ⟨b, 2, none⟩ (.int .i64 ((ps.length + 1 : Nat) : Int))).drew) ((h0.set1 _).set2 _) hb
  refine ⟨h2.cj h.ring.1 j hj, h2.f0 _, ⟨⟨h.lo, ?_, ?_, okr_more h.ok hl hx⟩, ?_⟩⟩
  · have := h2.setj j x
    rw [List.length_append, List.length_singleton]
    exact this
  · have hr := ring_more h.ring (by have := h.ok.r2; omega) x
    rw [hjj] at hr
    exact hr
  · have g1 : w.grownBy ((w.setCell ⟨b, 1, none⟩ (.int .i64 ((k + ps.length + 1 : Nat) : Int))).setCell ⟨b, 2, none⟩ (.int .i64 ((ps.length + 1 : Nat) : Int))).drew (some b) := by
      have g := World.grownBy.trans (grown_set w b 1 (.int .i64 ((k + ps.length + 1 : Nat) : Int))) (grown_set (w.setCell ⟨b, 1, none⟩ (.int .i64 ((k + ps.length + 1 : Nat) : Int))) b 2 (.int .i64 ((ps.length + 1 : Nat) : Int)))
      exact ⟨g.os, g.tape, g.output, g.size, g.block⟩
    exact World.grownBy.trans (World.grownBy.trans g1 (grownOf (some b) hb)) (grown_set w2 b (3 + j) (.string x))
set_option maxHeartbeats 4000000 in
theorem hear_yes (x : ByteArray) (hx : x.size ≤ 1000) (hk : k + ps.length ≤ 1000000) (h1 : (ps.length : Int) < room) (w : World) (h : Rv B w b room k ps L) :
    Calls Try.prog 34 #[.pointer (some ⟨b, 0, none⟩), .int .i64 ((k + ps.length + 1 : Nat) : Int), .string x] w fun e w' => e = .returned (.bool true) ∧ Rv B w' b room k (ps ++ [x]) (L.set ((k + ps.length + 1) % 16) x) ∧ w.grownBy w' (some b) := by
  have c0 := h.c0
  have c1 := h.c1
  have c2 := h.c2
  have f1 := h.f0 1
  have hw : IntKind.i64.wrap (((k + ps.length : Nat) : Int) + 1) = ((k + ps.length + 1 : Nat) : Int) := i64_id (by omega) (by omega)
  have hw2 : IntKind.i64.wrap ((ps.length : Int) + 1) = ((ps.length + 1 : Nat) : Int) := by have := h.ok.le; exact i64_id (by omega) (by omega)
  have h0 : Rc w b room (k + ps.length) ps.length L := h.blk
  have HP := fun w => Lib.hid (place_any (k + ps.length + 1) (by omega) w)
  have HL := Lib.hid h1
  have H := Lib.hid h
  have hj : (k + ps.length + 1) % 16 < 16 := Nat.mod_lt _ (by decide)
  generalize hJ : (k + ps.length + 1) % 16 = j at *
  have HJ := Lib.hid hJ
  have hj2 : (j : Int) < 16 := by omega
  have hd : decide (room ≤ (ps.length : Int)) = false := by simpa using h1
  have H0 := Lib.hid h0
  clear h h1 h0 hJ
  generalize hR : ((k + ps.length + 1 : Nat) : Int) = R at *
  generalize hT : ((ps.length + 1 : Nat) : Int) = T1 at *
  generalize ((k + ps.length : Nat) : Int) = S at *
  have HR := Lib.hid hR
  have HT := Lib.hid hT
  clear hR hT
  go_enter Try.func34, Try.ntmps34
  go_wp2_with fail
  go_quiet (fail)
  have h0 : Rc (w.drewN nq) b room (k + ps.length) ps.length L := H0.out
  have c2' := h0.c2
  have e2 := (h0.set1 (k + ps.length + 1)).c2
  have g1 := h0.f0 1
  have g2 := (h0.set1 (k + ps.length + 1)).f0 2
  rw [HR.out] at e2 g2
  clear h0
  go_wp2_with fail
  refine wp_region_held_drew (S := fun _ => True) (by kernel_rfl) ?_ (fun hH => ?_)
  · exact trivial
  refine wpAnyH_take (i := 0) (oi := { dst := some 36, op := Go.Op.move (Go.Operand.tmp 0), type := 47, pos := "receiver.go:30", after := #[], guard := none }) (v := ?_) rfl (by kernel_rfl) (by kernel_rfl) (by kernel_rfl) (fun _ _ _ h => h) (Or.inl ⟨by rfl, ?_⟩) (by assumption) ?_
  rotate_left
  · intro w hSw
    try dsimp only at hSw
    go_simp
    all_goals with_reducible rfl
  try simp only [Act.put, List.setIfInBounds_toArray, List.set_cons_zero, List.set_cons_succ]
  refine wpAnyH_take (i := 1) (oi := { dst := some 37, op := Go.Op.move (Go.Operand.tmp 1), type := 3, pos := "receiver.go:30", after := #[], guard := none }) (v := ?_) rfl (by kernel_rfl) (by kernel_rfl) (by kernel_rfl) (fun _ _ _ h => h) (Or.inl ⟨by rfl, ?_⟩) (by assumption) ?_
  rotate_left
  · intro w hSw
    try dsimp only at hSw
    go_simp
    all_goals with_reducible rfl
  try simp only [Act.put, List.setIfInBounds_toArray, List.set_cons_zero, List.set_cons_succ]
  refine wpAnyH_take (i := 3) (oi := { dst := some 39, op := Go.Op.move (Go.Operand.tmp 2), type := 9, pos := "receiver.go:30", after := #[], guard := none }) (v := ?_) rfl (by kernel_rfl) (by kernel_rfl) (by kernel_rfl) (fun _ _ _ h => h) (Or.inl ⟨by rfl, ?_⟩) (by assumption) ?_
  rotate_left
  · intro w hSw
    try dsimp only at hSw
    go_simp
    all_goals with_reducible rfl
  try simp only [Act.put, List.setIfInBounds_toArray, List.set_cons_zero, List.set_cons_succ]
  refine wpAnyH_take (i := 5) (oi := { dst := some 41, op := Go.Op.nilCheck (Go.Operand.tmp 36), type := 0, pos := "receiver.go:30", after := #[{ on := 0, ground := Go.Ground.data }], guard := none }) (v := ?_) rfl (by kernel_rfl) (by kernel_rfl) (by kernel_rfl) (fun _ _ _ h => h) (Or.inl ⟨by rfl, ?_⟩) (by assumption) ?_
  rotate_left
  · intro w hSw
    try dsimp only at hSw
    go_simp
    all_goals with_reducible rfl
  try simp only [Act.put, List.setIfInBounds_toArray, List.set_cons_zero, List.set_cons_succ]
  refine wpAnyH_take (i := 6) (oi := { dst := some 42, op := Go.Op.fieldAddr 76 (Go.Operand.tmp 41) 3, type := 0, pos := "receiver.go:30", after := #[{ on := 5, ground := Go.Ground.data }], guard := none }) (v := ?_) rfl (by kernel_rfl) (by kernel_rfl) (by kernel_rfl) (fun _ _ _ h => h) (Or.inl ⟨by rfl, ?_⟩) (by assumption) ?_
  rotate_left
  · intro w hSw
    try dsimp only at hSw
    go_simp
    all_goals with_reducible rfl
  try simp only [Act.put, List.setIfInBounds_toArray, List.set_cons_zero, List.set_cons_succ]
  refine wpAnyH_ready (rs := [2]) (by kernel_rfl) (by simp) ?_
  refine AllReadyH.cons (o := { dst := some 38, op := Go.Op.call { callee := Go.Callee.value (Go.Operand.func 37), args := #[Go.Operand.tmp 37], argTypes := #[3] }, type := 3, pos := "receiver.go:30", after := #[{ on := 1, ground := Go.Ground.data }], guard := none }) rfl (fun K hK => ?_) ?_
  · go_simp
    refine (HP _).out.mono ?_
    rintro e w1 ⟨rfl, rfl⟩
    go_wp2_with fail
    refine hK.out _ _ ?_ (fun hH => ?_)
    · exact trivial
    clear hK K
    try simp only [Act.put, List.setIfInBounds_toArray, List.set_cons_zero, List.set_cons_succ]
    refine wpAnyH_ready (rs := [4]) (by kernel_rfl) (by simp) ?_
    refine AllReadyH.cons (o := { dst := some 40, op := Go.Op.call { callee := Go.Callee.value (Go.Operand.func 45), args := #[Go.Operand.tmp 39], argTypes := #[9] }, type := 9, pos := "receiver.go:30", after := #[{ on := 3, ground := Go.Ground.data }, { on := 2, ground := Go.Ground.chain }], guard := none }) rfl (fun K hK => ?_) ?_
    · go_simp
      refine (clone_any x (by omega) _).mono ?_
      rintro e w2 ⟨rfl, hb⟩
      rw [← HR.out, ← HT.out] at hb
      obtain ⟨d1, d2, HF⟩ := hear_fin hx HL.out hj HJ.out (H.out.asit (w' := w.drewN nq) rfl) hb
      clear hb
      go_wp2_with fail
      refine hK.out _ _ ?_ (fun hH => ?_)
      · exact trivial
      clear hK K
      try simp only [Act.put, List.setIfInBounds_toArray, List.set_cons_zero, List.set_cons_succ]
      refine wpAnyH_take (i := 7) (oi := { dst := some 43, op := Go.Op.indexAddr 74 (Go.Operand.tmp 42) (Go.Operand.tmp 38), type := 0, pos := "receiver.go:30", after := #[{ on := 6, ground := Go.Ground.data }, { on := 2, ground := Go.Ground.data }, { on := 0, ground := Go.Ground.phase }, { on := 1, ground := Go.Ground.phase }, { on := 2, ground := Go.Ground.phase }, { on := 3, ground := Go.Ground.phase }, { on := 4, ground := Go.Ground.phase }], guard := none }) (v := ?_) rfl (by kernel_rfl) (by kernel_rfl) (by kernel_rfl) (fun _ _ _ h => h) (Or.inl ⟨by rfl, ?_⟩) (by assumption) ?_
      rotate_left
      · intro w hSw
        try dsimp only at hSw
        go_simp
        all_goals with_reducible rfl
      try simp only [Act.put, List.setIfInBounds_toArray, List.set_cons_zero, List.set_cons_succ]
      refine wpAnyH_ready (rs := [8]) (by kernel_rfl) (by simp) ?_
      refine AllReadyH.cons (o := { dst := none, op := Go.Op.store 9 (Go.Operand.tmp 43) (Go.Operand.tmp 40), type := 0, pos := "receiver.go:30", after := #[{ on := 7, ground := Go.Ground.data }, { on := 4, ground := Go.Ground.data }, { on := 4, ground := Go.Ground.chain }, { on := 0, ground := Go.Ground.phase }, { on := 1, ground := Go.Ground.phase }, { on := 2, ground := Go.Ground.phase }, { on := 3, ground := Go.Ground.phase }, { on := 4, ground := Go.Ground.phase }], guard := none }) rfl (fun K hK => ?_) ?_
      · go_simp
        refine hK.out _ _ ?_ (fun hH => ?_)
        · exact trivial
        clear hK K
        try simp only [Act.put, List.setIfInBounds_toArray, List.set_cons_zero, List.set_cons_succ]
        refine wpAnyH_done (by kernel_rfl) ?_ _
        go_wp2
        go_ret
        exact ⟨rfl, HF.out.1, ⟨HF.out.2.os, HF.out.2.tape, HF.out.2.output, HF.out.2.size, HF.out.2.block⟩⟩
      exact AllReadyH.nil
    exact AllReadyH.nil
  exact AllReadyH.nil
theorem hear_any (seq : Int) (x : ByteArray) (hx : x.size ≤ 1000) (hk : k + ps.length ≤ 1000000) (w : World) (h : Rv B w b room k ps L) :
    Calls Try.prog 34 #[.pointer (some ⟨b, 0, none⟩), .int .i64 seq, .string x] w fun e w' => e = .returned (.bool (decide (takes room k ps seq))) ∧ (∃ L', Rv B w' b room k (hearD room k ps seq x) L') ∧ w.grownBy w' (some b) := by
  unfold hearD
  by_cases h1 : seq = ((k + ps.length + 1 : Nat) : Int)
  · by_cases h2 : (ps.length : Int) < room
    · have ht : takes room k ps seq := ⟨h1, h2⟩
      rw [if_pos ht, decide_eq_true ht]
      subst h1
      refine (hear_yes x hx hk h2 w h).mono ?_
      rintro e w1 ⟨rfl, hr, hg⟩
      exact ⟨rfl, ⟨_, hr⟩, hg⟩
    · have ht : ¬ takes room k ps seq := fun hh => h2 hh.2
      rw [if_neg ht, decide_eq_false ht]
      subst h1
      refine (hear_full x hk (by omega) w h).mono ?_
      rintro e w1 ⟨rfl, e1, e2, e3, e4⟩
      exact ⟨rfl, ⟨_, h.asit e1⟩, grown_asit e1 e2 e3 e4⟩
  · have ht : ¬ takes room k ps seq := fun hh => h1 hh.1
    rw [if_neg ht, decide_eq_false ht]
    refine (hear_seq seq x hk h1 w h).mono ?_
    rintro e w1 ⟨rfl, e1, e2, e3, e4⟩
    exact ⟨rfl, ⟨_, h.asit e1⟩, grown_asit e1 e2 e3 e4⟩
end
end Go.Proofs.Ytclobdejlihblaa.Rcv
