import Derived.Test.YtjmkdgjdemndaaaDoorL3
import Derived.Deep.QuietTactic
import Derived.BigQuiet
import Derived.Deep.RegionHeld3
/- A receiver, as it lies there; New, Ack, Waiting, place, first; beside a sender. -/
namespace Go.Proofs.YtjmkdgjdemndaaaDoor.K.Rcv
open Go Go.RowKit
set_option maxRecDepth 20000
/-- What may stand. -/
structure Okr (room : Int) (ps : List ByteArray) : Prop where
  r1 : 1 ≤ room
  r2 : room ≤ 16
  len : (ps.length : Int) ≤ room
  sh : ∀ d ∈ ps, d.size ≤ 1000
theorem Okr.le {room : Int} {ps : List ByteArray} (h : Okr room ps) : ps.length ≤ 16 := by have := h.len; have := h.r2; omega
/-- The cells of a receiver. -/
def rcl (room : Int) (ack wt : Nat) (L : List ByteArray) : Array Value := (Value.int .i64 room :: Value.int .i64 (ack : Int) :: Value.int .i64 (wt : Int) :: L.map Value.string).toArray
/-- Those that wait lie in the ring, each at its number's place. -/
def Ring (k : Nat) (ps L : List ByteArray) : Prop := L.length = 16 ∧ ∀ i, i < ps.length → L.getD ((k + 1 + i) % 16) emp = ps.getD i emp
/-- In block b lies a receiver: k were popped, ps wait, in the ring L. -/
structure Rv (B : Nat) (w : World) (b : Nat) (room : Int) (k : Nat) (ps L : List ByteArray) : Prop where
  lo : B ≤ b
  blk : w.heap[b]? = some (.cells (rcl room (k + ps.length) ps.length L) 128 (0, 0))
  ring : Ring k ps L
  ok : Okr room ps
section
variable {B : Nat} {w w' : World} {b : Nat} {room : Int} {k : Nat} {ps L : List ByteArray}
theorem Rv.c0 (h : Rv B w b room k ps L) : w.cell? ⟨b, 0, none⟩ = some (.int .i64 room) := cell_at h.blk 0 _ rfl
theorem Rv.c1 (h : Rv B w b room k ps L) : w.cell? ⟨b, 1, none⟩ = some (.int .i64 ((k + ps.length : Nat) : Int)) := cell_at h.blk 1 _ rfl
theorem Rv.c2 (h : Rv B w b room k ps L) : w.cell? ⟨b, 2, none⟩ = some (.int .i64 (ps.length : Int)) := cell_at h.blk 2 _ rfl
theorem rcl_get (room : Int) (ack wt : Nat) (L : List ByteArray) (hL : L.length = 16) (j : Nat) (hj : j < 16) : (rcl room ack wt L)[3 + j]? = some (.string (L.getD j emp)) := by
  unfold rcl
  rw [List.getElem?_toArray, show 3 + j = j + 1 + 1 + 1 by omega]
  simp only [List.getElem?_cons_succ, List.getElem?_map]
  rw [List.getElem?_eq_getElem (by omega)]
  simp [List.getD_eq_getElem?_getD, hL, hj]
theorem Rv.cj (h : Rv B w b room k ps L) (j : Nat) (hj : j < 16) : w.cell? ⟨b, 3 + j, none⟩ = some (.string (L.getD j emp)) := cell_at h.blk (3 + j) _ (rcl_get _ _ _ _ h.ring.1 j hj)
theorem Rv.f0 (h : Rv B w b room k ps L) (i : Nat) : w.frozen? ⟨b, i, none⟩ = false := by have := h.blk; simp [World.frozen?, this]
theorem Rv.lt (h : Rv B w b room k ps L) : b < w.heap.size := (Array.getElem?_eq_some_iff.1 h.blk).1
theorem Rv.same (h : Rv B w b room k ps L) (hb : w'.heap[b]? = w.heap[b]?) : Rv B w' b room k ps L := ⟨h.lo, hb.trans h.blk, h.ring, h.ok⟩
theorem Rv.next (h : Rv B w b room k ps L) (hb : Below w.heap.size w w') : Rv B w' b room k ps L := h.same (hb.block b h.lt)
theorem Rv.asit (h : Rv B w b room k ps L) (e : w'.heap = w.heap) : Rv B w' b room k ps L := h.same (by rw [e])
theorem Rv.lower {B' : Nat} (h : Rv B w b room k ps L) (hB : B' ≤ B) : Rv B' w b room k ps L := ⟨Nat.le_trans hB h.lo, h.blk, h.ring, h.ok⟩
theorem Rv.kept {row : Option Nat} (h : Rv B w b room k ps L) (hg : w.grownBy w' row) (hne : some b ≠ row) : Rv B w' b room k ps L := h.same (hg.block b h.lt hne)
theorem Rv.at (h : Rv B w b room k ps L) (i : Nat) (hi : i < ps.length) : w.cell? ⟨b, 3 + (k + 1 + i) % 16, none⟩ = some (.string (ps.getD i emp)) := by
  rw [h.cj _ (Nat.mod_lt _ (by decide)), h.ring.2 i hi]
end
def roomOf (a : Int) : Int := min (max a 1) 16
theorem okr_new (a : Int) : Okr (roomOf a) [] := by
  unfold roomOf
  exact ⟨by omega, by omega, by simp only [List.length_nil]; omega, fun d hd => by cases hd⟩
set_option maxHeartbeats 400000 in
theorem new_any (a : Int) (w : World) : Calls Tryd.prog 55 #[.int .i64 a] w fun x w' => x = .returned (.pointer (some ⟨w.heap.size, 0, none⟩)) ∧ Rv w.heap.size w' w.heap.size (roomOf a) 0 [] (List.replicate 16 emp) ∧ Below w.heap.size w w' := by
  have HO := Lib.hid (okr_new a)
  unfold roomOf at *
  go_enter Tryd.func55, Tryd.ntmps55
  go_wp2
  go_ret
  exact ⟨rfl, ⟨Nat.le_refl _, heap_alloc_new _ _, ⟨rfl, fun i hi => absurd hi (by simp)⟩, HO.out⟩, Joins.below_alloc1 _ _⟩
section
variable {B : Nat} {b : Nat} {room : Int} {k : Nat} {ps L : List ByteArray}
theorem ack_any (w : World) (h : Rv B w b room k ps L) : Calls Tryd.prog 46 #[.pointer (some ⟨b, 0, none⟩)] w fun x w' => x = .returned (.int .i64 ((k + ps.length : Nat) : Int)) ∧ w' = w := by
  have c1 := h.c1
  generalize ((k + ps.length : Nat) : Int) = S at *
  clear h
  go_enter Tryd.func46, Tryd.ntmps46
  go_wp2
  go_ret
  exact ⟨rfl, rfl⟩
theorem place_any (n : Nat) (hn : n ≤ 2000000) (w : World) : Calls Tryd.prog 66 #[.int .i64 (n : Int)] w fun x w' => x = .returned (.int .i64 ((n % 16 : Nat) : Int)) ∧ w' = w := by
  have e : IntKind.i64.wrap ((n : Int).tmod 16) = ((n % 16 : Nat) : Int) := by
    rw [Int.tmod_eq_emod_of_nonneg (by omega), show (n : Int) % 16 = ((n % 16 : Nat) : Int) by omega]
    exact i64_id (by omega) (by omega)
  go_enter Tryd.func66, Tryd.ntmps66
  go_wp2
  go_ret
  exact ⟨rfl, rfl⟩
end
end Go.Proofs.YtjmkdgjdemndaaaDoor.K.Rcv
/- A receiver's Hear; beside a sender. -/
namespace Go.Proofs.YtjmkdgjdemndaaaDoor.K.Rcv
open Go Go.RowKit
set_option maxRecDepth 20000
theorem ring_more {k : Nat} {ps L : List ByteArray} (h : Ring k ps L) (hl : ps.length < 16) (x : ByteArray) : Ring k (ps ++ [x]) (L.set ((k + ps.length + 1) % 16) x) := by
  obtain ⟨h1, h2⟩ := h
  refine ⟨by rw [List.length_set]; exact h1, fun i hi => ?_⟩
  rw [List.length_append, List.length_singleton] at hi
  simp only [List.getD_eq_getElem?_getD]
  by_cases hx : i = ps.length
  · subst hx
    rw [show k + 1 + ps.length = k + ps.length + 1 by omega, List.getElem?_set_self (by omega), List.getElem?_append_right (Nat.le_refl _)]
    simp
  · rw [List.getElem?_set_ne (by omega), List.getElem?_append_left (by omega)]
    have := h2 i (by omega)
    simp only [List.getD_eq_getElem?_getD] at this
    exact this
theorem okr_more {room : Int} {ps : List ByteArray} (h : Okr room ps) (hl : (ps.length : Int) < room) {x : ByteArray} (hx : x.size ≤ 1000) : Okr room (ps ++ [x]) :=
  ⟨h.r1, h.r2, by rw [List.length_append, List.length_singleton]; omega, fun d hd => by
    rcases List.mem_append.1 hd with hd | hd
    · exact h.sh d hd
    · rw [List.mem_singleton.1 hd]; exact hx⟩
/-- The block alone. -/
def Rc (w : World) (b : Nat) (room : Int) (ack wt : Nat) (L : List ByteArray) : Prop := w.heap[b]? = some (.cells (rcl room ack wt L) 128 (0, 0))
section
variable {w w' : World} {b : Nat} {room : Int} {ack wt : Nat} {L : List ByteArray}
theorem Rc.c1 (h : Rc w b room ack wt L) : w.cell? ⟨b, 1, none⟩ = some (.int .i64 (ack : Int)) := cell_at h 1 _ rfl
theorem Rc.c2 (h : Rc w b room ack wt L) : w.cell? ⟨b, 2, none⟩ = some (.int .i64 (wt : Int)) := cell_at h 2 _ rfl
theorem Rc.cj (h : Rc w b room ack wt L) (hL : L.length = 16) (j : Nat) (hj : j < 16) : w.cell? ⟨b, 3 + j, none⟩ = some (.string (L.getD j emp)) := cell_at h (3 + j) _ (rcl_get _ _ _ _ hL j hj)
theorem Rc.f0 (h : Rc w b room ack wt L) (i : Nat) : w.frozen? ⟨b, i, none⟩ = false := by unfold Rc at h; simp [World.frozen?, h]
theorem Rc.next (h : Rc w b room ack wt L) (hb : Below w.heap.size w w') : Rc w' b room ack wt L := (hb.block b (Array.getElem?_eq_some_iff.1 h).1).trans h
theorem Rc.set1 (h : Rc w b room ack wt L) (n : Nat) : Rc (w.setCell ⟨b, 1, none⟩ (.int .i64 (n : Int))) b room n wt L := by
  unfold Rc rcl at *; simp [World.setCell, Array.getElem?_modify, h]
theorem Rc.set2 (h : Rc w b room ack wt L) (n : Nat) : Rc (w.setCell ⟨b, 2, none⟩ (.int .i64 (n : Int))) b room ack n L := by
  unfold Rc rcl at *; simp [World.setCell, Array.getElem?_modify, h]
theorem Rc.setj (h : Rc w b room ack wt L) (j : Nat) (x : ByteArray) : Rc (w.setCell ⟨b, 3 + j, none⟩ (.string x)) b room ack wt (L.set j x) := by
  unfold Rc rcl at *
  rw [show 3 + j = j + 1 + 1 + 1 by omega]
  simp [World.setCell, Array.getElem?_modify, h, List.map_set]
end
section
variable {B : Nat} {b : Nat} {room : Int} {k : Nat} {ps L : List ByteArray}
/-- Is it taken? And what then waits. -/
def takes (room : Int) (k : Nat) (ps : List ByteArray) (seq : Int) : Prop := seq = ((k + ps.length + 1 : Nat) : Int) ∧ (ps.length : Int) < room
instance (room : Int) (k : Nat) (ps : List ByteArray) (seq : Int) : Decidable (takes room k ps seq) := by unfold takes; infer_instance
def hearD (room : Int) (k : Nat) (ps : List ByteArray) (seq : Int) (x : ByteArray) : List ByteArray := if takes room k ps seq then ps ++ [x] else ps
set_option maxHeartbeats 1000000 in
theorem hear_seq (seq : Int) (x : ByteArray) (hk : k + ps.length ≤ 1000000) (h1 : seq ≠ ((k + ps.length + 1 : Nat) : Int)) (w : World) (h : Rv B w b room k ps L) :
    Calls Tryd.prog 39 #[.pointer (some ⟨b, 0, none⟩), .int .i64 seq, .string x] w fun e w' => e = .returned (.bool false) ∧ w'.heap = w.heap ∧ w'.os = w.os ∧ w'.tape = w.tape ∧ w'.output = w.output := by
  have c1 := h.c1
  have hw : IntKind.i64.wrap (((k + ps.length : Nat) : Int) + 1) = ((k + ps.length + 1 : Nat) : Int) := i64_id (by omega) (by omega)
  generalize ((k + ps.length + 1 : Nat) : Int) = R at *
  generalize ((k + ps.length : Nat) : Int) = S at *
  have hd : decide (seq = R) = false := by simpa using h1
  clear h
  go_enter Tryd.func39, Tryd.ntmps39
  go_wp2_with fail
  go_quiet (fail)
  go_wp2
  go_ret
  exact ⟨rfl, rfl, rfl, rfl, rfl⟩
set_option maxHeartbeats 1000000 in
theorem hear_full (x : ByteArray) (hk : k + ps.length ≤ 1000000) (h1 : room ≤ (ps.length : Int)) (w : World) (h : Rv B w b room k ps L) :
    Calls Tryd.prog 39 #[.pointer (some ⟨b, 0, none⟩), .int .i64 ((k + ps.length + 1 : Nat) : Int), .string x] w fun e w' => e = .returned (.bool false) ∧ w'.heap = w.heap ∧ w'.os = w.os ∧ w'.tape = w.tape ∧ w'.output = w.output := by
  have c0 := h.c0
  have c1 := h.c1
  have c2 := h.c2
  have hw : IntKind.i64.wrap (((k + ps.length : Nat) : Int) + 1) = ((k + ps.length + 1 : Nat) : Int) := i64_id (by omega) (by omega)
  generalize ((k + ps.length + 1 : Nat) : Int) = R at *
  generalize ((k + ps.length : Nat) : Int) = S at *
  generalize (ps.length : Int) = T at *
  have hd : decide (room ≤ T) = true := by simpa using h1
  clear h
  go_enter Tryd.func39, Tryd.ntmps39
  go_wp2_with fail
  go_quiet (fail)
  go_wp2
  go_ret
  exact ⟨rfl, rfl, rfl, rfl, rfl⟩
theorem hear_fin {w w2 : World} {x : ByteArray} {j : Nat} (hx : x.size ≤ 1000) (hl : (ps.length : Int) < room) (hj : j < 16) (hjj : (k + ps.length + 1) % 16 = j) (h : Rv B w b room k ps L)
    (hb : Below ((w.setCell ⟨b, 1, none⟩ (.int .i64 ((k + ps.length + 1 : Nat) : Int))).setCell ⟨b, 2, none⟩ (.int .i64 ((ps.length + 1 : Nat) : Int))).drew.heap.size ((w.setCell ⟨b, 1, none⟩ (.int .i64 ((k + ps.length + 1 : Nat) : Int))).setCell ⟨b, 2, none⟩ (.int .i64 ((ps.length + 1 : Nat) : Int))).drew w2) :
    w2.cell? ⟨b, 3 + j, none⟩ = some (.string (L.getD j emp)) ∧ w2.frozen? ⟨b, 3 + j, none⟩ = false ∧ Hid (Rv B (w2.setCell ⟨b, 3 + j, none⟩ (.string x)) b room k (ps ++ [x]) (L.set j x) ∧ w.grownBy (w2.setCell ⟨b, 3 + j, none⟩ (.string x)) (some b)) := by
  have h0 : Rc w b room (k + ps.length) ps.length L := h.blk
  have h2 : Rc w2 b room (k + ps.length + 1) (ps.length + 1) L := Rc.next (w := ((w.setCell ⟨b, 1, none⟩ (.int .i64 ((k + ps.length + 1 : Nat) : Int))).setCell ⟨b, 2, none⟩ (.int .i64 ((ps.length + 1 : Nat) : Int))).drew) ((h0.set1 _).set2 _) hb
  refine ⟨h2.cj h.ring.1 j hj, h2.f0 _, ⟨⟨h.lo, ?_, ?_, okr_more h.ok hl hx⟩, ?_⟩⟩
  · have := h2.setj j x
    rw [List.length_append, List.length_singleton]
    exact this
  · have hr := ring_more h.ring (by have := h.ok.r2; omega) x
    rw [hjj] at hr
    exact hr
  · have g1 : w.grownBy ((w.setCell ⟨b, 1, none⟩ (.int .i64 ((k + ps.length + 1 : Nat) : Int))).setCell ⟨b, 2, none⟩ (.int .i64 ((ps.length + 1 : Nat) : Int))).drew (some b) := by
      have g := World.grownBy.trans (grown_set w b 1 (.int .i64 ((k + ps.length + 1 : Nat) : Int))) (grown_set (w.setCell ⟨b, 1, none⟩ (.int .i64 ((k + ps.length + 1 : Nat) : Int))) b 2 (.int .i64 ((ps.length + 1 : Nat) : Int)))
      exact ⟨g.os, g.tape, g.output, g.size, g.block⟩
    exact World.grownBy.trans (World.grownBy.trans g1 (grownOf (some b) hb)) (grown_set w2 b (3 + j) (.string x))
set_option maxHeartbeats 4000000 in
theorem hear_yes (x : ByteArray) (hx : x.size ≤ 1000) (hk : k + ps.length ≤ 1000000) (h1 : (ps.length : Int) < room) (w : World) (h : Rv B w b room k ps L) :
    Calls Tryd.prog 39 #[.pointer (some ⟨b, 0, none⟩), .int .i64 ((k + ps.length + 1 : Nat) : Int), .string x] w fun e w' => e = .returned (.bool true) ∧ Rv B w' b room k (ps ++ [x]) (L.set ((k + ps.length + 1) % 16) x) ∧ w.grownBy w' (some b) := by
  have c0 := h.c0
  have c1 := h.c1
  have c2 := h.c2
  have f1 := h.f0 1
  have hw : IntKind.i64.wrap (((k + ps.length : Nat) : Int) + 1) = ((k + ps.length + 1 : Nat) : Int) := i64_id (by omega) (by omega)
  have hw2 : IntKind.i64.wrap ((ps.length : Int) + 1) = ((ps.length + 1 : Nat) : Int) := by have := h.ok.le; exact i64_id (by omega) (by omega)
  have h0 : Rc w b room (k + ps.length) ps.length L := h.blk
  have HP := fun w => Lib.hid (place_any (k + ps.length + 1) (by omega) w)
  have HL := Lib.hid h1
  have H := Lib.hid h
  have hj : (k + ps.length + 1) % 16 < 16 := Nat.mod_lt _ (by decide)
  generalize hJ : (k + ps.length + 1) % 16 = j at *
  have HJ := Lib.hid hJ
  have hj2 : (j : Int) < 16 := by omega
  have hd : decide (room ≤ (ps.length : Int)) = false := by simpa using h1
  have H0 := Lib.hid h0
  clear h h1 h0 hJ
  generalize hR : ((k + ps.length + 1 : Nat) : Int) = R at *
  generalize hT : ((ps.length + 1 : Nat) : Int) = T1 at *
  generalize ((k + ps.length : Nat) : Int) = S at *
  have HR := Lib.hid hR
  have HT := Lib.hid hT
  clear hR hT
  go_enter Tryd.func39, Tryd.ntmps39
  go_wp2_with fail
  go_quiet (fail)
  have h0 : Rc (w.drewN nq) b room (k + ps.length) ps.length L := H0.out
  have c2' := h0.c2
  have e2 := (h0.set1 (k + ps.length + 1)).c2
  have g1 := h0.f0 1
  have g2 := (h0.set1 (k + ps.length + 1)).f0 2
  rw [HR.out] at e2 g2
  clear h0
  go_wp2_with fail
  refine wp_region_held_drew (S := fun _ => True) (by kernel_rfl) ?_ (fun hH => ?_)
  · exact trivial
  refine wpAnyH_take (i := 0) (oi := { dst := some 36, op := Go.Op.move (Go.Operand.tmp 0), type := 71, pos := "receiver.go:30", after := #[], guard := none }) (v := ?_) rfl (by kernel_rfl) (by kernel_rfl) (by kernel_rfl) (fun _ _ _ h => h) (Or.inl ⟨by rfl, ?_⟩) (by assumption) ?_
  rotate_left
  · intro w hSw
    try dsimp only at hSw
    go_simp
    all_goals with_reducible rfl
  try simp only [Act.put, List.setIfInBounds_toArray, List.set_cons_zero, List.set_cons_succ]
  refine wpAnyH_take (i := 1) (oi := { dst := some 37, op := Go.Op.move (Go.Operand.tmp 1), type := 3, pos := "receiver.go:30", after := #[], guard := none }) (v := ?_) rfl (by kernel_rfl) (by kernel_rfl) (by kernel_rfl) (fun _ _ _ h => h) (Or.inl ⟨by rfl, ?_⟩) (by assumption) ?_
  rotate_left
  · intro w hSw
    try dsimp only at hSw
    go_simp
    all_goals with_reducible rfl
  try simp only [Act.put, List.setIfInBounds_toArray, List.set_cons_zero, List.set_cons_succ]
  refine wpAnyH_take (i := 3) (oi := { dst := some 39, op := Go.Op.move (Go.Operand.tmp 2), type := 9, pos := "receiver.go:30", after := #[], guard := none }) (v := ?_) rfl (by kernel_rfl) (by kernel_rfl) (by kernel_rfl) (fun _ _ _ h => h) (Or.inl ⟨by rfl, ?_⟩) (by assumption) ?_
  rotate_left
  · intro w hSw
    try dsimp only at hSw
    go_simp
    all_goals with_reducible rfl
  try simp only [Act.put, List.setIfInBounds_toArray, List.set_cons_zero, List.set_cons_succ]
  refine wpAnyH_take (i := 5) (oi := { dst := some 41, op := Go.Op.nilCheck (Go.Operand.tmp 36), type := 0, pos := "receiver.go:30", after := #[{ on := 0, ground := Go.Ground.data }], guard := none }) (v := ?_) rfl (by kernel_rfl) (by kernel_rfl) (by kernel_rfl) (fun _ _ _ h => h) (Or.inl ⟨by rfl, ?_⟩) (by assumption) ?_
  rotate_left
  · intro w hSw
    try dsimp only at hSw
    go_simp
    all_goals with_reducible rfl
  try simp only [Act.put, List.setIfInBounds_toArray, List.set_cons_zero, List.set_cons_succ]
  refine wpAnyH_take (i := 6) (oi := { dst := some 42, op := Go.Op.fieldAddr 128 (Go.Operand.tmp 41) 3, type := 0, pos := "receiver.go:30", after := #[{ on := 5, ground := Go.Ground.data }], guard := none }) (v := ?_) rfl (by kernel_rfl) (by kernel_rfl) (by kernel_rfl) (fun _ _ _ h => h) (Or.inl ⟨by rfl, ?_⟩) (by assumption) ?_
  rotate_left
  · intro w hSw
    try dsimp only at hSw
    go_simp
    all_goals with_reducible rfl
  try simp only [Act.put, List.setIfInBounds_toArray, List.set_cons_zero, List.set_cons_succ]
  refine wpAnyH_ready (rs := [2]) (by kernel_rfl) (by simp) ?_
  refine AllReadyH.cons (o := { dst := some 38, op := Go.Op.call { callee := Go.Callee.value (Go.Operand.func 66), args := #[Go.Operand.tmp 37], argTypes := #[3] }, type := 3, pos := "receiver.go:30", after := #[{ on := 1, ground := Go.Ground.data }], guard := none }) rfl (fun K hK => ?_) ?_
  · go_simp
    refine (HP _).out.mono ?_
    rintro e w1 ⟨rfl, rfl⟩
    go_wp2_with fail
    refine hK.out _ _ ?_ (fun hH => ?_)
    · exact trivial
    clear hK K
    try simp only [Act.put, List.setIfInBounds_toArray, List.set_cons_zero, List.set_cons_succ]
    refine wpAnyH_ready (rs := [4]) (by kernel_rfl) (by simp) ?_
    refine AllReadyH.cons (o := { dst := some 40, op := Go.Op.call { callee := Go.Callee.value (Go.Operand.func 65), args := #[Go.Operand.tmp 39], argTypes := #[9] }, type := 9, pos := "receiver.go:30", after := #[{ on := 3, ground := Go.Ground.data }, { on := 2, ground := Go.Ground.chain }], guard := none }) rfl (fun K hK => ?_) ?_
    · go_simp
      refine (clone_any x (by omega) _).mono ?_
      rintro e w2 ⟨rfl, hb⟩
      rw [← HR.out, ← HT.out] at hb
      obtain ⟨d1, d2, HF⟩ := hear_fin hx HL.out hj HJ.out (H.out.asit (w' := w.drewN nq) rfl) hb
      clear hb
      go_wp2_with fail
      refine hK.out _ _ ?_ (fun hH => ?_)
      · exact trivial
      clear hK K
      try simp only [Act.put, List.setIfInBounds_toArray, List.set_cons_zero, List.set_cons_succ]
      refine wpAnyH_take (i := 7) (oi := { dst := some 43, op := Go.Op.indexAddr 126 (Go.Operand.tmp 42) (Go.Operand.tmp 38), type := 0, pos := "receiver.go:30", after := #[{ on := 6, ground := Go.Ground.data }, { on := 2, ground := Go.Ground.data }, { on := 0, ground := Go.Ground.phase }, { on := 1, ground := Go.Ground.phase }, { on := 2, ground := Go.Ground.phase }, { on := 3, ground := Go.Ground.phase }, { on := 4, ground := Go.Ground.phase }], guard := none }) (v := ?_) rfl (by kernel_rfl) (by kernel_rfl) (by kernel_rfl) (fun _ _ _ h => h) (Or.inl ⟨by rfl, ?_⟩) (by assumption) ?_
      rotate_left
      · intro w hSw
        try dsimp only at hSw
        go_simp
        all_goals with_reducible rfl
      try simp only [Act.put, List.setIfInBounds_toArray, List.set_cons_zero, List.set_cons_succ]
      refine wpAnyH_ready (rs := [8]) (by kernel_rfl) (by simp) ?_
      refine AllReadyH.cons (o := { dst := none, op := Go.Op.store 9 (Go.Operand.tmp 43) (Go.Operand.tmp 40), type := 0, pos := "receiver.go:30", after := #[{ on := 7, ground := Go.Ground.data }, { on := 4, ground := Go.Ground.data }, { on := 4, ground := Go.Ground.chain }, { on := 0, ground := Go.Ground.phase }, { on := 1, ground := Go.Ground.phase }, { on := 2, ground := Go.Ground.phase }, { on := 3, ground := Go.Ground.phase }, { on := 4, ground := Go.Ground.phase }], guard := none }) rfl (fun K hK => ?_) ?_
      · go_simp
        refine hK.out _ _ ?_ (fun hH => ?_)
        · exact trivial
        clear hK K
        try simp only [Act.put, List.setIfInBounds_toArray, List.set_cons_zero, List.set_cons_succ]
        refine wpAnyH_done (by kernel_rfl) ?_ _
        go_wp2
        go_ret
        exact ⟨rfl, HF.out.1, ⟨HF.out.2.os, HF.out.2.tape, HF.out.2.output, HF.out.2.size, HF.out.2.block⟩⟩
      exact AllReadyH.nil
    exact AllReadyH.nil
  exact AllReadyH.nil
theorem hear_any (seq : Int) (x : ByteArray) (hx : x.size ≤ 1000) (hk : k + ps.length ≤ 1000000) (w : World) (h : Rv B w b room k ps L) :
    Calls Tryd.prog 39 #[.pointer (some ⟨b, 0, none⟩), .int .i64 seq, .string x] w fun e w' => e = .returned (.bool (decide (takes room k ps seq))) ∧ (∃ L', Rv B w' b room k (hearD room k ps seq x) L') ∧ w.grownBy w' (some b) := by
  unfold hearD
  by_cases h1 : seq = ((k + ps.length + 1 : Nat) : Int)
  · by_cases h2 : (ps.length : Int) < room
    · have ht : takes room k ps seq := ⟨h1, h2⟩
      rw [if_pos ht, decide_eq_true ht]
      subst h1
      refine (hear_yes x hx hk h2 w h).mono ?_
      rintro e w1 ⟨rfl, hr, hg⟩
      exact ⟨rfl, ⟨_, hr⟩, hg⟩
    · have ht : ¬ takes room k ps seq := fun hh => h2 hh.2
      rw [if_neg ht, decide_eq_false ht]
      subst h1
      refine (hear_full x hk (by omega) w h).mono ?_
      rintro e w1 ⟨rfl, e1, e2, e3, e4⟩
      exact ⟨rfl, ⟨_, h.asit e1⟩, grown_asit e1 e2 e3 e4⟩
  · have ht : ¬ takes room k ps seq := fun hh => h1 hh.1
    rw [if_neg ht, decide_eq_false ht]
    refine (hear_seq seq x hk h1 w h).mono ?_
    rintro e w1 ⟨rfl, e1, e2, e3, e4⟩
    exact ⟨rfl, ⟨_, h.asit e1⟩, grown_asit e1 e2 e3 e4⟩
end
end Go.Proofs.YtjmkdgjdemndaaaDoor.K.Rcv
/- A receiver's Pop; beside a sender. -/
namespace Go.Proofs.YtjmkdgjdemndaaaDoor.K.Rcv
open Go Go.RowKit
set_option maxRecDepth 20000
theorem ring_less {k : Nat} {x : ByteArray} {ps L : List ByteArray} (h : Ring k (x :: ps) L) (hl : ps.length < 16) : Ring (k + 1) ps (L.set ((k + 1) % 16) emp) := by
  obtain ⟨h1, h2⟩ := h
  refine ⟨by rw [List.length_set]; exact h1, fun i hi => ?_⟩
  have := h2 (i + 1) (by rw [List.length_cons]; omega)
  simp only [List.getD_eq_getElem?_getD, List.getElem?_cons_succ] at this ⊢
  rw [List.getElem?_set_ne (by omega), show k + 1 + 1 + i = k + 1 + (i + 1) by omega]
  exact this
section
variable {B : Nat} {b : Nat} {room : Int} {k : Nat} {ps L : List ByteArray}
theorem Okr.less {x : ByteArray} (h : Okr room (x :: ps)) : Okr room ps := ⟨h.r1, h.r2, by have := h.len; rw [List.length_cons] at this; omega, fun d hd => h.sh d (List.mem_cons_of_mem _ hd)⟩
theorem pop_fin {w : World} {x : ByteArray} {j : Nat} (hjj : (k + 1) % 16 = j) (h : Rv B w b room k (x :: ps) L) :
    w.cell? ⟨b, 3 + j, none⟩ = some (.string x) ∧ w.frozen? ⟨b, 3 + j, none⟩ = false ∧ (w.setCell ⟨b, 3 + j, none⟩ (.string emp)).cell? ⟨b, 2, none⟩ = some (.int .i64 ((ps.length + 1 : Nat) : Int)) ∧ (w.setCell ⟨b, 3 + j, none⟩ (.string emp)).frozen? ⟨b, 2, none⟩ = false ∧
      Hid (Rv B ((w.setCell ⟨b, 3 + j, none⟩ (.string emp)).setCell ⟨b, 2, none⟩ (.int .i64 (ps.length : Int))) b room (k + 1) ps (L.set j emp) ∧ w.grownBy ((w.setCell ⟨b, 3 + j, none⟩ (.string emp)).setCell ⟨b, 2, none⟩ (.int .i64 (ps.length : Int))) (some b)) := by
  have h0 : Rc w b room (k + (x :: ps).length) (x :: ps).length L := h.blk
  have h1 := h0.setj j emp
  refine ⟨?_, h0.f0 _, h1.c2, h1.f0 _, ⟨⟨h.lo, ?_, ?_, h.ok.less⟩, World.grownBy.trans (grown_set w b (3 + j) (.string emp)) (grown_set (w.setCell ⟨b, 3 + j, none⟩ (.string emp)) b 2 (.int .i64 (ps.length : Int)))⟩⟩
  · have := h.at 0 (by simp)
    rw [Nat.add_zero, hjj] at this
    exact this
  · have := h1.set2 ps.length
    rw [List.length_cons, show k + (ps.length + 1) = k + 1 + ps.length by omega] at this
    exact this
  · have := ring_less h.ring (by have := h.ok.le; rw [List.length_cons] at this; omega)
    rw [hjj] at this
    exact this
end
end Go.Proofs.YtjmkdgjdemndaaaDoor.K.Rcv
/- The document's receiver: New, Hear, Pop, Look; beside a sender. -/
namespace Go.Proofs.YtjmkdgjdemndaaaDoor.K.Rcv
open Go Go.RowKit
set_option maxRecDepth 20000
/-- In block b lies the document's receiver: all that was taken in the slice v, that of pre popped. -/
structure Dr (B : Nat) (w : World) (b : Nat) (v : Value) (room : Int) (pre ps : List ByteArray) : Prop where
  lo : B ≤ b
  blk : w.heap[b]? = some (.cells #[.int .i64 room, v, .int .i64 (pre.length : Int)] 102 (0, 0))
  row : RowS B w v (pre ++ ps)
  ok : Okr room ps
section
variable {B b : Nat} {v : Value} {room : Int} {pre ps : List ByteArray} {w w' : World}
theorem Dr.c0 (h : Dr B w b v room pre ps) : w.cell? ⟨b, 0, none⟩ = some (.int .i64 room) := cell_at h.blk 0 _ rfl
theorem Dr.c1 (h : Dr B w b v room pre ps) : w.cell? ⟨b, 1, none⟩ = some v := cell_at h.blk 1 _ rfl
theorem Dr.c2 (h : Dr B w b v room pre ps) : w.cell? ⟨b, 2, none⟩ = some (.int .i64 (pre.length : Int)) := cell_at h.blk 2 _ rfl
theorem Dr.f0 (h : Dr B w b v room pre ps) (i : Nat) : w.frozen? ⟨b, i, none⟩ = false := by have := h.blk; simp [World.frozen?, this]
theorem Dr.lt (h : Dr B w b v room pre ps) : b < w.heap.size := (Array.getElem?_eq_some_iff.1 h.blk).1
theorem Dr.same (h : Dr B w b v room pre ps) (hb : w'.heap[b]? = w.heap[b]?) (hv : ∀ j, v.ownBlock = some j → w'.heap[j]? = w.heap[j]?) : Dr B w' b v room pre ps := ⟨h.lo, hb.trans h.blk, h.row.same hv, h.ok⟩
theorem Dr.next (h : Dr B w b v room pre ps) (hb : Below w.heap.size w w') : Dr B w' b v room pre ps := h.same (hb.block b h.lt) (fun j hj => hb.block j (h.row.lt j hj).2)
theorem Dr.asit (h : Dr B w b v room pre ps) (e : w'.heap = w.heap) : Dr B w' b v room pre ps := h.same (by rw [e]) (fun j _ => by rw [e])
theorem Dr.rowb (h : Dr B w b v room pre ps) : v.ownBlock ≠ some b := fun e => by
  obtain ⟨cur, hc⟩ := h.row.typ b e
  exact two_types h.blk hc (by decide) rfl
theorem Dr.lower {B' : Nat} (h : Dr B w b v room pre ps) (hB : B' ≤ B) : Dr B' w b v room pre ps := ⟨Nat.le_trans hB h.lo, h.blk, h.row.lower hB, h.ok⟩
end
set_option maxHeartbeats 400000 in
theorem dnew_any (a : Int) (w : World) : Calls Tryd.prog 57 #[.int .i64 a] w fun x w' => x = .returned (.pointer (some ⟨w.heap.size, 0, none⟩)) ∧ Dr w.heap.size w' w.heap.size (.slice none 0 0) (roomOf a) [] [] ∧ Below w.heap.size w w' := by
  by_cases h1 : a < 1
  · have e : roomOf a = 1 := by unfold roomOf; omega
    have HO := Lib.hid (e ▸ okr_new a)
    rw [e]
    go_enter Tryd.func57, Tryd.ntmps57
    go_wp2
    go_ret
    exact ⟨rfl, ⟨Nat.le_refl _, heap_alloc_new _ _, rowS_nil _ _, HO.out⟩, Joins.below_alloc1 _ _⟩
  by_cases h2 : 16 < a
  · have e : roomOf a = 16 := by unfold roomOf; omega
    have HO := Lib.hid (e ▸ okr_new a)
    rw [e]
    go_enter Tryd.func57, Tryd.ntmps57
    go_wp2
    go_ret
    exact ⟨rfl, ⟨Nat.le_refl _, heap_alloc_new _ _, rowS_nil _ _, HO.out⟩, Joins.below_alloc1 _ _⟩
  have e : roomOf a = a := by unfold roomOf; omega
  have HO := Lib.hid (e ▸ okr_new a)
  rw [e]
  clear e
  go_enter Tryd.func57, Tryd.ntmps57
  go_wp2
  go_ret
  exact ⟨rfl, ⟨Nat.le_refl _, heap_alloc_new _ _, rowS_nil _ _, HO.out⟩, Joins.below_alloc1 _ _⟩
section
variable {B b : Nat} {v : Value} {room : Int} {pre ps : List ByteArray}
theorem sub_pre (h : Okr room ps) : IntKind.i64.wrap (((pre ++ ps).length : Int) - (pre.length : Int)) = (ps.length : Int) := by
  have := h.le
  rw [List.length_append, show ((pre.length + ps.length : Nat) : Int) - (pre.length : Int) = (ps.length : Int) by omega]
  exact i64_id (by omega) (by omega)
set_option maxHeartbeats 1000000 in
theorem dhear_full (seq : Int) (x : ByteArray) (h1 : room ≤ (ps.length : Int)) (w : World) (h : Dr B w b v room pre ps) :
    Calls Tryd.prog 41 #[.pointer (some ⟨b, 0, none⟩), .int .i64 seq, .string x] w fun e w' => e = .returned (.bool false) ∧ w'.heap = w.heap ∧ w'.os = w.os ∧ w'.tape = w.tape ∧ w'.output = w.output := by
  obtain ⟨a, c, hv, _⟩ := h.row.is
  subst hv
  have c0 := h.c0
  have c1 := h.c1
  have c2 := h.c2
  have hw := sub_pre (pre := pre) h.ok
  have hd : decide (room ≤ (ps.length : Int)) = true := by simpa using h1
  clear h
  generalize (pre ++ ps).length = LL at *
  generalize (pre.length : Int) = P at *
  generalize (ps.length : Int) = T at *
  go_enter Tryd.func41, Tryd.ntmps41
  go_wp2_with fail
  go_quiet (fail)
  go_wp2
  go_ret
  exact ⟨rfl, rfl, rfl, rfl, rfl⟩
set_option maxHeartbeats 1000000 in
theorem dhear_low (seq : Int) (x : ByteArray) (h1 : ¬ room ≤ (ps.length : Int)) (h2 : seq < 1) (w : World) (h : Dr B w b v room pre ps) :
    Calls Tryd.prog 41 #[.pointer (some ⟨b, 0, none⟩), .int .i64 seq, .string x] w fun e w' => e = .returned (.bool false) ∧ w'.heap = w.heap ∧ w'.os = w.os ∧ w'.tape = w.tape ∧ w'.output = w.output := by
  obtain ⟨a, c, hv, _⟩ := h.row.is
  subst hv
  have c0 := h.c0
  have c1 := h.c1
  have c2 := h.c2
  have hw := sub_pre (pre := pre) h.ok
  have hd : decide (room ≤ (ps.length : Int)) = false := by simpa using h1
  have hd2 : decide (seq < 1) = true := by simpa using h2
  clear h
  generalize (pre ++ ps).length = LL at *
  generalize (pre.length : Int) = P at *
  generalize (ps.length : Int) = T at *
  go_enter Tryd.func41, Tryd.ntmps41
  go_wp2_with fail
  go_quiet (fail)
  go_wp2
  go_ret
  exact ⟨rfl, rfl, rfl, rfl, rfl⟩
set_option maxHeartbeats 1000000 in
theorem dhear_seq (seq : Int) (x : ByteArray) (h1 : ¬ room ≤ (ps.length : Int)) (h2 : ¬ seq < 1) (hr : seq ≤ 9223372036854775807) (h3 : seq - 1 ≠ ((pre ++ ps).length : Int)) (w : World) (h : Dr B w b v room pre ps) :
    Calls Tryd.prog 41 #[.pointer (some ⟨b, 0, none⟩), .int .i64 seq, .string x] w fun e w' => e = .returned (.bool false) ∧ w'.heap = w.heap ∧ w'.os = w.os ∧ w'.tape = w.tape ∧ w'.output = w.output := by
  obtain ⟨a, c, hv, _⟩ := h.row.is
  subst hv
  have c0 := h.c0
  have c1 := h.c1
  have c2 := h.c2
  have hw := sub_pre (pre := pre) h.ok
  have hd : decide (room ≤ (ps.length : Int)) = false := by simpa using h1
  have hd2 : decide (seq < 1) = false := by simpa using h2
  have hw2 : IntKind.i64.wrap (seq - 1) = seq - 1 := i64_id (by omega) (by omega)
  have hd3 : decide (seq - 1 = ((pre ++ ps).length : Int)) = false := by simpa using h3
  clear h
  generalize (pre ++ ps).length = LL at *
  generalize (pre.length : Int) = P at *
  generalize (ps.length : Int) = T at *
  go_enter Tryd.func41, Tryd.ntmps41
  go_wp2_with fail
  go_quiet (fail)
  go_wp2
  go_ret
  exact ⟨rfl, rfl, rfl, rfl, rfl⟩
theorem dhear_fin {w W w3 w5 : World} {a3 a' : Option Addr} {c3 c' : Nat} {x : ByteArray} {xs : List ByteArray} (hx : x.size ≤ 1000) (h : Dr B w b v room pre ps) (hxs : pre ++ ps = xs) (h1 : (ps.length : Int) < room)
    (eh : W.heap = w.heap) (eo : W.os = w.os) (et : W.tape = w.tape) (eu : W.output = w.output) (hr3 : RowS W.heap.size w3 (.slice a3 xs.length c3) xs) (hb3 : Below W.heap.size W w3)
    (hr5 : RowS W.heap.size w5 (.slice a' (xs.length + 1) c') (xs ++ [x])) (hg5 : (w3.alloc (.cells #[.string x] 9)).grownBy w5 (Value.slice a3 xs.length c3).ownBlock) :
    w5.cell? ⟨b, 1, none⟩ = some v ∧ w5.frozen? ⟨b, 1, none⟩ = false ∧ Hid (Dr B (w5.setCell ⟨b, 1, none⟩ (.slice a' (xs.length + 1) c')) b (.slice a' (xs.length + 1) c') room pre (ps ++ [x]) ∧ w.grownBy (w5.setCell ⟨b, 1, none⟩ (.slice a' (xs.length + 1) c')) (some b)) := by
  have hlt := h.lt
  have hlo := h.lo
  have hbel : Below w.heap.size w w5 := by
    have e : Below W.heap.size W w5 := (hb3.alloc hb3.size (.cells #[.string x] 9)).grown hg5 (by have := hb3.size; simp; omega) (fun j hj => (hr3.lt j hj).1)
    exact ⟨e.os.trans eo, e.tape.trans et, e.output.trans eu, by rw [← eh]; exact e.size, fun j hj => by rw [e.block j (by rw [eh]; exact hj), eh]⟩
  have hblk := (hbel.block b hlt).trans h.blk
  have hsz : w.heap.size = W.heap.size := by rw [eh]
  have hnb : (Value.slice a' (xs.length + 1) c').ownBlock ≠ some b := fun e => by have := (hr5.lt b e).1; omega
  refine ⟨cell_at hblk 1 _ rfl, by simp [World.frozen?, hblk], ⟨⟨hlo, ?_, ?_, okr_more h.ok h1 hx⟩, ?_⟩⟩
  · simp [World.setCell, Array.getElem?_modify, hblk]
  · rw [← List.append_assoc, hxs]
    exact (hr5.lower (by omega)).same fun j hj => Below.heap_setCell _ _ _ _ (fun e => hnb (by rw [hj, e]))
  · exact World.grownBy.trans (grownOf (some b) hbel) (grown_set _ _ _ _)
set_option maxHeartbeats 4000000 in
theorem dhear_yes (x : ByteArray) (hx : x.size ≤ 1000) (h1 : (ps.length : Int) < room) (hbd : pre.length + ps.length ≤ 10000) (w : World) (h : Dr B w b v room pre ps) :
    Calls Tryd.prog 41 #[.pointer (some ⟨b, 0, none⟩), .int .i64 ((pre.length + ps.length + 1 : Nat) : Int), .string x] w fun e w' => e = .returned (.bool true) ∧ ∃ v', Dr B w' b v' room pre (ps ++ [x]) ∧ w.grownBy w' (some b) := by
  obtain ⟨a, c, hv, hss, hlc, hnn⟩ := h.row.is
  subst hv
  have c0 := h.c0
  have c1 := h.c1
  have c2 := h.c2
  have hw := sub_pre (pre := pre) h.ok
  have hd : decide (room ≤ (ps.length : Int)) = false := by simpa using h1
  have hbd2 : (pre ++ ps).length ≤ 10000 := by rw [List.length_append]; exact hbd
  rw [show pre.length + ps.length + 1 = (pre ++ ps).length + 1 by rw [List.length_append]]
  have hd2 : decide ((((pre ++ ps).length + 1 : Nat) : Int) < 1) = false := decide_eq_false (by omega)
  have hw2 : IntKind.i64.wrap ((((pre ++ ps).length + 1 : Nat) : Int) - 1) = ((pre ++ ps).length : Int) := by
    rw [show (((pre ++ ps).length + 1 : Nat) : Int) - 1 = ((pre ++ ps).length : Int) by omega]
    exact i64_id (by omega) (by omega)
  have H := Lib.hid h
  have H1 := Lib.hid h1
  have HSS := Lib.hid hss
  have HLC := Lib.hid hlc
  have HNN := Lib.hid hnn
  clear h h1 hss hlc hnn hbd
  generalize hxs : pre ++ ps = xs at *
  have HXS := Lib.hid hxs
  clear hxs
  generalize (pre.length : Int) = P at c2 hw
  generalize ((xs.length + 1 : Nat) : Int) = Q at *
  have tok1 : True := trivial
  have tok2 : True := trivial
  go_enter Tryd.func41, Tryd.ntmps41
  go_wp2_with fail
  go_quiet (fail)
  have e1 := ((H.out.asit (w' := w.drewN nq) rfl).next (Joins.below_alloc1 _ (.cells #[] 9))).c1
  clear c0
  go_wp2_with (first
    | (at_builtin; have _t := tok1; refine wpList_appS0 (w := w.drewN nq) rfl (.tmp 37) (.tmp 41) rfl rfl a xs.length c rfl xs ⟨HSS.out.size, HSS.out.lies⟩ HLC.out HNN.out (by omega) ?_; intro a3 c3' w3 hr3 hb3; have HR3 := Lib.hid hr3; have HB3 := Lib.hid hb3; clear tok1 hr3 hb3)
    | (at_builtin; have _t := tok2; refine wpList_appS rfl (.tmp 42) (.tmp 44) rfl (w.drewN nq).heap.size _ xs rfl (HR3.out.alloc (.cells #[.string x] 9)) _ 1 1 rfl [x] (ssAt_one w3 x) (Nat.le_refl _) (fun e => by cases e) (by omega) (by have := HB3.out.size; simp at this ⊢; omega) ?_; intro a5 c5 w5 hr5 hg5 _; obtain ⟨d2, f2, HF⟩ := dhear_fin hx H.out HXS.out H1.out (W := w.drewN nq) rfl rfl rfl rfl HR3.out HB3.out hr5 hg5; clear tok2 hr5 hg5))
  go_ret
  exact ⟨rfl, _, HF.out⟩
theorem dhear_any (seq : Int) (hr : seq ≤ 9223372036854775807) (x : ByteArray) (hx : x.size ≤ 1000) (hbd : pre.length + ps.length ≤ 10000) (w : World) (h : Dr B w b v room pre ps) :
    Calls Tryd.prog 41 #[.pointer (some ⟨b, 0, none⟩), .int .i64 seq, .string x] w fun e w' => e = .returned (.bool (decide (takes room pre.length ps seq))) ∧ (∃ v', Dr B w' b v' room pre (hearD room pre.length ps seq x)) ∧ w.grownBy w' (some b) := by
  unfold hearD
  by_cases ht : takes room pre.length ps seq
  · rw [if_pos ht, decide_eq_true ht]
    obtain ⟨e1, e2⟩ := ht
    subst e1
    refine (dhear_yes x hx e2 hbd w h).mono ?_
    rintro e w1 ⟨rfl, v', h1, h2⟩
    exact ⟨rfl, ⟨v', h1⟩, h2⟩
  rw [if_neg ht, decide_eq_false ht]
  have key : Calls Tryd.prog 41 #[.pointer (some ⟨b, 0, none⟩), .int .i64 seq, .string x] w fun e w' => e = .returned (.bool false) ∧ w'.heap = w.heap ∧ w'.os = w.os ∧ w'.tape = w.tape ∧ w'.output = w.output := by
    by_cases h1 : room ≤ (ps.length : Int)
    · exact dhear_full seq x h1 w h
    by_cases h2 : seq < 1
    · exact dhear_low seq x h1 h2 w h
    exact dhear_seq seq x h1 h2 hr (fun e => ht ⟨by rw [List.length_append] at e; omega, by omega⟩) w h
  refine key.mono ?_
  rintro e w1 ⟨rfl, e1, e2, e3, e4⟩
  exact ⟨rfl, ⟨v, h.asit e1⟩, grown_asit e1 e2 e3 e4⟩
theorem dpop_fin {w : World} {x : ByteArray} (h : Dr B w b v room pre (x :: ps)) : Dr B (w.setCell ⟨b, 2, none⟩ (.int .i64 ((pre.length + 1 : Nat) : Int))) b v room (pre ++ [x]) ps ∧ w.grownBy (w.setCell ⟨b, 2, none⟩ (.int .i64 ((pre.length + 1 : Nat) : Int))) (some b) := by
  have hblk := h.blk
  refine ⟨⟨h.lo, ?_, ?_, h.ok.less⟩, grown_set _ _ _ _⟩
  · rw [List.length_append, List.length_singleton]
    simp [World.setCell, Array.getElem?_modify, hblk]
  · rw [List.append_assoc]
    exact h.row.same fun j hj => Below.heap_setCell _ _ _ _ (fun e => h.rowb (by rw [hj, e]))
theorem look_slice {w : World} {a : Option Addr} {c : Nat} (h : Dr B w b (.slice a (pre ++ ps).length c) room pre ps) :
    ∃ A C, (∀ w, (Instr.sliceAt 97 (.slice a (pre ++ ps).length c) (some (.int .i64 (pre.length : Int))) none none).run Tryd.prog w = .ok (.slice A ps.length C) w) ∧ SsAt w A ps.length ps ∧ ps.length ≤ C ∧ (A = none → C = 0) := by
  obtain ⟨hss, hlc, hn⟩ := h.row.isS rfl
  have hl : pre.length ≤ (pre ++ ps).length := by rw [List.length_append]; omega
  have e : (pre ++ ps).length - pre.length = ps.length := by rw [List.length_append]; omega
  have s := hss.back hlc hl
  refine ⟨_, _, fun w => by rw [slS_back a _ c pre.length hl w, e], ?_, by rw [List.length_append] at hlc; omega, back_none hn⟩
  rw [e, List.drop_left] at s
  exact s
end
end Go.Proofs.YtjmkdgjdemndaaaDoor.K.Rcv
/- Same. -/
namespace Go.Proofs.YtjmkdgjdemndaaaDoor.K
open Go Go.RowKit
set_option maxRecDepth 20000
theorem eq_yes (s : ByteArray) : (s.toList == s.toList) = true := by simp
theorem below_asit {w w' : World} {B : Nat} (e : w'.heap = w.heap) (e1 : w'.os = w.os) (e2 : w'.tape = w.tape) (e3 : w'.output = w.output) : Below B w w' := ⟨e1, e2, e3, by rw [e]; exact Nat.le_refl _, fun i _ => by rw [e]⟩
theorem SsAt.asit {w w' : World} {a : Option Addr} {len : Nat} {ts : List ByteArray} (h : SsAt w a len ts) (e : w'.heap = w.heap) : SsAt w' a len ts :=
  ⟨h.size, fun h0 => by
    obtain ⟨b, off, e1, hl, hf⟩ := h.lies h0
    exact ⟨b, off, e1, by rw [e]; exact hl, fun i hi => by rw [← hf i hi]; unfold World.cell?; rw [e]⟩⟩
end Go.Proofs.YtjmkdgjdemndaaaDoor.K
