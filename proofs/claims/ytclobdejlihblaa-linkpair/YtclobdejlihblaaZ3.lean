/- Offer. -/
import Derived.Test.YtclobdejlihblaaZ2
import Derived.Deep.RegionHeld3
namespace Go.Proofs.Ytclobdejlihblaa
open Go Go.RowKit
set_option maxRecDepth 20000
theorem i64_id {n : Int} (h1 : -9223372036854775808 ≤ n) (h2 : n ≤ 9223372036854775807) : IntKind.i64.wrap n = n := by
  simp only [IntKind.wrap, IntKind.bits, IntKind.signed]
  simp
  omega
section
variable {B b : Nat} {v : Value} {win last : Int} {k : Nat} {ds : List ByteArray}
/-- What a call on a sender leaves of its row's place. -/
def Nw (w : World) (v v' : Value) : Prop := ∀ j, v'.ownBlock = some j → v.ownBlock = some j ∨ w.heap.size ≤ j
theorem Nw.refl (w : World) (v : Value) : Nw w v v := fun _ h => .inl h
theorem Ok.more (h : Ok win last k ds) (x : ByteArray) (hx : x.size ≤ 1000) (h1 : (ds.length : Int) < win) (h2 : ((k + ds.length : Nat) : Int) < last) : Ok win last k (ds ++ [x]) := by
  refine ⟨h.w1, h.w2, h.l1, h.l2, by simp only [List.length_append, List.length_singleton]; omega, by simp only [List.length_append, List.length_singleton]; omega, fun d hd => ?_⟩
  rcases List.mem_append.1 hd with hd | hd
  · exact h.sh d hd
  · rw [List.mem_singleton.1 hd]; exact hx
/-- How it stands when a piece is there, in the row of the world w5. -/
theorem off_fin {w w1 w3 w5 : World} {x : ByteArray} {a' : Option Addr} {c' : Nat} {o : Obj} {S1 : Int} (hx : x.size ≤ 1000) (h : Sn B w b v win last k ds) (h1 : (ds.length : Int) < win) (h2 : ((k + ds.length : Nat) : Int) < last) (hS : ((k + ds.length + 1 : Nat) : Int) = S1)
    (hb : Below w1.heap.size w1 w3) (e1 : w1.heap = (w.setCell ⟨b, 2, none⟩ (.int .i64 S1)).heap) (eo : w1.os = w.os) (et : w1.tape = w.tape) (eu : w1.output = w.output) (hp : PR B w5 (.slice a' (ds.length + 1) c') k (ds ++ [x])) (hg : (w3.alloc o).grownBy w5 v.ownBlock) (hn : ∀ j, (Value.slice a' (ds.length + 1) c').ownBlock = some j → v.ownBlock = some j ∨ (w3.alloc o).heap.size ≤ j) :
    Sn B (w5.setCell ⟨b, 3, none⟩ (.slice a' (ds.length + 1) c')) b (.slice a' (ds.length + 1) c') win last k (ds ++ [x]) ∧ Fr w (w5.setCell ⟨b, 3, none⟩ (.slice a' (ds.length + 1) c')) b v.ownBlock ∧ Nw w v (.slice a' (ds.length + 1) c') := by
  have hblk := h.blk
  have hlt := h.lt
  have s1 : w1.heap.size = w.heap.size := by rw [e1]; simp
  have s3 := hb.size
  have hsz : (w3.alloc o).heap.size = w3.heap.size + 1 := by simp
  have b1 : w1.heap[b]? = some (.cells #[.int .i64 win, .int .i64 last, .int .i64 S1, v] 81 (0, 0)) := by
    rw [e1]
    simp [World.setCell, Array.getElem?_modify, hblk]
  have hvb : v.ownBlock ≠ some b := fun e => by
    obtain ⟨cur, hc⟩ := h.row.typ b e
    exact two_types hblk hc (by decide) rfl
  have b5 : w5.heap[b]? = some (.cells #[.int .i64 win, .int .i64 last, .int .i64 S1, v] 81 (0, 0)) := by
    rw [hg.block b (by omega) (fun e => hvb e.symm), (Joins.below_alloc1 w3 o).block b (by omega), hb.block b (by omega)]
    exact b1
  have hpb : (Value.slice a' (ds.length + 1) c').ownBlock ≠ some b := fun e => by
    obtain ⟨cur, hc⟩ := hp.typ b e
    exact two_types b5 hc (by decide) rfl
  refine ⟨⟨h.lo, ?_, hp.kept fun j hj => Below.heap_setCell _ _ _ _ (fun e => hpb (by rw [hj, e])), h.ok.more x hx h1 h2⟩, ?_, fun j hj => ?_⟩
  · rw [List.length_append, List.length_singleton, ← Nat.add_assoc, hS]
    simp [World.setCell, Array.getElem?_modify, b5]
  · have f1 : Fr w w1 b v.ownBlock := by
      have := Fr.set w b 2 (.int .i64 S1) v.ownBlock
      exact ⟨eo, et, eu, by rw [e1]; exact this.size, fun i hi h1 h2 => by rw [e1]; exact this.block i hi h1 h2⟩
    have f3 : Fr w1 w3 b v.ownBlock := Fr.ofBelow hb
    have f4 : Fr w3 (w3.alloc o) b v.ownBlock := Fr.ofBelow (Joins.below_alloc1 _ _)
    exact (((f1.trans f3).trans f4).trans (Fr.ofRow hg)).trans (Fr.set _ _ _ _ _)
  · rcases hn j hj with h' | h'
    · exact .inl h'
    · exact .inr (by omega)
theorem off_app {w w1 w3 : World} {a : Option Addr} {c : Nat} {S1 : Int} (x : ByteArray) (ty : TypeId) (h : Sn B w b (.slice a ds.length c) win last k ds) (hS : ((k + ds.length + 1 : Nat) : Int) = S1) (hb : Below w1.heap.size w1 w3) (e1 : w1.heap = (w.setCell ⟨b, 2, none⟩ (.int .i64 S1)).heap) :
    ∃ a' c' w5, (Builtin.append_ #[79, 79] ty #[.slice a ds.length c, .slice (some ⟨w3.heap.size, 0, none⟩) 1 1]).run Try.prog (w3.alloc (.cells #[.int .i64 S1, .string x] 84)) = .ok (.slice a' (ds.length + 1) c') w5 ∧ Hid (PR B w5 (.slice a' (ds.length + 1) c') k (ds ++ [x])) ∧ Hid ((w3.alloc (.cells #[.int .i64 S1, .string x] 84)).grownBy w5 (Value.slice a ds.length c).ownBlock) ∧ Hid (∀ j, (Value.slice a' (ds.length + 1) c').ownBlock = some j → (Value.slice a ds.length c).ownBlock = some j ∨ (w3.alloc (.cells #[.int .i64 S1, .string x] 84)).heap.size ≤ j) ∧ w5.cell? ⟨b, 3, none⟩ = some (.slice a ds.length c) ∧ w5.frozen? ⟨b, 3, none⟩ = false ∧ w3.cell? ⟨b, 2, none⟩ = some (.int .i64 S1) ∧ w3.cell? ⟨b, 3, none⟩ = some (.slice a ds.length c) ∧ (w3.alloc (.cells #[.int .i64 S1, .string x] 84)).cell? ⟨b, 3, none⟩ = some (.slice a ds.length c) ∧ (w5.setCell ⟨b, 3, none⟩ (.slice a' (ds.length + 1) c')).cell? ⟨b, 2, none⟩ = some (.int .i64 S1) ∧ (w3.alloc (.cells #[.int .i64 S1, .string x] 84)).cell? ⟨b, 2, none⟩ = some (.int .i64 S1) ∧ w5.cell? ⟨b, 2, none⟩ = some (.int .i64 S1) := by
  have hblk := h.blk
  have hlt := h.lt
  have hlo := h.lo
  have s1 : w1.heap.size = w.heap.size := by rw [e1]; simp
  have s3 := hb.size
  have hsz : (w3.alloc (.cells #[.int .i64 S1, .string x] 84)).heap.size = w3.heap.size + 1 := by simp
  have b1 : w1.heap[b]? = some (.cells #[.int .i64 win, .int .i64 last, .int .i64 S1, .slice a ds.length c] 81 (0, 0)) := by
    rw [e1]
    simp [World.setCell, Array.getElem?_modify, hblk]
  have hvb : (Value.slice a ds.length c).ownBlock ≠ some b := fun e => by
    obtain ⟨cur, hc⟩ := h.row.typ b e
    exact two_types hblk hc (by decide) rfl
  have b3 : w3.heap[b]? = some (.cells #[.int .i64 win, .int .i64 last, .int .i64 S1, .slice a ds.length c] 81 (0, 0)) := (hb.block b (by omega)).trans b1
  have b4 : (w3.alloc (.cells #[.int .i64 S1, .string x] 84)).heap[b]? = some (.cells #[.int .i64 win, .int .i64 last, .int .i64 S1, .slice a ds.length c] 81 (0, 0)) := ((Joins.below_alloc1 w3 _).block b (by omega)).trans b3
  have hrow : PR B (w3.alloc (.cells #[.int .i64 S1, .string x] 84)) (.slice a ds.length c) k ds := by
    refine h.row.kept fun j hj => ?_
    have hj2 := (h.row.lt j hj).2
    have hjb : j ≠ b := fun e => hvb (by rw [hj, e])
    rw [(Joins.below_alloc1 w3 _).block j (by omega), hb.block j (by omega), e1]
    exact Below.heap_setCell _ _ _ _ hjb
  have hl1000 : ds.length ≤ 1000 := by have := h.ok.len; have := h.ok.w2; omega
  obtain ⟨a', c', w5, r1, r2, r3, r4⟩ := run_appP _ ty B _ k ds hrow ⟨w3.heap.size, 0, none⟩ 1 x (fun j u hj => by
    rw [Go.WideShapes.add_plain, cell_of_row _ _ _ _ _ _ (heap_alloc_new w3 _), Nat.zero_add, ← hj]
    simp only [flP]
    rw [hS]
    simp) (Nat.le_refl _) hl1000 (by omega)
  have b5 : w5.heap[b]? = some (.cells #[.int .i64 win, .int .i64 last, .int .i64 S1, .slice a ds.length c] 81 (0, 0)) := by
    rw [r3.block b (by omega) (fun e => hvb e.symm)]
    exact b4
  exact ⟨a', c', w5, r1, r2, r3, r4, cell_at b5 3 _ rfl, by simp [World.frozen?, b5], cell_at b3 2 _ rfl, cell_at b3 3 _ rfl, cell_at b4 3 _ rfl, by simp [World.cell?, World.setCell, Array.getElem?_modify, b5], cell_at b4 2 _ rfl, cell_at b5 2 _ rfl⟩
theorem step_append_run {ops : Array Oper} {o : Oper} {a : Act} {K : Act → World → Prop} {Q : Exit → Act → World → Prop} {E : Prop} {w w' : World} (hw : Region.wanted o (yielded ops a.tmps) = true) (s x : Operand) (t : TypeId)
    (ho : o.op = .call { callee := .builtin .append, args := #[s, x], argTypes := #[t, t] }) (vs vx v' : Value) (hs : a.eval s = vs) (hx : a.eval x = vx) (hrun : (Builtin.append_ #[t, t] o.type #[vs, vx]).run Try.prog w = .ok v' w') (h : K (a.put o.dst v') w') :
    if Region.wanted o (yielded ops a.tmps) = true then Oper.wp Try.prog o a w K Q else E := by
  rw [if_pos hw]
  unfold Oper.wp execOp
  simp only [ho, resolve, invoke, builtin, Sem.run_bind, Sem.run_pure, Result.andThen_ok, List.map_toArray, List.map_cons, List.map_nil, hs, hx, hrun]
  exact h
set_option maxHeartbeats 4000000 in
theorem off_yes (x : ByteArray) (hx : x.size ≤ 1000) (h1 : (ds.length : Int) < win) (h2 : ((k + ds.length : Nat) : Int) < last) (w : World) (h : Sn B w b v win last k ds) :
    Calls Try.prog 32 #[.pointer (some ⟨b, 0, none⟩), .string x] w fun e w' => e = .returned (.tuple #[.int .i64 ((k + ds.length + 1 : Nat) : Int), .int .i64 0]) ∧ ∃ v', Sn B w' b v' win last k (ds ++ [x]) ∧ Fr w w' b v.ownBlock ∧ Nw w v v' := by
  obtain ⟨a, c, hv, hlc, hn⟩ := h.row.is
  subst hv
  have hok := h.ok
  have c0 := h.c0
  have c1 := h.c1
  have c2 := h.c2
  have c3 := h.c3
  have f2 := h.f0 2
  have k1 : ¬ win ≤ (ds.length : Int) := by omega
  have k2 : ¬ last ≤ ((k + ds.length : Nat) : Int) := by omega
  obtain ⟨S1, hS1⟩ : ∃ S1 : Int, ((k + ds.length + 1 : Nat) : Int) = S1 := ⟨_, rfl⟩
  have hwr : IntKind.i64.wrap (((k + ds.length : Nat) : Int) + 1) = S1 := by
    rw [show ((k + ds.length : Nat) : Int) + 1 = S1 by omega]
    have := hok.l2
    exact i64_id (by omega) (by omega)
  rw [hS1]
  have hS0w : (w.setCell ⟨b, 2, none⟩ (.int .i64 S1)).cell? ⟨b, 2, none⟩ = some (.int .i64 S1) := by
    have := h.blk
    simp [World.cell?, World.setCell, Array.getElem?_modify, this]
  have H := Lib.hid h
  have HS1 := Lib.hid hS1
  have H1 := Lib.hid h1
  have H2 := Lib.hid h2
  clear h hS1 h1 h2 hok hlc hn
  generalize ((k + ds.length : Nat) : Int) = S at c2 hwr k2
  go_enter Try.func32, Try.ntmps32
  go_wp2_with fail
  go_quiet (fail)
  revert nq
  intro n1
  go_wp2_with fail
  go_quiet (fail)
  go_wp2_with fail
  clear c0 c1 k1 k2
  have hS0 : ((w.drewN (n1 + nq)).setCell ⟨b, 2, none⟩ (.int .i64 S1)).drew.cell? ⟨b, 2, none⟩ = some (.int .i64 S1) := hS0w
  refine wp_region_held_drew (S := fun w' => w'.cell? ⟨b, 2, none⟩ = some (.int .i64 S1)) (by kernel_rfl) ?_ (fun hH => ?_)
  · exact hS0
  refine wpAnyH_take (i := 0) (oi := { dst := some 32, op := Go.Op.move (Go.Operand.tmp 0), type := 46, pos := "sender.go:41", after := #[], guard := none }) (v := ?_) rfl (by kernel_rfl) (by kernel_rfl) (by kernel_rfl) (fun _ _ _ h => h) (Or.inl ⟨by rfl, ?_⟩) (by assumption) ?_
  rotate_left
  · intro w hSw
    try dsimp only at hSw
    go_simp
    all_goals with_reducible rfl
  try simp only [Act.put, List.setIfInBounds_toArray, List.set_cons_zero, List.set_cons_succ]
  refine wpAnyH_take (i := 1) (oi := { dst := some 33, op := Go.Op.move (Go.Operand.tmp 0), type := 46, pos := "sender.go:41", after := #[], guard := none }) (v := ?_) rfl (by kernel_rfl) (by kernel_rfl) (by kernel_rfl) (fun _ _ _ h => h) (Or.inl ⟨by rfl, ?_⟩) (by assumption) ?_
  rotate_left
  · intro w hSw
    try dsimp only at hSw
    go_simp
    all_goals with_reducible rfl
  try simp only [Act.put, List.setIfInBounds_toArray, List.set_cons_zero, List.set_cons_succ]
  refine wpAnyH_take (i := 2) (oi := { dst := some 34, op := Go.Op.nilCheck (Go.Operand.tmp 33), type := 0, pos := "sender.go:41", after := #[{ on := 1, ground := Go.Ground.data }], guard := none }) (v := ?_) rfl (by kernel_rfl) (by kernel_rfl) (by kernel_rfl) (fun _ _ _ h => h) (Or.inl ⟨by rfl, ?_⟩) (by assumption) ?_
  rotate_left
  · intro w hSw
    try dsimp only at hSw
    go_simp
    all_goals with_reducible rfl
  try simp only [Act.put, List.setIfInBounds_toArray, List.set_cons_zero, List.set_cons_succ]
  refine wpAnyH_take (i := 3) (oi := { dst := some 35, op := Go.Op.fieldAddr 81 (Go.Operand.tmp 34) 3, type := 0, pos := "sender.go:41", after := #[{ on := 2, ground := Go.Ground.data }], guard := none }) (v := ?_) rfl (by kernel_rfl) (by kernel_rfl) (by kernel_rfl) (fun _ _ _ h => h) (Or.inl ⟨by rfl, ?_⟩) (by assumption) ?_
  rotate_left
  · intro w hSw
    try dsimp only at hSw
    go_simp
    all_goals with_reducible rfl
  try simp only [Act.put, List.setIfInBounds_toArray, List.set_cons_zero, List.set_cons_succ]
  refine wpAnyH_take (i := 5) (oi := { dst := some 37, op := Go.Op.move (Go.Operand.tmp 0), type := 46, pos := "sender.go:41", after := #[], guard := none }) (v := ?_) rfl (by kernel_rfl) (by kernel_rfl) (by kernel_rfl) (fun _ _ _ h => h) (Or.inl ⟨by rfl, ?_⟩) (by assumption) ?_
  rotate_left
  · intro w hSw
    try dsimp only at hSw
    go_simp
    all_goals with_reducible rfl
  try simp only [Act.put, List.setIfInBounds_toArray, List.set_cons_zero, List.set_cons_succ]
  refine wpAnyH_take (i := 6) (oi := { dst := some 38, op := Go.Op.nilCheck (Go.Operand.tmp 37), type := 0, pos := "sender.go:41", after := #[{ on := 5, ground := Go.Ground.data }], guard := none }) (v := ?_) rfl (by kernel_rfl) (by kernel_rfl) (by kernel_rfl) (fun _ _ _ h => h) (Or.inl ⟨by rfl, ?_⟩) (by assumption) ?_
  rotate_left
  · intro w hSw
    try dsimp only at hSw
    go_simp
    all_goals with_reducible rfl
  try simp only [Act.put, List.setIfInBounds_toArray, List.set_cons_zero, List.set_cons_succ]
  refine wpAnyH_take (i := 7) (oi := { dst := some 39, op := Go.Op.fieldAddr 81 (Go.Operand.tmp 38) 2, type := 0, pos := "sender.go:41", after := #[{ on := 6, ground := Go.Ground.data }], guard := none }) (v := ?_) rfl (by kernel_rfl) (by kernel_rfl) (by kernel_rfl) (fun _ _ _ h => h) (Or.inl ⟨by rfl, ?_⟩) (by assumption) ?_
  rotate_left
  · intro w hSw
    try dsimp only at hSw
    go_simp
    all_goals with_reducible rfl
  try simp only [Act.put, List.setIfInBounds_toArray, List.set_cons_zero, List.set_cons_succ]
  refine wpAnyH_take (i := 8) (oi := { dst := some 40, op := Go.Op.load 3 (Go.Operand.tmp 39), type := 3, pos := "sender.go:41", after := #[{ on := 7, ground := Go.Ground.data }], guard := none }) (v := ?_) rfl (by kernel_rfl) (by kernel_rfl) (by kernel_rfl) (fun _ _ _ h => h) (Or.inl ⟨by rfl, ?_⟩) (by assumption) ?_
  rotate_left
  · intro w hSw
    try dsimp only at hSw
    go_simp
    all_goals with_reducible rfl
  try simp only [Act.put, List.setIfInBounds_toArray, List.set_cons_zero, List.set_cons_succ]
  refine wpAnyH_take (i := 9) (oi := { dst := some 41, op := Go.Op.move (Go.Operand.tmp 1), type := 9, pos := "sender.go:41", after := #[], guard := none }) (v := ?_) rfl (by kernel_rfl) (by kernel_rfl) (by kernel_rfl) (fun _ _ _ h => h) (Or.inl ⟨by rfl, ?_⟩) (by assumption) ?_
  rotate_left
  · intro w hSw
    try dsimp only at hSw
    go_simp
    all_goals with_reducible rfl
  try simp only [Act.put, List.setIfInBounds_toArray, List.set_cons_zero, List.set_cons_succ]
  refine wpAnyH_ready (rs := [4, 10]) (by kernel_rfl) (by simp) ?_
  refine AllReadyH.cons (o := { dst := some 36, op := Go.Op.load 79 (Go.Operand.tmp 35), type := 79, pos := "sender.go:41", after := #[{ on := 3, ground := Go.Ground.data }], guard := none }) rfl (fun K hK => ?_) ?_
  · go_simp
    refine hK.out _ _ ?_ (fun hH => ?_)
    · exact hS0
    clear hK K
    try simp only [Act.put, List.setIfInBounds_toArray, List.set_cons_zero, List.set_cons_succ]
    refine wpAnyH_ready (rs := [10]) (by kernel_rfl) (by simp) ?_
    refine AllReadyH.cons (o := { dst := some 42, op := Go.Op.call { callee := Go.Callee.value (Go.Operand.func 45), args := #[Go.Operand.tmp 41], argTypes := #[9] }, type := 9, pos := "sender.go:41", after := #[{ on := 9, ground := Go.Ground.data }], guard := none }) rfl (fun K hK => ?_) ?_
    · go_simp
      refine (clone_any x (by omega) _).mono ?_
      rintro e w3 ⟨rfl, hb⟩
      obtain ⟨a', c', w5, hrun, HPR, HGR, HNW, e3, g3, e2, e33, e43, e52, e42, e5⟩ := off_app x 79 H.out HS1.out hb rfl
      have HB := Lib.hid hb
      clear hb
      go_wp2_with fail
      refine hK.out _ _ ?_ (fun hH => ?_)
      · exact e2
      clear hK K
      try simp only [Act.put, List.setIfInBounds_toArray, List.set_cons_zero, List.set_cons_succ]
      refine wpAnyH_take (i := 11) (oi := { dst := some 43, op := Go.Op.build 84 #[(0, Go.Operand.tmp 40), (1, Go.Operand.tmp 42)], type := 84, pos := "sender.go:41", after := #[{ on := 8, ground := Go.Ground.data }, { on := 10, ground := Go.Ground.data }], guard := none }) (v := ?_) rfl (by kernel_rfl) (by kernel_rfl) (by kernel_rfl) (fun _ _ _ h => h) (Or.inl ⟨by rfl, ?_⟩) (by assumption) ?_
      rotate_left
      · intro w hSw
        try dsimp only at hSw
        go_simp
        all_goals with_reducible rfl
      try simp only [Act.put, List.setIfInBounds_toArray, List.set_cons_zero, List.set_cons_succ]
      refine wpAnyH_ready (rs := [12]) (by kernel_rfl) (by simp) ?_
      refine AllReadyH.cons (o := { dst := some 44, op := Go.Op.buildSlice 79 1 #[(0, Go.Operand.tmp 43)], type := 79, pos := "sender.go:41", after := #[{ on := 11, ground := Go.Ground.data }], guard := none }) rfl (fun K hK => ?_) ?_
      · go_simp
        refine hK.out _ _ ?_ (fun hH => ?_)
        · exact e42
        clear hK K
        try simp only [Act.put, List.setIfInBounds_toArray, List.set_cons_zero, List.set_cons_succ]
        refine wpAnyH_ready (rs := [13]) (by kernel_rfl) (by simp) ?_
        refine AllReadyH.cons (o := { dst := some 45, op := Go.Op.call { callee := Go.Callee.builtin Go.Builtin.append, args := #[Go.Operand.tmp 36, Go.Operand.tmp 44], argTypes := #[79, 79] }, type := 79, pos := "sender.go:41", after := #[{ on := 4, ground := Go.Ground.data }, { on := 12, ground := Go.Ground.data }, { on := 10, ground := Go.Ground.chain }], guard := none }) rfl (fun K hK => ?_) ?_
        · refine step_append_run (by rfl) (.tmp 36) (.tmp 44) 79 rfl _ _ _ rfl rfl hrun ?_
          refine hK.out _ _ ?_ (fun hH => ?_)
          · exact e5
          clear hK K
          try simp only [Act.put, List.setIfInBounds_toArray, List.set_cons_zero, List.set_cons_succ]
          refine wpAnyH_take (i := 14) (oi := { dst := some 46, op := Go.Op.nilCheck (Go.Operand.tmp 32), type := 0, pos := "sender.go:41", after := #[{ on := 0, ground := Go.Ground.data }, { on := 0, ground := Go.Ground.phase }, { on := 1, ground := Go.Ground.phase }, { on := 2, ground := Go.Ground.phase }, { on := 3, ground := Go.Ground.phase }, { on := 4, ground := Go.Ground.phase }, { on := 5, ground := Go.Ground.phase }, { on := 6, ground := Go.Ground.phase }, { on := 7, ground := Go.Ground.phase }, { on := 8, ground := Go.Ground.phase }, { on := 9, ground := Go.Ground.phase }, { on := 10, ground := Go.Ground.phase }, { on := 11, ground := Go.Ground.phase }, { on := 12, ground := Go.Ground.phase }, { on := 13, ground := Go.Ground.phase }], guard := none }) (v := ?_) rfl (by kernel_rfl) (by kernel_rfl) (by kernel_rfl) (fun _ _ _ h => h) (Or.inl ⟨by rfl, ?_⟩) (by assumption) ?_
          rotate_left
          · intro w hSw
            try dsimp only at hSw
            go_simp
            all_goals with_reducible rfl
          try simp only [Act.put, List.setIfInBounds_toArray, List.set_cons_zero, List.set_cons_succ]
          refine wpAnyH_take (i := 15) (oi := { dst := some 47, op := Go.Op.fieldAddr 81 (Go.Operand.tmp 46) 3, type := 0, pos := "sender.go:41", after := #[{ on := 14, ground := Go.Ground.data }, { on := 0, ground := Go.Ground.phase }, { on := 1, ground := Go.Ground.phase }, { on := 2, ground := Go.Ground.phase }, { on := 3, ground := Go.Ground.phase }, { on := 4, ground := Go.Ground.phase }, { on := 5, ground := Go.Ground.phase }, { on := 6, ground := Go.Ground.phase }, { on := 7, ground := Go.Ground.phase }, { on := 8, ground := Go.Ground.phase }, { on := 9, ground := Go.Ground.phase }, { on := 10, ground := Go.Ground.phase }, { on := 11, ground := Go.Ground.phase }, { on := 12, ground := Go.Ground.phase }, { on := 13, ground := Go.Ground.phase }], guard := none }) (v := ?_) rfl (by kernel_rfl) (by kernel_rfl) (by kernel_rfl) (fun _ _ _ h => h) (Or.inl ⟨by rfl, ?_⟩) (by assumption) ?_
          rotate_left
          · intro w hSw
            try dsimp only at hSw
            go_simp
            all_goals with_reducible rfl
          try simp only [Act.put, List.setIfInBounds_toArray, List.set_cons_zero, List.set_cons_succ]
          refine wpAnyH_ready (rs := [16]) (by kernel_rfl) (by simp) ?_
          refine AllReadyH.cons (o := { dst := none, op := Go.Op.store 79 (Go.Operand.tmp 47) (Go.Operand.tmp 45), type := 0, pos := "sender.go:41", after := #[{ on := 15, ground := Go.Ground.data }, { on := 13, ground := Go.Ground.data }, { on := 13, ground := Go.Ground.chain }, { on := 0, ground := Go.Ground.phase }, { on := 1, ground := Go.Ground.phase }, { on := 2, ground := Go.Ground.phase }, { on := 3, ground := Go.Ground.phase }, { on := 4, ground := Go.Ground.phase }, { on := 5, ground := Go.Ground.phase }, { on := 6, ground := Go.Ground.phase }, { on := 7, ground := Go.Ground.phase }, { on := 8, ground := Go.Ground.phase }, { on := 9, ground := Go.Ground.phase }, { on := 10, ground := Go.Ground.phase }, { on := 11, ground := Go.Ground.phase }, { on := 12, ground := Go.Ground.phase }, { on := 13, ground := Go.Ground.phase }], guard := none }) rfl (fun K hK => ?_) ?_
          · go_simp
            refine hK.out _ _ ?_ (fun hH => ?_)
            · exact e52
            clear hK K
            try simp only [Act.put, List.setIfInBounds_toArray, List.set_cons_zero, List.set_cons_succ]
            refine wpAnyH_done (by kernel_rfl) ?_ _
            go_wp2
            go_ret2
            exact ⟨rfl, _, off_fin hx H.out H1.out H2.out HS1.out HB.out rfl rfl rfl rfl HPR.out HGR.out HNW.out⟩
          exact AllReadyH.nil
        exact AllReadyH.nil
      exact AllReadyH.nil
    exact AllReadyH.nil
  refine AllReadyH.cons (o := { dst := some 42, op := Go.Op.call { callee := Go.Callee.value (Go.Operand.func 45), args := #[Go.Operand.tmp 41], argTypes := #[9] }, type := 9, pos := "sender.go:41", after := #[{ on := 9, ground := Go.Ground.data }], guard := none }) rfl (fun K hK => ?_) ?_
  · go_simp
    refine (clone_any x (by omega) _).mono ?_
    rintro e w3 ⟨rfl, hb⟩
    obtain ⟨a', c', w5, hrun, HPR, HGR, HNW, e3, g3, e2, e33, e43, e52, e42, e5⟩ := off_app x 79 H.out HS1.out hb rfl
    have HB := Lib.hid hb
    clear hb
    go_wp2_with fail
    refine hK.out _ _ ?_ (fun hH => ?_)
    · exact e2
    clear hK K
    try simp only [Act.put, List.setIfInBounds_toArray, List.set_cons_zero, List.set_cons_succ]
    refine wpAnyH_take (i := 11) (oi := { dst := some 43, op := Go.Op.build 84 #[(0, Go.Operand.tmp 40), (1, Go.Operand.tmp 42)], type := 84, pos := "sender.go:41", after := #[{ on := 8, ground := Go.Ground.data }, { on := 10, ground := Go.Ground.data }], guard := none }) (v := ?_) rfl (by kernel_rfl) (by kernel_rfl) (by kernel_rfl) (fun _ _ _ h => h) (Or.inl ⟨by rfl, ?_⟩) (by assumption) ?_
    rotate_left
    · intro w hSw
      try dsimp only at hSw
      go_simp
      all_goals with_reducible rfl
    try simp only [Act.put, List.setIfInBounds_toArray, List.set_cons_zero, List.set_cons_succ]
    refine wpAnyH_ready (rs := [4, 12]) (by kernel_rfl) (by simp) ?_
    refine AllReadyH.cons (o := { dst := some 36, op := Go.Op.load 79 (Go.Operand.tmp 35), type := 79, pos := "sender.go:41", after := #[{ on := 3, ground := Go.Ground.data }], guard := none }) rfl (fun K hK => ?_) ?_
    · go_simp
      refine hK.out _ _ ?_ (fun hH => ?_)
      · exact e2
      clear hK K
      try simp only [Act.put, List.setIfInBounds_toArray, List.set_cons_zero, List.set_cons_succ]
      refine wpAnyH_ready (rs := [12]) (by kernel_rfl) (by simp) ?_
      refine AllReadyH.cons (o := { dst := some 44, op := Go.Op.buildSlice 79 1 #[(0, Go.Operand.tmp 43)], type := 79, pos := "sender.go:41", after := #[{ on := 11, ground := Go.Ground.data }], guard := none }) rfl (fun K hK => ?_) ?_
      · go_simp
        refine hK.out _ _ ?_ (fun hH => ?_)
        · exact e42
        clear hK K
        try simp only [Act.put, List.setIfInBounds_toArray, List.set_cons_zero, List.set_cons_succ]
        refine wpAnyH_ready (rs := [13]) (by kernel_rfl) (by simp) ?_
        refine AllReadyH.cons (o := { dst := some 45, op := Go.Op.call { callee := Go.Callee.builtin Go.Builtin.append, args := #[Go.Operand.tmp 36, Go.Operand.tmp 44], argTypes := #[79, 79] }, type := 79, pos := "sender.go:41", after := #[{ on := 4, ground := Go.Ground.data }, { on := 12, ground := Go.Ground.data }, { on := 10, ground := Go.Ground.chain }], guard := none }) rfl (fun K hK => ?_) ?_
        · refine step_append_run (by rfl) (.tmp 36) (.tmp 44) 79 rfl _ _ _ rfl rfl hrun ?_
          refine hK.out _ _ ?_ (fun hH => ?_)
          · exact e5
          clear hK K
          try simp only [Act.put, List.setIfInBounds_toArray, List.set_cons_zero, List.set_cons_succ]
          refine wpAnyH_take (i := 14) (oi := { dst := some 46, op := Go.Op.nilCheck (Go.Operand.tmp 32), type := 0, pos := "sender.go:41", after := #[{ on := 0, ground := Go.Ground.data }, { on := 0, ground := Go.Ground.phase }, { on := 1, ground := Go.Ground.phase }, { on := 2, ground := Go.Ground.phase }, { on := 3, ground := Go.Ground.phase }, { on := 4, ground := Go.Ground.phase }, { on := 5, ground := Go.Ground.phase }, { on := 6, ground := Go.Ground.phase }, { on := 7, ground := Go.Ground.phase }, { on := 8, ground := Go.Ground.phase }, { on := 9, ground := Go.Ground.phase }, { on := 10, ground := Go.Ground.phase }, { on := 11, ground := Go.Ground.phase }, { on := 12, ground := Go.Ground.phase }, { on := 13, ground := Go.Ground.phase }], guard := none }) (v := ?_) rfl (by kernel_rfl) (by kernel_rfl) (by kernel_rfl) (fun _ _ _ h => h) (Or.inl ⟨by rfl, ?_⟩) (by assumption) ?_
          rotate_left
          · intro w hSw
            try dsimp only at hSw
            go_simp
            all_goals with_reducible rfl
          try simp only [Act.put, List.setIfInBounds_toArray, List.set_cons_zero, List.set_cons_succ]
          refine wpAnyH_take (i := 15) (oi := { dst := some 47, op := Go.Op.fieldAddr 81 (Go.Operand.tmp 46) 3, type := 0, pos := "sender.go:41", after := #[{ on := 14, ground := Go.Ground.data }, { on := 0, ground := Go.Ground.phase }, { on := 1, ground := Go.Ground.phase }, { on := 2, ground := Go.Ground.phase }, { on := 3, ground := Go.Ground.phase }, { on := 4, ground := Go.Ground.phase }, { on := 5, ground := Go.Ground.phase }, { on := 6, ground := Go.Ground.phase }, { on := 7, ground := Go.Ground.phase }, { on := 8, ground := Go.Ground.phase }, { on := 9, ground := Go.Ground.phase }, { on := 10, ground := Go.Ground.phase }, { on := 11, ground := Go.Ground.phase }, { on := 12, ground := Go.Ground.phase }, { on := 13, ground := Go.Ground.phase }], guard := none }) (v := ?_) rfl (by kernel_rfl) (by kernel_rfl) (by kernel_rfl) (fun _ _ _ h => h) (Or.inl ⟨by rfl, ?_⟩) (by assumption) ?_
          rotate_left
          · intro w hSw
            try dsimp only at hSw
            go_simp
            all_goals with_reducible rfl
          try simp only [Act.put, List.setIfInBounds_toArray, List.set_cons_zero, List.set_cons_succ]
          refine wpAnyH_ready (rs := [16]) (by kernel_rfl) (by simp) ?_
          refine AllReadyH.cons (o := { dst := none, op := Go.Op.store 79 (Go.Operand.tmp 47) (Go.Operand.tmp 45), type := 0, pos := "sender.go:41", after := #[{ on := 15, ground := Go.Ground.data }, { on := 13, ground := Go.Ground.data }, { on := 13, ground := Go.Ground.chain }, { on := 0, ground := Go.Ground.phase }, { on := 1, ground := Go.Ground.phase }, { on := 2, ground := Go.Ground.phase }, { on := 3, ground := Go.Ground.phase }, { on := 4, ground := Go.Ground.phase }, { on := 5, ground := Go.Ground.phase }, { on := 6, ground := Go.Ground.phase }, { on := 7, ground := Go.Ground.phase }, { on := 8, ground := Go.Ground.phase }, { on := 9, ground := Go.Ground.phase }, { on := 10, ground := Go.Ground.phase }, { on := 11, ground := Go.Ground.phase }, { on := 12, ground := Go.Ground.phase }, { on := 13, ground := Go.Ground.phase }], guard := none }) rfl (fun K hK => ?_) ?_
          · go_simp
            refine hK.out _ _ ?_ (fun hH => ?_)
            · exact e52
            clear hK K
            try simp only [Act.put, List.setIfInBounds_toArray, List.set_cons_zero, List.set_cons_succ]
            refine wpAnyH_done (by kernel_rfl) ?_ _
            go_wp2
            go_ret2
            exact ⟨rfl, _, off_fin hx H.out H1.out H2.out HS1.out HB.out rfl rfl rfl rfl HPR.out HGR.out HNW.out⟩
          exact AllReadyH.nil
        exact AllReadyH.nil
      exact AllReadyH.nil
    refine AllReadyH.cons (o := { dst := some 44, op := Go.Op.buildSlice 79 1 #[(0, Go.Operand.tmp 43)], type := 79, pos := "sender.go:41", after := #[{ on := 11, ground := Go.Ground.data }], guard := none }) rfl (fun K hK => ?_) ?_
    · go_simp
      refine hK.out _ _ ?_ (fun hH => ?_)
      · exact e42
      clear hK K
      try simp only [Act.put, List.setIfInBounds_toArray, List.set_cons_zero, List.set_cons_succ]
      refine wpAnyH_ready (rs := [4]) (by kernel_rfl) (by simp) ?_
      refine AllReadyH.cons (o := { dst := some 36, op := Go.Op.load 79 (Go.Operand.tmp 35), type := 79, pos := "sender.go:41", after := #[{ on := 3, ground := Go.Ground.data }], guard := none }) rfl (fun K hK => ?_) ?_
      · go_simp
        refine hK.out _ _ ?_ (fun hH => ?_)
        · exact e42
        clear hK K
        try simp only [Act.put, List.setIfInBounds_toArray, List.set_cons_zero, List.set_cons_succ]
        refine wpAnyH_ready (rs := [13]) (by kernel_rfl) (by simp) ?_
        refine AllReadyH.cons (o := { dst := some 45, op := Go.Op.call { callee := Go.Callee.builtin Go.Builtin.append, args := #[Go.Operand.tmp 36, Go.Operand.tmp 44], argTypes := #[79, 79] }, type := 79, pos := "sender.go:41", after := #[{ on := 4, ground := Go.Ground.data }, { on := 12, ground := Go.Ground.data }, { on := 10, ground := Go.Ground.chain }], guard := none }) rfl (fun K hK => ?_) ?_
        · refine step_append_run (by rfl) (.tmp 36) (.tmp 44) 79 rfl _ _ _ rfl rfl hrun ?_
          refine hK.out _ _ ?_ (fun hH => ?_)
          · exact e5
          clear hK K
          try simp only [Act.put, List.setIfInBounds_toArray, List.set_cons_zero, List.set_cons_succ]
          refine wpAnyH_take (i := 14) (oi := { dst := some 46, op := Go.Op.nilCheck (Go.Operand.tmp 32), type := 0, pos := "sender.go:41", after := #[{ on := 0, ground := Go.Ground.data }, { on := 0, ground := Go.Ground.phase }, { on := 1, ground := Go.Ground.phase }, { on := 2, ground := Go.Ground.phase }, { on := 3, ground := Go.Ground.phase }, { on := 4, ground := Go.Ground.phase }, { on := 5, ground := Go.Ground.phase }, { on := 6, ground := Go.Ground.phase }, { on := 7, ground := Go.Ground.phase }, { on := 8, ground := Go.Ground.phase }, { on := 9, ground := Go.Ground.phase }, { on := 10, ground := Go.Ground.phase }, { on := 11, ground := Go.Ground.phase }, { on := 12, ground := Go.Ground.phase }, { on := 13, ground := Go.Ground.phase }], guard := none }) (v := ?_) rfl (by kernel_rfl) (by kernel_rfl) (by kernel_rfl) (fun _ _ _ h => h) (Or.inl ⟨by rfl, ?_⟩) (by assumption) ?_
          rotate_left
          · intro w hSw
            try dsimp only at hSw
            go_simp
            all_goals with_reducible rfl
          try simp only [Act.put, List.setIfInBounds_toArray, List.set_cons_zero, List.set_cons_succ]
          refine wpAnyH_take (i := 15) (oi := { dst := some 47, op := Go.Op.fieldAddr 81 (Go.Operand.tmp 46) 3, type := 0, pos := "sender.go:41", after := #[{ on := 14, ground := Go.Ground.data }, { on := 0, ground := Go.Ground.phase }, { on := 1, ground := Go.Ground.phase }, { on := 2, ground := Go.Ground.phase }, { on := 3, ground := Go.Ground.phase }, { on := 4, ground := Go.Ground.phase }, { on := 5, ground := Go.Ground.phase }, { on := 6, ground := Go.Ground.phase }, { on := 7, ground := Go.Ground.phase }, { on := 8, ground := Go.Ground.phase }, { on := 9, ground := Go.Ground.phase }, { on := 10, ground := Go.Ground.phase }, { on := 11, ground := Go.Ground.phase }, { on := 12, ground := Go.Ground.phase }, { on := 13, ground := Go.Ground.phase }], guard := none }) (v := ?_) rfl (by kernel_rfl) (by kernel_rfl) (by kernel_rfl) (fun _ _ _ h => h) (Or.inl ⟨by rfl, ?_⟩) (by assumption) ?_
          rotate_left
          · intro w hSw
            try dsimp only at hSw
            go_simp
            all_goals with_reducible rfl
          try simp only [Act.put, List.setIfInBounds_toArray, List.set_cons_zero, List.set_cons_succ]
          refine wpAnyH_ready (rs := [16]) (by kernel_rfl) (by simp) ?_
          refine AllReadyH.cons (o := { dst := none, op := Go.Op.store 79 (Go.Operand.tmp 47) (Go.Operand.tmp 45), type := 0, pos := "sender.go:41", after := #[{ on := 15, ground := Go.Ground.data }, { on := 13, ground := Go.Ground.data }, { on := 13, ground := Go.Ground.chain }, { on := 0, ground := Go.Ground.phase }, { on := 1, ground := Go.Ground.phase }, { on := 2, ground := Go.Ground.phase }, { on := 3, ground := Go.Ground.phase }, { on := 4, ground := Go.Ground.phase }, { on := 5, ground := Go.Ground.phase }, { on := 6, ground := Go.Ground.phase }, { on := 7, ground := Go.Ground.phase }, { on := 8, ground := Go.Ground.phase }, { on := 9, ground := Go.Ground.phase }, { on := 10, ground := Go.Ground.phase }, { on := 11, ground := Go.Ground.phase }, { on := 12, ground := Go.Ground.phase }, { on := 13, ground := Go.Ground.phase }], guard := none }) rfl (fun K hK => ?_) ?_
          · go_simp
            refine hK.out _ _ ?_ (fun hH => ?_)
            · exact e52
            clear hK K
            try simp only [Act.put, List.setIfInBounds_toArray, List.set_cons_zero, List.set_cons_succ]
            refine wpAnyH_done (by kernel_rfl) ?_ _
            go_wp2
            go_ret2
            exact ⟨rfl, _, off_fin hx H.out H1.out H2.out HS1.out HB.out rfl rfl rfl rfl HPR.out HGR.out HNW.out⟩
          exact AllReadyH.nil
        exact AllReadyH.nil
      exact AllReadyH.nil
    exact AllReadyH.nil
  exact AllReadyH.nil
end
end Go.Proofs.Ytclobdejlihblaa
