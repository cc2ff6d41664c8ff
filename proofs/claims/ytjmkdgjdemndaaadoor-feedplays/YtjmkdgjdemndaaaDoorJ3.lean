/- An end's Hear. -/
import Derived.Test.YtjmkdgjdemndaaaDoorL5
namespace Go.Proofs.YtjmkdgjdemndaaaDoor.K
open Go Go.RowKit
set_option maxRecDepth 20000
/-- A frame, as it is handed over; as it lies in a block of its own. -/
def fv (f : Fra) : Value := .agg #[.int .i64 f.1, .int .i64 f.2.1, .int .i64 f.2.2.1, .string f.2.2.2]
def Fb (w : World) (H : Nat) (f : Fra) : Prop := w.heap[H]? = some (.cells #[.int .i64 f.1, .int .i64 f.2.1, .int .i64 f.2.2.1, .string f.2.2.2] 40 (0, 0))
/-- What an end makes of a frame. -/
def En.take (E : En) (f : Fra) : En := { E with k := E.k + ackM E.k E.ds.length f.2.2.1, ds := E.ds.drop (ackM E.k E.ds.length f.2.2.1), ps := Rcv.hearD (Rcv.roomOf E.ra) E.q E.ps f.2.1 f.2.2.2 }
def En.anew (E : En) (f : Fra) : Bool := decide (E.ep < f.1) && E.pas
def En.hear (E : En) (f : Fra) : En := if f.1 < E.ep ∨ (E.ep < f.1 ∧ E.pas = false) then E else if E.ep < f.1 then (E.fresh f.1).take f else E.take f
theorem hearD_zero (room : Int) (q : Nat) (ps : List ByteArray) (d : ByteArray) : Rcv.hearD room q ps 0 d = ps := by
  unfold Rcv.hearD
  rw [if_neg]
  rintro ⟨h, _⟩
  omega
theorem take_zero (E : En) (e a : Int) (d : ByteArray) : E.take (e, 0, a, d) = { E with k := E.k + ackM E.k E.ds.length a, ds := E.ds.drop (ackM E.k E.ds.length a) } := by
  unfold En.take
  simp only [hearD_zero]
section
variable {B : Nat} {w w' : World} {b bs : Nat} {v : Value} {br : Nat} {L : List ByteArray} {E : En}
/-- A block of another type is none of an end's. -/
theorem Lx.other (h : Lx B w b bs v br L E) {X : Nat} {cur : Array Value} {t : TypeId} {fr : Nat × Nat} (hX : w.heap[X]? = some (.cells cur t fr)) (h1 : t ≠ 73) (h2 : t ≠ 125) (h3 : t ≠ 96) (h4 : t ≠ 128) : ¬ ft b bs v br X := fun hf => by
  obtain ⟨cur', t', fr', hc, ht⟩ := h.fty X hf
  rw [hX] at hc
  injection hc with hc
  injection hc with _ hc _
  subst hc
  rcases ht with e | e | e | e
  · exact h1 e
  · exact h2 e
  · exact h3 e
  · exact h4 e
end
set_option maxHeartbeats 2000000 in
theorem hear_old {B b bs br : Nat} {v : Value} {L : List ByteArray} {E : En} {f : Fra} (hx : f.2.2.2.size ≤ 1000) (hq : E.q + E.ps.length ≤ 1000000) (hcase : f.1 < E.ep) (w : World) (h : Lx B w b bs v br L E) :
    Calls Tryd.prog 16 #[.pointer (some ⟨b, 0, none⟩), fv f] w fun e w' => e = .returned (.bool (E.anew f)) ∧ ∃ bs' v' br' L', Lx B w' b bs' v' br' L' (E.hear f) ∧ Lf w w' (ft b bs v br) (ft b bs' v' br') := by
  have e1 : E.anew f = false := by unfold En.anew; rw [decide_eq_false (by omega)]; rfl
  have e2 : E.hear f = E := by unfold En.hear; rw [if_pos (.inl hcase)]
  rw [e1, e2]
  unfold fv
  obtain ⟨ep, wa, ra, pas, k, ds, q, ps⟩ := E
  obtain ⟨ee, s, a, d⟩ := f
  simp only at hx hq hcase
  have HQ : Hid (q + ps.length ≤ 1000000) := Lib.hid hq
  have c0 := (h.next (Joins.below_alloc1 w (.cells #[.int .i64 ee, .int .i64 s, .int .i64 a, .string d] 40))).blk.c0
  have c3 := (h.next (Joins.below_alloc1 w (.cells #[.int .i64 ee, .int .i64 s, .int .i64 a, .string d] 40))).blk.c3
  have H0 := Lib.hid h
  clear h hq
  go_enter Tryd.func16, Tryd.ntmps16
  have k1 : ¬ ep < ee := by omega
  go_wp2_with fail
  go_quiet (fail)
  revert nq
  intro n1
  go_wp2_with fail
  go_quiet (fail)
  go_wp2
  go_ret
  exact ⟨rfl, bs, v, br, L, (H0.out.next (Joins.below_alloc1 w _)).asit rfl, (Lf.ofBelow (Joins.below_alloc1 w _)).trans (.asit rfl rfl rfl rfl)⟩
set_option maxHeartbeats 2000000 in
theorem hear_not {B b bs br : Nat} {v : Value} {L : List ByteArray} {E : En} {f : Fra} (hx : f.2.2.2.size ≤ 1000) (hq : E.q + E.ps.length ≤ 1000000) (hcase : E.ep < f.1 ∧ E.pas = false) (w : World) (h : Lx B w b bs v br L E) :
    Calls Tryd.prog 16 #[.pointer (some ⟨b, 0, none⟩), fv f] w fun e w' => e = .returned (.bool (E.anew f)) ∧ ∃ bs' v' br' L', Lx B w' b bs' v' br' L' (E.hear f) ∧ Lf w w' (ft b bs v br) (ft b bs' v' br') := by
  have e1 : E.anew f = false := by unfold En.anew; rw [hcase.2, Bool.and_false]
  have e2 : E.hear f = E := by unfold En.hear; rw [if_pos (.inr hcase)]
  rw [e1, e2]
  unfold fv
  obtain ⟨ep, wa, ra, pas, k, ds, q, ps⟩ := E
  obtain ⟨ee, s, a, d⟩ := f
  simp only at hx hq hcase
  have HQ : Hid (q + ps.length ≤ 1000000) := Lib.hid hq
  have c0 := (h.next (Joins.below_alloc1 w (.cells #[.int .i64 ee, .int .i64 s, .int .i64 a, .string d] 40))).blk.c0
  have c3 := (h.next (Joins.below_alloc1 w (.cells #[.int .i64 ee, .int .i64 s, .int .i64 a, .string d] 40))).blk.c3
  have H0 := Lib.hid h
  clear h hq
  go_enter Tryd.func16, Tryd.ntmps16
  obtain ⟨k0, rfl⟩ := hcase
  have k1 : ¬ ee < ep := by omega
  go_wp2_with fail
  go_quiet (fail)
  revert nq
  intro n1
  go_wp2_with fail
  go_quiet (fail)
  go_wp2
  go_ret
  exact ⟨rfl, bs, v, br, L, (H0.out.next (Joins.below_alloc1 w _)).asit rfl, (Lf.ofBelow (Joins.below_alloc1 w _)).trans (.asit rfl rfl rfl rfl)⟩
set_option maxHeartbeats 4000000 in
theorem hear_same {B b bs br : Nat} {v : Value} {L : List ByteArray} {E : En} {f : Fra} (hx : f.2.2.2.size ≤ 1000) (hq : E.q + E.ps.length ≤ 1000000) (hcase : f.1 = E.ep) (w : World) (h : Lx B w b bs v br L E) :
    Calls Tryd.prog 16 #[.pointer (some ⟨b, 0, none⟩), fv f] w fun e w' => e = .returned (.bool (E.anew f)) ∧ ∃ bs' v' br' L', Lx B w' b bs' v' br' L' (E.hear f) ∧ Lf w w' (ft b bs v br) (ft b bs' v' br') := by
  have e1 : E.anew f = false := by unfold En.anew; rw [decide_eq_false (by omega)]; rfl
  have e2 : E.hear f = E.take f := by unfold En.hear; rw [if_neg (by omega), if_neg (by omega)]
  rw [e1, e2]
  unfold fv
  obtain ⟨ep, wa, ra, pas, k, ds, q, ps⟩ := E
  obtain ⟨ee, s, a, d⟩ := f
  simp only at hx hq hcase
  have HQ : Hid (q + ps.length ≤ 1000000) := Lib.hid hq
  have c0 := (h.next (Joins.below_alloc1 w (.cells #[.int .i64 ee, .int .i64 s, .int .i64 a, .string d] 40))).blk.c0
  have c3 := (h.next (Joins.below_alloc1 w (.cells #[.int .i64 ee, .int .i64 s, .int .i64 a, .string d] 40))).blk.c3
  have H0 := Lib.hid h
  clear h hq
  go_enter Tryd.func16, Tryd.ntmps16
  obtain rfl : ee = ep := hcase
  have k1 : ¬ ee < ee := by omega
  go_wp2_with fail
  go_quiet (fail)
  revert nq
  intro n1
  go_wp2_with fail
  go_quiet (fail)
  obtain ⟨W, hW⟩ : ∃ W, ((w.alloc (.cells #[.int .i64 ee, .int .i64 s, .int .i64 a, .string d] 40)).drewN n1).drewN nq = W := ⟨_, rfl⟩
  obtain ⟨bs1, hbs1⟩ : ∃ x, bs = x := ⟨_, rfl⟩
  obtain ⟨br1, hbr1⟩ : ∃ x, br = x := ⟨_, rfl⟩
  have HX : Hid (Lx B W b bs1 v br1 L ⟨ee, wa, ra, pas, k, ds, q, ps⟩) := Lib.hid (by subst hW hbs1 hbr1; exact (H0.out.next (Joins.below_alloc1 w _)).asit rfl)
  have HB : Hid (Fb W w.heap.size (ee, s, a, d)) := Lib.hid (by subst hW; exact heap_alloc_new w _)
  have HL : Hid (Lf w W (ft b bs v br) (ft b bs1 v br1)) := Lib.hid (by subst hW hbs1 hbr1; exact (Lf.ofBelow (Joins.below_alloc1 w _)).trans (.asit rfl rfl rfl rfl))
  rw [hW]
  generalize w.heap.size = H at *
  clear c0 c3 H0 hW hbs1 hbr1 k1
  have z4 := HX.out.blk.c4
  have z2 : (W).cell? ⟨H, 2, none⟩ = some (.int .i64 a) := cell_at HB.out 2 _ rfl
  go_wp2_with fail
  refine wp_region_held_drew (S := fun w' => w'.cell? ⟨b, 4, none⟩ = some (.pointer (some ⟨bs1, 0, none⟩)) ∧ w'.cell? ⟨H, 2, none⟩ = some (.int .i64 a)) (by kernel_rfl) ?_ (fun hH => ?_)
  · exact ⟨z4, z2⟩
  refine wpAnyH_take (i := 0) (oi := { dst := some 35, op := Go.Op.move (Go.Operand.tmp 0), type := 26, pos := "link.go:66", after := #[], guard := none }) (v := ?_) rfl (by kernel_rfl) (by kernel_rfl) (by kernel_rfl) (fun _ _ _ h => h) (Or.inl ⟨by rfl, ?_⟩) (by assumption) ?_
  rotate_left
  · intro w hSw
    try dsimp only at hSw
    obtain ⟨q1, q2⟩ := hSw
    go_simp
    all_goals with_reducible rfl
  try simp only [Act.put, List.setIfInBounds_toArray, List.set_cons_zero, List.set_cons_succ]
  refine wpAnyH_take (i := 1) (oi := { dst := some 36, op := Go.Op.nilCheck (Go.Operand.tmp 35), type := 0, pos := "link.go:66", after := #[{ on := 0, ground := Go.Ground.data }], guard := none }) (v := ?_) rfl (by kernel_rfl) (by kernel_rfl) (by kernel_rfl) (fun _ _ _ h => h) (Or.inl ⟨by rfl, ?_⟩) (by assumption) ?_
  rotate_left
  · intro w hSw
    try dsimp only at hSw
    obtain ⟨q1, q2⟩ := hSw
    go_simp
    all_goals with_reducible rfl
  try simp only [Act.put, List.setIfInBounds_toArray, List.set_cons_zero, List.set_cons_succ]
  refine wpAnyH_take (i := 2) (oi := { dst := some 37, op := Go.Op.fieldAddr 73 (Go.Operand.tmp 36) 4, type := 0, pos := "link.go:66", after := #[{ on := 1, ground := Go.Ground.data }], guard := none }) (v := ?_) rfl (by kernel_rfl) (by kernel_rfl) (by kernel_rfl) (fun _ _ _ h => h) (Or.inl ⟨by rfl, ?_⟩) (by assumption) ?_
  rotate_left
  · intro w hSw
    try dsimp only at hSw
    obtain ⟨q1, q2⟩ := hSw
    go_simp
    all_goals with_reducible rfl
  try simp only [Act.put, List.setIfInBounds_toArray, List.set_cons_zero, List.set_cons_succ]
  refine wpAnyH_take (i := 3) (oi := { dst := some 38, op := Go.Op.load 70 (Go.Operand.tmp 37), type := 70, pos := "link.go:66", after := #[{ on := 2, ground := Go.Ground.data }], guard := none }) (v := ?_) rfl (by kernel_rfl) (by kernel_rfl) (by kernel_rfl) (fun _ _ _ h => h) (Or.inl ⟨by rfl, ?_⟩) (by assumption) ?_
  rotate_left
  · intro w hSw
    try dsimp only at hSw
    obtain ⟨q1, q2⟩ := hSw
    go_simp
    all_goals with_reducible rfl
  try simp only [Act.put, List.setIfInBounds_toArray, List.set_cons_zero, List.set_cons_succ]
  refine wpAnyH_take (i := 4) (oi := { dst := some 39, op := Go.Op.fieldAddr 40 (Go.Operand.tmp 3) 2, type := 0, pos := "link.go:66", after := #[], guard := none }) (v := ?_) rfl (by kernel_rfl) (by kernel_rfl) (by kernel_rfl) (fun _ _ _ h => h) (Or.inl ⟨by rfl, ?_⟩) (by assumption) ?_
  rotate_left
  · intro w hSw
    try dsimp only at hSw
    obtain ⟨q1, q2⟩ := hSw
    go_simp
    all_goals with_reducible rfl
  try simp only [Act.put, List.setIfInBounds_toArray, List.set_cons_zero, List.set_cons_succ]
  refine wpAnyH_take (i := 5) (oi := { dst := some 40, op := Go.Op.load 3 (Go.Operand.tmp 39), type := 3, pos := "link.go:66", after := #[{ on := 4, ground := Go.Ground.data }], guard := none }) (v := ?_) rfl (by kernel_rfl) (by kernel_rfl) (by kernel_rfl) (fun _ _ _ h => h) (Or.inl ⟨by rfl, ?_⟩) (by assumption) ?_
  rotate_left
  · intro w hSw
    try dsimp only at hSw
    obtain ⟨q1, q2⟩ := hSw
    go_simp
    all_goals with_reducible rfl
  try simp only [Act.put, List.setIfInBounds_toArray, List.set_cons_zero, List.set_cons_succ]
  refine wpAnyH_ready (rs := [6]) (by kernel_rfl) (by simp) ?_
  refine AllReadyH.cons (o := { dst := some 41, op := Go.Op.call { callee := Go.Callee.value (Go.Operand.func 38), args := #[Go.Operand.tmp 38, Go.Operand.tmp 40], argTypes := #[70, 3] }, type := 3, pos := "link.go:66", after := #[{ on := 3, ground := Go.Ground.data }, { on := 5, ground := Go.Ground.data }], guard := none }) rfl (fun K hK => ?_) ?_
  · go_simp
    have hx6 := HX.out.asit (w' := (W).drew) rfl
    refine (ack_any a _ hx6.sn).mono ?_
    rintro e y1 ⟨rfl, v1, hs, hf, hn⟩
    have hz := hx6.onSn hs hf hn
    have hb1 : y1.heap[H]? = _ := (hz.2.block H (Array.getElem?_eq_some_iff.1 HB.out).1 (hx6.other (show (W).drew.heap[H]? = _ from HB.out) (by decide) (by decide) (by decide) (by decide))).trans HB.out
    have HX1 := Lib.hid hz.1
    have HL1 := Lib.hid (HL.out.trans ((Lf.asit (w := W) (w' := (W).drew) rfl rfl rfl rfl).trans hz.2))
    have HB1 : Hid (Fb y1 H (ee, s, a, d)) := Lib.hid hb1
    have z5 := hz.1.blk.c5
    have z1 : y1.cell? ⟨H, 1, none⟩ = some (.int .i64 s) := cell_at hb1 1 _ rfl
    have z3 : y1.cell? ⟨H, 3, none⟩ = some (.string d) := cell_at hb1 3 _ rfl
    have q4 := hz.1.blk.c4
    have q2 : y1.cell? ⟨H, 2, none⟩ = some (.int .i64 a) := cell_at hb1 2 _ rfl
    clear hs hf hn hz hx6 HX HB HL hb1
    go_wp2_with fail
    refine hK.out _ _ ?_ (fun hH => ?_)
    · exact ⟨q4, q2⟩
    clear hK K
    try simp only [Act.put, List.setIfInBounds_toArray, List.set_cons_zero, List.set_cons_succ]
    refine wpAnyH_done (by kernel_rfl) ?_ _
    clear q4 q2 z4 z2
    by_cases hs0 : s = 0
    · subst hs0
      go_wp2
      go_ret
      exact ⟨rfl, _, _, _, _, by rw [take_zero]; exact HX1.out, HL1.out⟩
    have hs1 : decide (s = 0) = false := decide_eq_false hs0
    go_wp2_with fail
    refine wp_region_held_drew (S := fun w' => w'.cell? ⟨b, 5, none⟩ = some (.pointer (some ⟨br1, 0, none⟩)) ∧ w'.cell? ⟨H, 1, none⟩ = some (.int .i64 s) ∧ w'.cell? ⟨H, 3, none⟩ = some (.string d)) (by kernel_rfl) ?_ (fun hH => ?_)
    · exact ⟨z5, z1, z3⟩
    refine wpAnyH_take (i := 0) (oi := { dst := some 45, op := Go.Op.move (Go.Operand.tmp 0), type := 26, pos := "link.go:68", after := #[], guard := none }) (v := ?_) rfl (by kernel_rfl) (by kernel_rfl) (by kernel_rfl) (fun _ _ _ h => h) (Or.inl ⟨by rfl, ?_⟩) (by assumption) ?_
    rotate_left
    · intro w hSw
      try dsimp only at hSw
      obtain ⟨q1, q2, q3⟩ := hSw
      go_simp
      all_goals with_reducible rfl
    try simp only [Act.put, List.setIfInBounds_toArray, List.set_cons_zero, List.set_cons_succ]
    refine wpAnyH_take (i := 1) (oi := { dst := some 46, op := Go.Op.nilCheck (Go.Operand.tmp 45), type := 0, pos := "link.go:68", after := #[{ on := 0, ground := Go.Ground.data }], guard := none }) (v := ?_) rfl (by kernel_rfl) (by kernel_rfl) (by kernel_rfl) (fun _ _ _ h => h) (Or.inl ⟨by rfl, ?_⟩) (by assumption) ?_
    rotate_left
    · intro w hSw
      try dsimp only at hSw
      obtain ⟨q1, q2, q3⟩ := hSw
      go_simp
      all_goals with_reducible rfl
    try simp only [Act.put, List.setIfInBounds_toArray, List.set_cons_zero, List.set_cons_succ]
    refine wpAnyH_take (i := 2) (oi := { dst := some 47, op := Go.Op.fieldAddr 73 (Go.Operand.tmp 46) 5, type := 0, pos := "link.go:68", after := #[{ on := 1, ground := Go.Ground.data }], guard := none }) (v := ?_) rfl (by kernel_rfl) (by kernel_rfl) (by kernel_rfl) (fun _ _ _ h => h) (Or.inl ⟨by rfl, ?_⟩) (by assumption) ?_
    rotate_left
    · intro w hSw
      try dsimp only at hSw
      obtain ⟨q1, q2, q3⟩ := hSw
      go_simp
      all_goals with_reducible rfl
    try simp only [Act.put, List.setIfInBounds_toArray, List.set_cons_zero, List.set_cons_succ]
    refine wpAnyH_take (i := 3) (oi := { dst := some 48, op := Go.Op.load 71 (Go.Operand.tmp 47), type := 71, pos := "link.go:68", after := #[{ on := 2, ground := Go.Ground.data }], guard := none }) (v := ?_) rfl (by kernel_rfl) (by kernel_rfl) (by kernel_rfl) (fun _ _ _ h => h) (Or.inl ⟨by rfl, ?_⟩) (by assumption) ?_
    rotate_left
    · intro w hSw
      try dsimp only at hSw
      obtain ⟨q1, q2, q3⟩ := hSw
      go_simp
      all_goals with_reducible rfl
    try simp only [Act.put, List.setIfInBounds_toArray, List.set_cons_zero, List.set_cons_succ]
    refine wpAnyH_take (i := 4) (oi := { dst := some 49, op := Go.Op.fieldAddr 40 (Go.Operand.tmp 3) 1, type := 0, pos := "link.go:68", after := #[], guard := none }) (v := ?_) rfl (by kernel_rfl) (by kernel_rfl) (by kernel_rfl) (fun _ _ _ h => h) (Or.inl ⟨by rfl, ?_⟩) (by assumption) ?_
    rotate_left
    · intro w hSw
      try dsimp only at hSw
      obtain ⟨q1, q2, q3⟩ := hSw
      go_simp
      all_goals with_reducible rfl
    try simp only [Act.put, List.setIfInBounds_toArray, List.set_cons_zero, List.set_cons_succ]
    refine wpAnyH_take (i := 5) (oi := { dst := some 50, op := Go.Op.load 3 (Go.Operand.tmp 49), type := 3, pos := "link.go:68", after := #[{ on := 4, ground := Go.Ground.data }], guard := none }) (v := ?_) rfl (by kernel_rfl) (by kernel_rfl) (by kernel_rfl) (fun _ _ _ h => h) (Or.inl ⟨by rfl, ?_⟩) (by assumption) ?_
    rotate_left
    · intro w hSw
      try dsimp only at hSw
      obtain ⟨q1, q2, q3⟩ := hSw
      go_simp
      all_goals with_reducible rfl
    try simp only [Act.put, List.setIfInBounds_toArray, List.set_cons_zero, List.set_cons_succ]
    refine wpAnyH_take (i := 6) (oi := { dst := some 51, op := Go.Op.fieldAddr 40 (Go.Operand.tmp 3) 3, type := 0, pos := "link.go:68", after := #[], guard := none }) (v := ?_) rfl (by kernel_rfl) (by kernel_rfl) (by kernel_rfl) (fun _ _ _ h => h) (Or.inl ⟨by rfl, ?_⟩) (by assumption) ?_
    rotate_left
    · intro w hSw
      try dsimp only at hSw
      obtain ⟨q1, q2, q3⟩ := hSw
      go_simp
      all_goals with_reducible rfl
    try simp only [Act.put, List.setIfInBounds_toArray, List.set_cons_zero, List.set_cons_succ]
    refine wpAnyH_take (i := 7) (oi := { dst := some 52, op := Go.Op.load 9 (Go.Operand.tmp 51), type := 9, pos := "link.go:68", after := #[{ on := 6, ground := Go.Ground.data }], guard := none }) (v := ?_) rfl (by kernel_rfl) (by kernel_rfl) (by kernel_rfl) (fun _ _ _ h => h) (Or.inl ⟨by rfl, ?_⟩) (by assumption) ?_
    rotate_left
    · intro w hSw
      try dsimp only at hSw
      obtain ⟨q1, q2, q3⟩ := hSw
      go_simp
      all_goals with_reducible rfl
    try simp only [Act.put, List.setIfInBounds_toArray, List.set_cons_zero, List.set_cons_succ]
    refine wpAnyH_ready (rs := [8]) (by kernel_rfl) (by simp) ?_
    refine AllReadyH.cons (o := { dst := some 53, op := Go.Op.call { callee := Go.Callee.value (Go.Operand.func 39), args := #[Go.Operand.tmp 48, Go.Operand.tmp 50, Go.Operand.tmp 52], argTypes := #[71, 3, 9] }, type := 4, pos := "link.go:68", after := #[{ on := 3, ground := Go.Ground.data }, { on := 5, ground := Go.Ground.data }, { on := 7, ground := Go.Ground.data }], guard := none }) rfl (fun K hK => ?_) ?_
    · go_simp
      have hx8 := HX1.out.asit (w' := y1.drew) rfl
      refine (Rcv.hear_any s d hx HQ.out _ hx8.rv).mono ?_
      rintro e y2 ⟨rfl, ⟨L2, hr⟩, hg⟩
      have hz := hx8.onRv hr hg
      have hb2 : y2.heap[H]? = _ := (hz.2.block H (Array.getElem?_eq_some_iff.1 HB1.out).1 (hx8.other (show y1.drew.heap[H]? = _ from HB1.out) (by decide) (by decide) (by decide) (by decide))).trans HB1.out
      have HX2 := Lib.hid hz.1
      have HL2 := Lib.hid (HL1.out.trans ((Lf.asit (w := y1) (w' := y1.drew) rfl rfl rfl rfl).trans hz.2))
      have q5 := hz.1.blk.c5
      have q1 : y2.cell? ⟨H, 1, none⟩ = some (.int .i64 s) := cell_at hb2 1 _ rfl
      have q3 : y2.cell? ⟨H, 3, none⟩ = some (.string d) := cell_at hb2 3 _ rfl
      clear hr hg hz hx8 hb2 HX1 HL1 HB1
      go_wp2_with fail
      refine hK.out _ _ ?_ (fun hH => ?_)
      · exact ⟨q5, q1, q3⟩
      clear hK K
      try simp only [Act.put, List.setIfInBounds_toArray, List.set_cons_zero, List.set_cons_succ]
      refine wpAnyH_done (by kernel_rfl) ?_ _
      clear q5 q1 q3 z5 z1 z3
      go_wp2
      go_ret
      exact ⟨rfl, _, _, _, _, HX2.out, HL2.out⟩
    exact AllReadyH.nil
  exact AllReadyH.nil
set_option maxHeartbeats 4000000 in
theorem hear_new {B b bs br : Nat} {v : Value} {L : List ByteArray} {E : En} {f : Fra} (hx : f.2.2.2.size ≤ 1000) (hq : E.q + E.ps.length ≤ 1000000) (hcase : E.ep < f.1 ∧ E.pas = true) (w : World) (h : Lx B w b bs v br L E) :
    Calls Tryd.prog 16 #[.pointer (some ⟨b, 0, none⟩), fv f] w fun e w' => e = .returned (.bool (E.anew f)) ∧ ∃ bs' v' br' L', Lx B w' b bs' v' br' L' (E.hear f) ∧ Lf w w' (ft b bs v br) (ft b bs' v' br') := by
  have e1 : E.anew f = true := by unfold En.anew; rw [decide_eq_true hcase.1, hcase.2]; rfl
  have e2 : E.hear f = (E.fresh f.1).take f := by unfold En.hear; rw [if_neg (by rw [hcase.2]; simp; omega), if_pos hcase.1]
  rw [e1, e2]
  unfold fv En.fresh
  obtain ⟨ep, wa, ra, pas, k, ds, q, ps⟩ := E
  obtain ⟨ee, s, a, d⟩ := f
  simp only at hx hq hcase
  have HQ : Hid (q + ps.length ≤ 1000000) := Lib.hid hq
  have c0 := (h.next (Joins.below_alloc1 w (.cells #[.int .i64 ee, .int .i64 s, .int .i64 a, .string d] 40))).blk.c0
  have c3 := (h.next (Joins.below_alloc1 w (.cells #[.int .i64 ee, .int .i64 s, .int .i64 a, .string d] 40))).blk.c3
  have H0 := Lib.hid h
  clear h hq
  go_enter Tryd.func16, Tryd.ntmps16
  obtain ⟨k0, rfl⟩ := hcase
  have k1 : ¬ ee < ep := by omega
  go_wp2_with fail
  go_quiet (fail)
  revert nq
  intro n1
  go_wp2_with fail
  go_quiet (fail)
  obtain ⟨W, hW⟩ : ∃ W, ((w.alloc (.cells #[.int .i64 ee, .int .i64 s, .int .i64 a, .string d] 40)).drewN n1).drewN nq = W := ⟨_, rfl⟩
  have hX : Lx B W b bs v br L ⟨ep, wa, ra, true, k, ds, q, ps⟩ := by subst hW; exact (H0.out.next (Joins.below_alloc1 w _)).asit rfl
  have hB : W.heap[w.heap.size]? = some (.cells #[.int .i64 ee, .int .i64 s, .int .i64 a, .string d] 40 (0, 0)) := by subst hW; exact heap_alloc_new w _
  have hL : Lf w W (ft b bs v br) (ft b bs v br) := by subst hW; exact (Lf.ofBelow (Joins.below_alloc1 w _)).trans (.asit rfl rfl rfl rfl)
  rw [hW]
  have HC := Lib.hid (begin_any (B := B) ee hX.lo W hX.blk)
  have HP : Hid (∀ w1, (∃ bs1 br1, W.heap.size ≤ bs1 ∧ W.heap.size ≤ br1 ∧ Lx B w1 b bs1 (.slice none 0 0) br1 (List.replicate 16 emp) ⟨clampE ee, wa, ra, true, 0, [], 0, []⟩) ∧ W.grownBy w1 (some b) → ∃ bs1 br1, Hid (Lx B w1 b bs1 (.slice none 0 0) br1 (List.replicate 16 emp) ⟨clampE ee, wa, ra, true, 0, [], 0, []⟩) ∧ Hid (Fb w1 w.heap.size (ee, s, a, d)) ∧ Hid (Lf w w1 (ft b bs v br) (ft b bs1 (.slice none 0 0) br1))) := Lib.hid (by
    rintro w1 ⟨⟨bs1, br1, hs1, hr1, hx1⟩, hg⟩
    have hne : w.heap.size ≠ b := two_types hB hX.blk (by decide)
    refine ⟨bs1, br1, Lib.hid hx1, Lib.hid ((hg.block _ (Array.getElem?_eq_some_iff.1 hB).1 (fun e => hne (by simpa using e))).trans hB), Lib.hid (hL.trans ⟨hg.os, hg.tape, hg.output, hg.size, fun j hj hp => hg.block j hj (fun e => hp (.inl (by simpa using e))), fun j hj => ?_⟩)⟩
    rcases hj with rfl | rfl | hj | rfl
    · exact .inl (.inl rfl)
    · exact .inr hs1
    · cases hj
    · exact .inr hr1)
  have z0 : W.cell? ⟨w.heap.size, 0, none⟩ = some (.int .i64 ee) := cell_at hB 0 _ rfl
  generalize w.heap.size = H at *
  clear c0 c3 H0 hW k1 hX hB hL
  go_wp2_with fail
  refine HC.out.mono ?_
  rintro e w1 ⟨rfl, hnew⟩
  obtain ⟨bs1, br1, HX, HB, HL⟩ := HP.out w1 hnew
  clear hnew HP HC z0
  have z4 := HX.out.blk.c4
  have z2 : (w1).cell? ⟨H, 2, none⟩ = some (.int .i64 a) := cell_at HB.out 2 _ rfl
  go_wp2_with fail
  refine wp_region_held_drew (S := fun w' => w'.cell? ⟨b, 4, none⟩ = some (.pointer (some ⟨bs1, 0, none⟩)) ∧ w'.cell? ⟨H, 2, none⟩ = some (.int .i64 a)) (by kernel_rfl) ?_ (fun hH => ?_)
  · exact ⟨z4, z2⟩
  refine wpAnyH_take (i := 0) (oi := { dst := some 35, op := Go.Op.move (Go.Operand.tmp 0), type := 26, pos := "link.go:66", after := #[], guard := none }) (v := ?_) rfl (by kernel_rfl) (by kernel_rfl) (by kernel_rfl) (fun _ _ _ h => h) (Or.inl ⟨by rfl, ?_⟩) (by assumption) ?_
  rotate_left
  · intro w hSw
    try dsimp only at hSw
    obtain ⟨q1, q2⟩ := hSw
    go_simp
    all_goals with_reducible rfl
  try simp only [Act.put, List.setIfInBounds_toArray, List.set_cons_zero, List.set_cons_succ]
  refine wpAnyH_take (i := 1) (oi := { dst := some 36, op := Go.Op.nilCheck (Go.Operand.tmp 35), type := 0, pos := "link.go:66", after := #[{ on := 0, ground := Go.Ground.data }], guard := none }) (v := ?_) rfl (by kernel_rfl) (by kernel_rfl) (by kernel_rfl) (fun _ _ _ h => h) (Or.inl ⟨by rfl, ?_⟩) (by assumption) ?_
  rotate_left
  · intro w hSw
    try dsimp only at hSw
    obtain ⟨q1, q2⟩ := hSw
    go_simp
    all_goals with_reducible rfl
  try simp only [Act.put, List.setIfInBounds_toArray, List.set_cons_zero, List.set_cons_succ]
  refine wpAnyH_take (i := 2) (oi := { dst := some 37, op := Go.Op.fieldAddr 73 (Go.Operand.tmp 36) 4, type := 0, pos := "link.go:66", after := #[{ on := 1, ground := Go.Ground.data }], guard := none }) (v := ?_) rfl (by kernel_rfl) (by kernel_rfl) (by kernel_rfl) (fun _ _ _ h => h) (Or.inl ⟨by rfl, ?_⟩) (by assumption) ?_
  rotate_left
  · intro w hSw
    try dsimp only at hSw
    obtain ⟨q1, q2⟩ := hSw
    go_simp
    all_goals with_reducible rfl
  try simp only [Act.put, List.setIfInBounds_toArray, List.set_cons_zero, List.set_cons_succ]
  refine wpAnyH_take (i := 3) (oi := { dst := some 38, op := Go.Op.load 70 (Go.Operand.tmp 37), type := 70, pos := "link.go:66", after := #[{ on := 2, ground := Go.Ground.data }], guard := none }) (v := ?_) rfl (by kernel_rfl) (by kernel_rfl) (by kernel_rfl) (fun _ _ _ h => h) (Or.inl ⟨by rfl, ?_⟩) (by assumption) ?_
  rotate_left
  · intro w hSw
    try dsimp only at hSw
    obtain ⟨q1, q2⟩ := hSw
    go_simp
    all_goals with_reducible rfl
  try simp only [Act.put, List.setIfInBounds_toArray, List.set_cons_zero, List.set_cons_succ]
  refine wpAnyH_take (i := 4) (oi := { dst := some 39, op := Go.Op.fieldAddr 40 (Go.Operand.tmp 3) 2, type := 0, pos := "link.go:66", after := #[], guard := none }) (v := ?_) rfl (by kernel_rfl) (by kernel_rfl) (by kernel_rfl) (fun _ _ _ h => h) (Or.inl ⟨by rfl, ?_⟩) (by assumption) ?_
  rotate_left
  · intro w hSw
    try dsimp only at hSw
    obtain ⟨q1, q2⟩ := hSw
    go_simp
    all_goals with_reducible rfl
  try simp only [Act.put, List.setIfInBounds_toArray, List.set_cons_zero, List.set_cons_succ]
  refine wpAnyH_take (i := 5) (oi := { dst := some 40, op := Go.Op.load 3 (Go.Operand.tmp 39), type := 3, pos := "link.go:66", after := #[{ on := 4, ground := Go.Ground.data }], guard := none }) (v := ?_) rfl (by kernel_rfl) (by kernel_rfl) (by kernel_rfl) (fun _ _ _ h => h) (Or.inl ⟨by rfl, ?_⟩) (by assumption) ?_
  rotate_left
  · intro w hSw
    try dsimp only at hSw
    obtain ⟨q1, q2⟩ := hSw
    go_simp
    all_goals with_reducible rfl
  try simp only [Act.put, List.setIfInBounds_toArray, List.set_cons_zero, List.set_cons_succ]
  refine wpAnyH_ready (rs := [6]) (by kernel_rfl) (by simp) ?_
  refine AllReadyH.cons (o := { dst := some 41, op := Go.Op.call { callee := Go.Callee.value (Go.Operand.func 38), args := #[Go.Operand.tmp 38, Go.Operand.tmp 40], argTypes := #[70, 3] }, type := 3, pos := "link.go:66", after := #[{ on := 3, ground := Go.Ground.data }, { on := 5, ground := Go.Ground.data }], guard := none }) rfl (fun K hK => ?_) ?_
  · go_simp
    have hx6 := HX.out.asit (w' := (w1).drew) rfl
    refine (ack_any a _ hx6.sn).mono ?_
    rintro e y1 ⟨rfl, v1, hs, hf, hn⟩
    have hz := hx6.onSn hs hf hn
    have hb1 : y1.heap[H]? = _ := (hz.2.block H (Array.getElem?_eq_some_iff.1 HB.out).1 (hx6.other (show (w1).drew.heap[H]? = _ from HB.out) (by decide) (by decide) (by decide) (by decide))).trans HB.out
    have HX1 := Lib.hid hz.1
    have HL1 := Lib.hid (HL.out.trans ((Lf.asit (w := w1) (w' := (w1).drew) rfl rfl rfl rfl).trans hz.2))
    have HB1 : Hid (Fb y1 H (ee, s, a, d)) := Lib.hid hb1
    have z5 := hz.1.blk.c5
    have z1 : y1.cell? ⟨H, 1, none⟩ = some (.int .i64 s) := cell_at hb1 1 _ rfl
    have z3 : y1.cell? ⟨H, 3, none⟩ = some (.string d) := cell_at hb1 3 _ rfl
    have q4 := hz.1.blk.c4
    have q2 : y1.cell? ⟨H, 2, none⟩ = some (.int .i64 a) := cell_at hb1 2 _ rfl
    clear hs hf hn hz hx6 HX HB HL hb1
    go_wp2_with fail
    refine hK.out _ _ ?_ (fun hH => ?_)
    · exact ⟨q4, q2⟩
    clear hK K
    try simp only [Act.put, List.setIfInBounds_toArray, List.set_cons_zero, List.set_cons_succ]
    refine wpAnyH_done (by kernel_rfl) ?_ _
    clear q4 q2 z4 z2
    by_cases hs0 : s = 0
    · subst hs0
      go_wp2
      go_ret
      exact ⟨rfl, _, _, _, _, by rw [take_zero]; exact HX1.out, HL1.out⟩
    have hs1 : decide (s = 0) = false := decide_eq_false hs0
    go_wp2_with fail
    refine wp_region_held_drew (S := fun w' => w'.cell? ⟨b, 5, none⟩ = some (.pointer (some ⟨br1, 0, none⟩)) ∧ w'.cell? ⟨H, 1, none⟩ = some (.int .i64 s) ∧ w'.cell? ⟨H, 3, none⟩ = some (.string d)) (by kernel_rfl) ?_ (fun hH => ?_)
    · exact ⟨z5, z1, z3⟩
    refine wpAnyH_take (i := 0) (oi := { dst := some 45, op := Go.Op.move (Go.Operand.tmp 0), type := 26, pos := "link.go:68", after := #[], guard := none }) (v := ?_) rfl (by kernel_rfl) (by kernel_rfl) (by kernel_rfl) (fun _ _ _ h => h) (Or.inl ⟨by rfl, ?_⟩) (by assumption) ?_
    rotate_left
    · intro w hSw
      try dsimp only at hSw
      obtain ⟨q1, q2, q3⟩ := hSw
      go_simp
      all_goals with_reducible rfl
    try simp only [Act.put, List.setIfInBounds_toArray, List.set_cons_zero, List.set_cons_succ]
    refine wpAnyH_take (i := 1) (oi := { dst := some 46, op := Go.Op.nilCheck (Go.Operand.tmp 45), type := 0, pos := "link.go:68", after := #[{ on := 0, ground := Go.Ground.data }], guard := none }) (v := ?_) rfl (by kernel_rfl) (by kernel_rfl) (by kernel_rfl) (fun _ _ _ h => h) (Or.inl ⟨by rfl, ?_⟩) (by assumption) ?_
    rotate_left
    · intro w hSw
      try dsimp only at hSw
      obtain ⟨q1, q2, q3⟩ := hSw
      go_simp
      all_goals with_reducible rfl
    try simp only [Act.put, List.setIfInBounds_toArray, List.set_cons_zero, List.set_cons_succ]
    refine wpAnyH_take (i := 2) (oi := { dst := some 47, op := Go.Op.fieldAddr 73 (Go.Operand.tmp 46) 5, type := 0, pos := "link.go:68", after := #[{ on := 1, ground := Go.Ground.data }], guard := none }) (v := ?_) rfl (by kernel_rfl) (by kernel_rfl) (by kernel_rfl) (fun _ _ _ h => h) (Or.inl ⟨by rfl, ?_⟩) (by assumption) ?_
    rotate_left
    · intro w hSw
      try dsimp only at hSw
      obtain ⟨q1, q2, q3⟩ := hSw
      go_simp
      all_goals with_reducible rfl
    try simp only [Act.put, List.setIfInBounds_toArray, List.set_cons_zero, List.set_cons_succ]
    refine wpAnyH_take (i := 3) (oi := { dst := some 48, op := Go.Op.load 71 (Go.Operand.tmp 47), type := 71, pos := "link.go:68", after := #[{ on := 2, ground := Go.Ground.data }], guard := none }) (v := ?_) rfl (by kernel_rfl) (by kernel_rfl) (by kernel_rfl) (fun _ _ _ h => h) (Or.inl ⟨by rfl, ?_⟩) (by assumption) ?_
    rotate_left
    · intro w hSw
      try dsimp only at hSw
      obtain ⟨q1, q2, q3⟩ := hSw
      go_simp
      all_goals with_reducible rfl
    try simp only [Act.put, List.setIfInBounds_toArray, List.set_cons_zero, List.set_cons_succ]
    refine wpAnyH_take (i := 4) (oi := { dst := some 49, op := Go.Op.fieldAddr 40 (Go.Operand.tmp 3) 1, type := 0, pos := "link.go:68", after := #[], guard := none }) (v := ?_) rfl (by kernel_rfl) (by kernel_rfl) (by kernel_rfl) (fun _ _ _ h => h) (Or.inl ⟨by rfl, ?_⟩) (by assumption) ?_
    rotate_left
    · intro w hSw
      try dsimp only at hSw
      obtain ⟨q1, q2, q3⟩ := hSw
      go_simp
      all_goals with_reducible rfl
    try simp only [Act.put, List.setIfInBounds_toArray, List.set_cons_zero, List.set_cons_succ]
    refine wpAnyH_take (i := 5) (oi := { dst := some 50, op := Go.Op.load 3 (Go.Operand.tmp 49), type := 3, pos := "link.go:68", after := #[{ on := 4, ground := Go.Ground.data }], guard := none }) (v := ?_) rfl (by kernel_rfl) (by kernel_rfl) (by kernel_rfl) (fun _ _ _ h => h) (Or.inl ⟨by rfl, ?_⟩) (by assumption) ?_
    rotate_left
    · intro w hSw
      try dsimp only at hSw
      obtain ⟨q1, q2, q3⟩ := hSw
      go_simp
      all_goals with_reducible rfl
    try simp only [Act.put, List.setIfInBounds_toArray, List.set_cons_zero, List.set_cons_succ]
    refine wpAnyH_take (i := 6) (oi := { dst := some 51, op := Go.Op.fieldAddr 40 (Go.Operand.tmp 3) 3, type := 0, pos := "link.go:68", after := #[], guard := none }) (v := ?_) rfl (by kernel_rfl) (by kernel_rfl) (by kernel_rfl) (fun _ _ _ h => h) (Or.inl ⟨by rfl, ?_⟩) (by assumption) ?_
    rotate_left
    · intro w hSw
      try dsimp only at hSw
      obtain ⟨q1, q2, q3⟩ := hSw
      go_simp
      all_goals with_reducible rfl
    try simp only [Act.put, List.setIfInBounds_toArray, List.set_cons_zero, List.set_cons_succ]
    refine wpAnyH_take (i := 7) (oi := { dst := some 52, op := Go.Op.load 9 (Go.Operand.tmp 51), type := 9, pos := "link.go:68", after := #[{ on := 6, ground := Go.Ground.data }], guard := none }) (v := ?_) rfl (by kernel_rfl) (by kernel_rfl) (by kernel_rfl) (fun _ _ _ h => h) (Or.inl ⟨by rfl, ?_⟩) (by assumption) ?_
    rotate_left
    · intro w hSw
      try dsimp only at hSw
      obtain ⟨q1, q2, q3⟩ := hSw
      go_simp
      all_goals with_reducible rfl
    try simp only [Act.put, List.setIfInBounds_toArray, List.set_cons_zero, List.set_cons_succ]
    refine wpAnyH_ready (rs := [8]) (by kernel_rfl) (by simp) ?_
    refine AllReadyH.cons (o := { dst := some 53, op := Go.Op.call { callee := Go.Callee.value (Go.Operand.func 39), args := #[Go.Operand.tmp 48, Go.Operand.tmp 50, Go.Operand.tmp 52], argTypes := #[71, 3, 9] }, type := 4, pos := "link.go:68", after := #[{ on := 3, ground := Go.Ground.data }, { on := 5, ground := Go.Ground.data }, { on := 7, ground := Go.Ground.data }], guard := none }) rfl (fun K hK => ?_) ?_
    · go_simp
      have hx8 := HX1.out.asit (w' := y1.drew) rfl
      refine (Rcv.hear_any s d hx (show 0 + 0 ≤ 1000000 by decide) _ hx8.rv).mono ?_
      rintro e y2 ⟨rfl, ⟨L2, hr⟩, hg⟩
      have hz := hx8.onRv hr hg
      have hb2 : y2.heap[H]? = _ := (hz.2.block H (Array.getElem?_eq_some_iff.1 HB1.out).1 (hx8.other (show y1.drew.heap[H]? = _ from HB1.out) (by decide) (by decide) (by decide) (by decide))).trans HB1.out
      have HX2 := Lib.hid hz.1
      have HL2 := Lib.hid (HL1.out.trans ((Lf.asit (w := y1) (w' := y1.drew) rfl rfl rfl rfl).trans hz.2))
      have q5 := hz.1.blk.c5
      have q1 : y2.cell? ⟨H, 1, none⟩ = some (.int .i64 s) := cell_at hb2 1 _ rfl
      have q3 : y2.cell? ⟨H, 3, none⟩ = some (.string d) := cell_at hb2 3 _ rfl
      clear hr hg hz hx8 hb2 HX1 HL1 HB1
      go_wp2_with fail
      refine hK.out _ _ ?_ (fun hH => ?_)
      · exact ⟨q5, q1, q3⟩
      clear hK K
      try simp only [Act.put, List.setIfInBounds_toArray, List.set_cons_zero, List.set_cons_succ]
      refine wpAnyH_done (by kernel_rfl) ?_ _
      clear q5 q1 q3 z5 z1 z3
      go_wp2
      go_ret
      exact ⟨rfl, _, _, _, _, HX2.out, HL2.out⟩
    exact AllReadyH.nil
  exact AllReadyH.nil
theorem lhear_any {B b bs br : Nat} {v : Value} {L : List ByteArray} {E : En} {f : Fra} (hx : f.2.2.2.size ≤ 1000) (hq : E.q + E.ps.length ≤ 1000000) (w : World) (h : Lx B w b bs v br L E) :
    Calls Tryd.prog 16 #[.pointer (some ⟨b, 0, none⟩), fv f] w fun e w' => e = .returned (.bool (E.anew f)) ∧ ∃ bs' v' br' L', Lx B w' b bs' v' br' L' (E.hear f) ∧ Lf w w' (ft b bs v br) (ft b bs' v' br') := by
  by_cases h1 : f.1 < E.ep
  · exact hear_old hx hq h1 w h
  by_cases h2 : f.1 = E.ep
  · exact hear_same hx hq h2 w h
  cases hp : E.pas with
  | false => exact hear_not hx hq ⟨by omega, hp⟩ w h
  | true => exact hear_new hx hq ⟨by omega, hp⟩ w h
end Go.Proofs.YtjmkdgjdemndaaaDoor.K
