/- The document's sender: Offer, Ack, Left. -/
import Derived.Test.YtclobdejlihblaaZ7
namespace Go.Proofs.Ytclobdejlihblaa
open Go Go.RowKit
set_option maxRecDepth 20000
section
variable {B b : Nat} {v : Value} {win last : Int} {pre ds : List ByteArray}
theorem grown_asit {w w' : World} {r : Option Nat} (e : w'.heap = w.heap) (e1 : w'.os = w.os) (e2 : w'.tape = w.tape) (e3 : w'.output = w.output) : w.grownBy w' r := ⟨e1, e2, e3, by rw [e]; exact Nat.le_refl _, fun i _ _ => by rw [e]⟩
theorem doff_any (x : ByteArray) (hx : x.size ≤ 1000) (hbd : pre.length + ds.length ≤ 10000) (w : World) (h : Dm B w b v win last pre ds) :
    Calls Try.prog 13 #[.pointer (some ⟨b, 0, none⟩), .string x] w fun e w' => e = .returned (.tuple #[.int .i64 (offN win last pre.length ds), .int .i64 (offE win last pre.length ds)]) ∧ ∃ v', Dm B w' b v' win last pre (offD win last pre.length ds x) ∧ w.grownBy w' (some b) ∧ Nw w v v' := by
  unfold offN offE offD
  by_cases h1 : win ≤ (ds.length : Int)
  · simp only [if_pos h1]
    refine (doff_full x h1 w h).mono ?_
    rintro e w1 ⟨rfl, e1, e2, e3, e4⟩
    exact ⟨rfl, v, h.asit e1, grown_asit e1 e2 e3 e4, Nw.refl _ _⟩
  · simp only [if_neg h1]
    by_cases h2 : last ≤ ((pre.length + ds.length : Nat) : Int)
    · simp only [if_pos h2]
      refine (doff_used x (by omega) h2 w h).mono ?_
      rintro e w1 ⟨rfl, e1, e2, e3, e4⟩
      exact ⟨rfl, v, h.asit e1, grown_asit e1 e2 e3 e4, Nw.refl _ _⟩
    · simp only [if_neg h2]
      exact doff_yes x hx (by omega) (by omega) hbd w h
set_option maxHeartbeats 1000000 in
theorem dack_above (n : Int) (h1 : ((pre.length + ds.length : Nat) : Int) < n) (w : World) (h : Dm B w b v win last pre ds) :
    Calls Try.prog 35 #[.pointer (some ⟨b, 0, none⟩), .int .i64 n] w fun e w' => e = .returned (.int .i64 0) ∧ w' = w := by
  obtain ⟨a, c, hv, _⟩ := h.row.is
  subst hv
  have c2 := h.c2
  have c3 := h.c3
  rw [← List.length_append] at h1
  clear h
  generalize (pre ++ ds).length = L at *
  generalize (pre.length : Int) = P at *
  go_enter Try.func35, Try.ntmps35
  go_wp2
  go_ret
  exact ⟨rfl, rfl⟩
set_option maxHeartbeats 1000000 in
theorem dack_below (n : Int) (h1 : n ≤ ((pre.length + ds.length : Nat) : Int)) (h2 : n ≤ (pre.length : Int)) (w : World) (h : Dm B w b v win last pre ds) :
    Calls Try.prog 35 #[.pointer (some ⟨b, 0, none⟩), .int .i64 n] w fun e w' => e = .returned (.int .i64 0) ∧ w' = w := by
  obtain ⟨a, c, hv, _⟩ := h.row.is
  subst hv
  have c2 := h.c2
  have c3 := h.c3
  rw [← List.length_append] at h1
  have k1 : ¬ ((pre ++ ds).length : Int) < n := by omega
  clear h h1
  generalize (pre ++ ds).length = L at *
  generalize (pre.length : Int) = P at *
  go_enter Try.func35, Try.ntmps35
  go_wp2
  go_ret
  exact ⟨rfl, rfl⟩
theorem dack_fin {w : World} (m : Nat) (hm : m ≤ ds.length) (n : Int) (hn : n = (pre.length : Int) + (m : Int)) (h : Dm B w b v win last pre ds) : Dm B (w.setCell ⟨b, 3, none⟩ (.int .i64 n)) b v win last (pre ++ ds.take m) (ds.drop m) ∧ w.grownBy (w.setCell ⟨b, 3, none⟩ (.int .i64 n)) (some b) := by
  have hl : (pre ++ ds.take m).length = pre.length + m := by rw [List.length_append, List.length_take]; omega
  have hblk := h.blk
  refine ⟨⟨h.lo, ?_, ?_, ?_⟩, grown_set _ _ _ _⟩
  · rw [hl, hn, show ((pre.length + m : Nat) : Int) = (pre.length : Int) + (m : Int) by omega]
    simp [World.setCell, Array.getElem?_modify, hblk]
  · rw [List.append_assoc, List.take_append_drop]
    exact h.row.same fun j hj => Below.heap_setCell _ _ _ _ (fun e => h.rowb (by rw [hj, e]))
  · rw [hl]; exact h.ok.less m hm
set_option maxHeartbeats 1000000 in
theorem dack_yes (m : Nat) (h0 : 0 < m) (hm : m ≤ ds.length) (n : Int) (hn : n = (pre.length : Int) + (m : Int)) (w : World) (h : Dm B w b v win last pre ds) :
    Calls Try.prog 35 #[.pointer (some ⟨b, 0, none⟩), .int .i64 n] w fun e w' => e = .returned (.int .i64 (m : Int)) ∧ Dm B w' b v win last (pre ++ ds.take m) (ds.drop m) ∧ w.grownBy w' (some b) := by
  obtain ⟨a, c, hv, _⟩ := h.row.is
  subst hv
  have c2 := h.c2
  have c3 := h.c3
  have f3 := h.f0 3
  have k1 : ¬ ((pre ++ ds).length : Int) < n := by rw [List.length_append]; omega
  have k2 : ¬ n ≤ (pre.length : Int) := by omega
  have hw2 : IntKind.i64.wrap (n - (pre.length : Int)) = (m : Int) := by
    have := h.ok.w2
    have := h.ok.len
    rw [show n - (pre.length : Int) = (m : Int) by omega]
    exact i64_id (by omega) (by omega)
  have HF := Lib.hid (dack_fin m hm n hn h)
  clear h hn h0 hm
  generalize (pre ++ ds).length = L at *
  generalize (pre.length : Int) = P at c3 k2 hw2
  go_enter Try.func35, Try.ntmps35
  go_wp2
  go_ret
  exact ⟨rfl, HF.out⟩
theorem dack_any (n : Int) (w : World) (h : Dm B w b v win last pre ds) :
    Calls Try.prog 35 #[.pointer (some ⟨b, 0, none⟩), .int .i64 n] w fun e w' => e = .returned (.int .i64 (ackM pre.length ds.length n : Int)) ∧ Dm B w' b v win last (pre ++ ds.take (ackM pre.length ds.length n)) (ds.drop (ackM pre.length ds.length n)) ∧ w.grownBy w' (some b) := by
  unfold ackM
  by_cases h1 : ((pre.length + ds.length : Nat) : Int) < n
  · simp only [if_pos (show ((pre.length + ds.length : Nat) : Int) < n ∨ n ≤ (pre.length : Int) from .inl h1)]
    refine (dack_above n h1 w h).mono ?_
    rintro e w1 ⟨rfl, rfl⟩
    exact ⟨rfl, by simpa using h, World.grownBy.refl _ _⟩
  by_cases h2 : n ≤ (pre.length : Int)
  · simp only [if_pos (show ((pre.length + ds.length : Nat) : Int) < n ∨ n ≤ (pre.length : Int) from .inr h2)]
    refine (dack_below n (by omega) h2 w h).mono ?_
    rintro e w1 ⟨rfl, rfl⟩
    exact ⟨rfl, by simpa using h, World.grownBy.refl _ _⟩
  simp only [if_neg (show ¬ (((pre.length + ds.length : Nat) : Int) < n ∨ n ≤ (pre.length : Int)) by omega)]
  exact dack_yes _ (by omega) (by omega) n (by omega) w h
theorem left_slice {w : World} {a : Option Addr} {c : Nat} (h : Dm B w b (.slice a (pre ++ ds).length c) win last pre ds) :
    ∃ A C, (∀ w, (Instr.sliceAt 51 (.slice a (pre ++ ds).length c) (some (.int .i64 (pre.length : Int))) none none).run Try.prog w = .ok (.slice A ds.length C) w) ∧ SsAt w A ds.length ds ∧ ds.length ≤ C ∧ (A = none → C = 0) := by
  obtain ⟨hss, hlc, hn⟩ := h.row.isS rfl
  have hl : pre.length ≤ (pre ++ ds).length := by rw [List.length_append]; omega
  have e : (pre ++ ds).length - pre.length = ds.length := by rw [List.length_append]; omega
  have s := hss.back hlc hl
  refine ⟨_, _, fun w => by rw [slS_back a _ c pre.length hl w, e], ?_, by rw [List.length_append] at hlc; omega, back_none hn⟩
  rw [e, List.drop_left] at s
  exact s
set_option maxHeartbeats 4000000 in
theorem left_any (hbd : ds.length ≤ 10000) (w : World) (h : Dm B w b v win last pre ds) :
    Calls Try.prog 22 #[.pointer (some ⟨b, 0, none⟩)] w fun e w' => ∃ a' c', e = .returned (.slice a' ds.length c') ∧ RowS w.heap.size w' (.slice a' ds.length c') ds ∧ Below w.heap.size w w' := by
  obtain ⟨a, c, hv, _⟩ := h.row.is
  subst hv
  obtain ⟨A, C, hsl, hss, hlc, hn⟩ := left_slice h
  have c2 := h.c2
  have c3 := h.c3
  have hA : Dm B (w.drew.alloc (.cells #[] 9)) b _ win last pre ds := (h.asit (w' := w.drew) rfl).next (Joins.below_alloc1 _ _)
  have e2 := hA.c2
  have e3 := hA.c3
  have H := Lib.hid (h.asit (w' := w.drew) rfl)
  have HSS := Lib.hid (ssAt_below hss.drew (Joins.below_alloc1 w.drew (.cells #[] 9)))
  clear h hA hss
  generalize (pre ++ ds).length = L at *
  generalize hP : (pre.length : Int) = P at c3 e3 hsl
  have HP := Lib.hid hP
  clear hP
  go_enter Try.func22, Try.ntmps22
  go_wp2_with fail
  refine wp_region_held_drew (S := fun w' => w'.cell? ⟨b, 2, none⟩ = some (.slice a L c) ∧ w'.cell? ⟨b, 3, none⟩ = some (.int .i64 P)) (by kernel_rfl) ?_ (fun hH => ?_)
  · exact ⟨c2, c3⟩
  refine wpAnyH_take (i := 1) (oi := { dst := some 4, op := Go.Op.move (Go.Operand.tmp 0), type := 35, pos := "ref.go:51", after := #[], guard := none }) (v := ?_) rfl (by kernel_rfl) (by kernel_rfl) (by kernel_rfl) (fun _ _ _ h => h) (Or.inl ⟨by rfl, ?_⟩) (by assumption) ?_
  rotate_left
  · intro w hSw
    try dsimp only at hSw
    obtain ⟨q2, q3⟩ := hSw
    go_simp
    all_goals with_reducible rfl
  try simp only [Act.put, List.setIfInBounds_toArray, List.set_cons_zero, List.set_cons_succ]
  refine wpAnyH_take (i := 2) (oi := { dst := some 5, op := Go.Op.nilCheck (Go.Operand.tmp 4), type := 0, pos := "ref.go:51", after := #[{ on := 1, ground := Go.Ground.data }], guard := none }) (v := ?_) rfl (by kernel_rfl) (by kernel_rfl) (by kernel_rfl) (fun _ _ _ h => h) (Or.inl ⟨by rfl, ?_⟩) (by assumption) ?_
  rotate_left
  · intro w hSw
    try dsimp only at hSw
    obtain ⟨q2, q3⟩ := hSw
    go_simp
    all_goals with_reducible rfl
  try simp only [Act.put, List.setIfInBounds_toArray, List.set_cons_zero, List.set_cons_succ]
  refine wpAnyH_take (i := 3) (oi := { dst := some 6, op := Go.Op.fieldAddr 69 (Go.Operand.tmp 5) 2, type := 0, pos := "ref.go:51", after := #[{ on := 2, ground := Go.Ground.data }], guard := none }) (v := ?_) rfl (by kernel_rfl) (by kernel_rfl) (by kernel_rfl) (fun _ _ _ h => h) (Or.inl ⟨by rfl, ?_⟩) (by assumption) ?_
  rotate_left
  · intro w hSw
    try dsimp only at hSw
    obtain ⟨q2, q3⟩ := hSw
    go_simp
    all_goals with_reducible rfl
  try simp only [Act.put, List.setIfInBounds_toArray, List.set_cons_zero, List.set_cons_succ]
  refine wpAnyH_take (i := 4) (oi := { dst := some 7, op := Go.Op.load 51 (Go.Operand.tmp 6), type := 51, pos := "ref.go:51", after := #[{ on := 3, ground := Go.Ground.data }], guard := none }) (v := ?_) rfl (by kernel_rfl) (by kernel_rfl) (by kernel_rfl) (fun _ _ _ h => h) (Or.inl ⟨by rfl, ?_⟩) (by assumption) ?_
  rotate_left
  · intro w hSw
    try dsimp only at hSw
    obtain ⟨q2, q3⟩ := hSw
    go_simp
    all_goals with_reducible rfl
  try simp only [Act.put, List.setIfInBounds_toArray, List.set_cons_zero, List.set_cons_succ]
  refine wpAnyH_take (i := 5) (oi := { dst := some 8, op := Go.Op.move (Go.Operand.tmp 0), type := 35, pos := "ref.go:51", after := #[], guard := none }) (v := ?_) rfl (by kernel_rfl) (by kernel_rfl) (by kernel_rfl) (fun _ _ _ h => h) (Or.inl ⟨by rfl, ?_⟩) (by assumption) ?_
  rotate_left
  · intro w hSw
    try dsimp only at hSw
    obtain ⟨q2, q3⟩ := hSw
    go_simp
    all_goals with_reducible rfl
  try simp only [Act.put, List.setIfInBounds_toArray, List.set_cons_zero, List.set_cons_succ]
  refine wpAnyH_take (i := 6) (oi := { dst := some 9, op := Go.Op.nilCheck (Go.Operand.tmp 8), type := 0, pos := "ref.go:51", after := #[{ on := 5, ground := Go.Ground.data }], guard := none }) (v := ?_) rfl (by kernel_rfl) (by kernel_rfl) (by kernel_rfl) (fun _ _ _ h => h) (Or.inl ⟨by rfl, ?_⟩) (by assumption) ?_
  rotate_left
  · intro w hSw
    try dsimp only at hSw
    obtain ⟨q2, q3⟩ := hSw
    go_simp
    all_goals with_reducible rfl
  try simp only [Act.put, List.setIfInBounds_toArray, List.set_cons_zero, List.set_cons_succ]
  refine wpAnyH_take (i := 7) (oi := { dst := some 10, op := Go.Op.fieldAddr 69 (Go.Operand.tmp 9) 3, type := 0, pos := "ref.go:51", after := #[{ on := 6, ground := Go.Ground.data }], guard := none }) (v := ?_) rfl (by kernel_rfl) (by kernel_rfl) (by kernel_rfl) (fun _ _ _ h => h) (Or.inl ⟨by rfl, ?_⟩) (by assumption) ?_
  rotate_left
  · intro w hSw
    try dsimp only at hSw
    obtain ⟨q2, q3⟩ := hSw
    go_simp
    all_goals with_reducible rfl
  try simp only [Act.put, List.setIfInBounds_toArray, List.set_cons_zero, List.set_cons_succ]
  refine wpAnyH_take (i := 8) (oi := { dst := some 11, op := Go.Op.load 3 (Go.Operand.tmp 10), type := 3, pos := "ref.go:51", after := #[{ on := 7, ground := Go.Ground.data }], guard := none }) (v := ?_) rfl (by kernel_rfl) (by kernel_rfl) (by kernel_rfl) (fun _ _ _ h => h) (Or.inl ⟨by rfl, ?_⟩) (by assumption) ?_
  rotate_left
  · intro w hSw
    try dsimp only at hSw
    obtain ⟨q2, q3⟩ := hSw
    go_simp
    all_goals with_reducible rfl
  try simp only [Act.put, List.setIfInBounds_toArray, List.set_cons_zero, List.set_cons_succ]
  refine wpAnyH_take (i := 9) (oi := { dst := some 12, op := Go.Op.slice 51 (Go.Operand.tmp 7) (some (Go.Operand.tmp 11)) none none, type := 51, pos := "ref.go:51", after := #[{ on := 4, ground := Go.Ground.data }, { on := 8, ground := Go.Ground.data }], guard := none }) (v := ?_) rfl (by kernel_rfl) (by kernel_rfl) (by kernel_rfl) (fun _ _ _ h => h) (Or.inl ⟨by rfl, ?_⟩) (by assumption) ?_
  rotate_left
  · intro w hSw
    try dsimp only at hSw
    obtain ⟨q2, q3⟩ := hSw
    go_simp
    all_goals with_reducible rfl
  try simp only [Act.put, List.setIfInBounds_toArray, List.set_cons_zero, List.set_cons_succ]
  refine wpAnyH_ready (rs := [0]) (by kernel_rfl) (by simp) ?_
  refine AllReadyH.cons (o := { dst := some 3, op := Go.Op.buildSlice 51 0 #[], type := 51, pos := "ref.go:51", after := #[], guard := none }) rfl (fun K hK => ?_) ?_
  · go_simp
    refine hK.out _ _ ?_ (fun hH => ?_)
    · exact ⟨e2, e3⟩
    clear hK K
    try simp only [Act.put, List.setIfInBounds_toArray, List.set_cons_zero, List.set_cons_succ]
    refine wpAnyH_ready (rs := [10]) (by kernel_rfl) (by simp) ?_
    refine AllReadyH.cons (o := { dst := some 13, op := Go.Op.call { callee := Go.Callee.builtin Go.Builtin.append, args := #[Go.Operand.tmp 3, Go.Operand.tmp 12], argTypes := #[51, 51] }, type := 51, pos := "ref.go:51", after := #[{ on := 0, ground := Go.Ground.data }, { on := 9, ground := Go.Ground.data }], guard := none }) rfl (fun K hK => ?_) ?_
    · refine step_appS (by rfl) (.tmp 3) (.tmp 12) rfl w.drew.heap.size _ [] rfl (rowS_new w.drew) A ds.length C rfl ds HSS.out hlc hn (by simp only [List.length_nil]; omega) (by simp) ?_
      intro a5 c5 w5 hr5 hg5 _
      simp only [List.length_nil, Nat.zero_add, List.nil_append] at hr5 ⊢
      have hb5 : Below w.drew.heap.size w.drew w5 := belS (rowS_new w.drew) (Joins.below_alloc1 _ _) hg5 (by simp)
      have h5 := H.out.next hb5
      have HR5 := Lib.hid hr5
      have HB5 : Hid (Below w.heap.size w w5) := Lib.hid ⟨hb5.os, hb5.tape, hb5.output, hb5.size, hb5.block⟩
      have g2 := h5.c2
      have g3 := h5.c3
      rw [HP.out] at g3
      clear hr5 hg5 hb5 h5
      refine hK.out _ _ ?_ (fun hH => ?_)
      · exact ⟨g2, g3⟩
      clear hK K
      try simp only [Act.put, List.setIfInBounds_toArray, List.set_cons_zero, List.set_cons_succ]
      refine wpAnyH_take (i := 11) (oi := { dst := some 2, op := Go.Op.assign (Go.Operand.tmp 13), type := 51, pos := "ref.go:51", after := #[{ on := 10, ground := Go.Ground.data }, { on := 10, ground := Go.Ground.chain }, { on := 0, ground := Go.Ground.phase }, { on := 1, ground := Go.Ground.phase }, { on := 2, ground := Go.Ground.phase }, { on := 3, ground := Go.Ground.phase }, { on := 4, ground := Go.Ground.phase }, { on := 5, ground := Go.Ground.phase }, { on := 6, ground := Go.Ground.phase }, { on := 7, ground := Go.Ground.phase }, { on := 8, ground := Go.Ground.phase }, { on := 9, ground := Go.Ground.phase }, { on := 10, ground := Go.Ground.phase }], guard := none }) (v := ?_) rfl (by kernel_rfl) (by kernel_rfl) (by kernel_rfl) (fun _ _ _ h => h) (Or.inl ⟨by rfl, ?_⟩) (by assumption) ?_
      rotate_left
      · intro w hSw
        try dsimp only at hSw
        obtain ⟨q2, q3⟩ := hSw
        go_simp
        all_goals with_reducible rfl
      try simp only [Act.put, List.setIfInBounds_toArray, List.set_cons_zero, List.set_cons_succ]
      refine wpAnyH_done (by kernel_rfl) ?_ _
      go_wp2
      go_ret
      exact ⟨a5, c5, rfl, HR5.out, HB5.out⟩
    exact AllReadyH.nil
  exact AllReadyH.nil
end
end Go.Proofs.Ytclobdejlihblaa
