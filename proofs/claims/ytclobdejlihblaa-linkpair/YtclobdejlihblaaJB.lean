/- awake. -/
import Derived.Test.YtclobdejlihblaaJA
namespace Go.Proofs.Ytclobdejlihblaa
open Go Go.RowKit
set_option maxRecDepth 20000
section
variable {B : Nat} {w0 w w' : World} {b bs br c cs cr : Nat} {E F : En}
theorem tq_hearE {f : Fra} {E' : En} {an : Bool} (hE : E.hear f = E') (ha : E.anew f = an) (hx : f.2.2.2.size ≤ 1000) (hq : E.q + E.ps.length ≤ 1000000) (h : Tq B w0 w b bs br E c cs cr F) :
    Calls Try.prog 16 #[.pointer (some ⟨b, 0, none⟩), fv f] w fun e w' => e = .returned (.bool an) ∧ (∃ bs' br', Tq B w0 w' b bs' br' E' c cs cr F) ∧ OthL w w' := by
  subst hE ha
  exact tq_hear hx hq h
theorem tq_offE (x : ByteArray) {E' : En} {e : Int} (hE : E.off x = E') (he : E.offe = e) (hx : x.size ≤ 1000) (h : Tq B w0 w b bs br E c cs cr F) :
    Calls Try.prog 14 #[.pointer (some ⟨b, 0, none⟩), .string x] w fun r w' => r = .returned (.int .i64 e) ∧ Tq B w0 w' b bs br E' c cs cr F ∧ OthL w w' := by
  subst hE he
  exact tq_off x hx h
theorem tq_popE {E' : En} {hd : ByteArray} {he : Bool} (hE : E.pop = E') (e1 : E.ps.headD emp = hd) (e2 : (!E.ps.isEmpty) = he) (hk : E.q + E.ps.length ≤ 1000000) (h : Tq B w0 w b bs br E c cs cr F) :
    Calls Try.prog 18 #[.pointer (some ⟨br, 0, none⟩)] w fun e w' => e = .returned (.tuple #[.string hd, .bool he]) ∧ Tq B w0 w' b bs br E' c cs cr F ∧ OthL w w' := by
  subst hE
  exact tq_pop e1 e2 hk h
end
set_option maxHeartbeats 4000000 in
theorem awake_yes (w : World) : Calls Try.prog 11 #[] w fun e w' => e = .returned (.bool true) ∧ Below w.heap.size w w' := by
  have HW := Lib.hid (Below.refl w.heap.size w)
  go_enter Try.func11, Try.ntmps11
  go_wp2_with fail
  refine (tu_new 2 4 4 false HW.out (Nat.le_refl _)).mono ?_
  rintro e w1 ⟨rfl, ⟨bs, br, h⟩, _⟩
  generalize hbb : w.heap.size = ba at h ⊢
  have HBB := Lib.hid hbb
  have H1 : Hid (Tu ba w w1 ba bs br ⟨2, 4, 4, false, 0, [], 0, []⟩) := Lib.hid h
  clear h hbb
  go_wp2_with fail
  refine (tq_new 0 4 4 true H1.out).mono ?_
  rintro e w2 ⟨rfl, ⟨cs, cr, h⟩, _⟩
  generalize w1.heap.size = bb at h ⊢
  have H2 : Hid (Tq ba w w2 bb cs cr ⟨0, 4, 4, true, 0, [], 0, []⟩ ba bs br ⟨2, 4, 4, false, 0, [], 0, []⟩) := Lib.hid h.swap
  clear h H1
  go_wp2_with fail
  refine (tq_frames (G := []) (n := 0) (by rfl) rfl H2.out).mono ?_
  rintro e w3 ⟨a0, c0, rfl, _, _, h⟩
  have H3 := Lib.hid h.swap
  clear h H2
  go_wp2_with fail
  refine (tq_offE ⟨#[120]⟩ (E' := ⟨2, 4, 4, false, 0, [⟨#[120]⟩], 0, []⟩) (e := 0) (by rfl) (by decide) (by decide) H3.out).mono ?_
  rintro e w4 ⟨rfl, h, _⟩
  have H4 := Lib.hid h
  clear h H3
  go_wp2_with fail
  refine (tq_frames (G := [(2, 1, 0, ⟨#[120]⟩)]) (n := 1) (by rfl) rfl H4.out).mono ?_
  rintro e w5 ⟨a1, c1, rfl, hr, _, h⟩
  have H5 : Hid (Tq _ _ (w5.alloc (.cells #[.int .i64 2, .int .i64 1, .int .i64 0, .string ⟨#[120]⟩] 31)) _ _ _ _ _ _ _ _) := Lib.hid (h.next (Joins.below_alloc1 _ _))
  have HR := Lib.hid (hr.alloc (.cells #[.int .i64 2, .int .i64 1, .int .i64 0, .string ⟨#[120]⟩] 31))
  have HF := Lib.hid (fsAt_one w5 2 1 0 ⟨#[120]⟩)
  clear h hr H4
  go_wp2_with fail
  refine (samef_yes _ _ 1 _ _ [(2, 1, 0, ⟨#[120]⟩)] (by decide) _ (HR.out.isF rfl).1 HF.out).mono ?_
  rintro e w6 ⟨rfl, e1, e2, e3, e4⟩
  have H6 := Lib.hid (H5.out.asit e1 e2 e3 e4).swap
  have hr6 := HR.out.asit e1
  obtain ⟨a, c, hv, _⟩ := hr6.is
  rcases hr6.2 with ⟨hv2, h0⟩ | ⟨gl, cap, cur, hv2, _⟩
  · cases h0
  cases hv2
  obtain ⟨n0, n1, n2, n3⟩ := RowF.f4 (fs := [(2, 1, 0, ⟨#[120]⟩)]) hr6 0 (by decide)
  have HR6 := Lib.hid hr6
  clear hr6 e1 e2 e3 e4 H5 HR HF hv
  change w6.cell? ⟨gl, 0, none⟩ = some (.int .i64 2) at n0
  change w6.cell? ⟨gl, 1, none⟩ = some (.int .i64 1) at n1
  change w6.cell? ⟨gl, 2, none⟩ = some (.int .i64 0) at n2
  change w6.cell? ⟨gl, 3, none⟩ = some (.string ⟨#[120]⟩) at n3
  go_wp2_with fail
  refine wp_region_held_drew (S := fun w' => w'.cell? ⟨gl, 0, none⟩ = some (.int .i64 2) ∧ w'.cell? ⟨gl, 1, none⟩ = some (.int .i64 1) ∧ w'.cell? ⟨gl, 2, none⟩ = some (.int .i64 0) ∧ w'.cell? ⟨gl, 3, none⟩ = some (.string ⟨#[120]⟩)) (by kernel_rfl) ?_ (fun hH => ?_)
  · exact ⟨n0, n1, n2, n3⟩
  refine wpAnyH_take (i := 0) (oi := { dst := some 39, op := Go.Op.move (Go.Operand.tmp 2), type := 24, pos := "law.go:31", after := #[], guard := none }) (v := ?_) rfl (by kernel_rfl) (by kernel_rfl) (by kernel_rfl) (fun _ _ _ h => h) (Or.inl ⟨by rfl, ?_⟩) (by assumption) ?_
  rotate_left
  · intro w hSw
    try dsimp only at hSw
    obtain ⟨q0, q1, q2, q3⟩ := hSw
    go_simp
    all_goals with_reducible rfl
  try simp only [Act.put, List.setIfInBounds_toArray, List.set_cons_zero, List.set_cons_succ]
  refine wpAnyH_take (i := 1) (oi := { dst := some 40, op := Go.Op.move (Go.Operand.tmp 5), type := 54, pos := "law.go:31", after := #[], guard := none }) (v := ?_) rfl (by kernel_rfl) (by kernel_rfl) (by kernel_rfl) (fun _ _ _ h => h) (Or.inl ⟨by rfl, ?_⟩) (by assumption) ?_
  rotate_left
  · intro w hSw
    try dsimp only at hSw
    obtain ⟨q0, q1, q2, q3⟩ := hSw
    go_simp
    all_goals with_reducible rfl
  try simp only [Act.put, List.setIfInBounds_toArray, List.set_cons_zero, List.set_cons_succ]
  refine wpAnyH_take (i := 2) (oi := { dst := some 41, op := Go.Op.indexAddr 54 (Go.Operand.tmp 40) (Go.Operand.const (Go.Value.int Go.IntKind.i64 0)), type := 0, pos := "law.go:31", after := #[{ on := 1, ground := Go.Ground.data }], guard := none }) (v := ?_) rfl (by kernel_rfl) (by kernel_rfl) (by kernel_rfl) (fun _ _ _ h => h) (Or.inl ⟨by rfl, ?_⟩) (by assumption) ?_
  rotate_left
  · intro w hSw
    try dsimp only at hSw
    obtain ⟨q0, q1, q2, q3⟩ := hSw
    go_simp
    all_goals with_reducible rfl
  try simp only [Act.put, List.setIfInBounds_toArray, List.set_cons_zero, List.set_cons_succ]
  refine wpAnyH_take (i := 3) (oi := { dst := some 42, op := Go.Op.load 31 (Go.Operand.tmp 41), type := 31, pos := "law.go:31", after := #[{ on := 2, ground := Go.Ground.data }], guard := none }) (v := ?_) rfl (by kernel_rfl) (by kernel_rfl) (by kernel_rfl) (fun _ _ _ h => h) (Or.inl ⟨by rfl, ?_⟩) (by assumption) ?_
  rotate_left
  · intro w hSw
    try dsimp only at hSw
    obtain ⟨q0, q1, q2, q3⟩ := hSw
    go_simp
    all_goals with_reducible rfl
  try simp only [Act.put, List.setIfInBounds_toArray, List.set_cons_zero, List.set_cons_succ]
  refine wpAnyH_take (i := 5) (oi := { dst := some 44, op := Go.Op.move (Go.Operand.tmp 2), type := 24, pos := "law.go:31", after := #[], guard := none }) (v := ?_) rfl (by kernel_rfl) (by kernel_rfl) (by kernel_rfl) (fun _ _ _ h => h) (Or.inl ⟨by rfl, ?_⟩) (by assumption) ?_
  rotate_left
  · intro w hSw
    try dsimp only at hSw
    obtain ⟨q0, q1, q2, q3⟩ := hSw
    go_simp
    all_goals with_reducible rfl
  try simp only [Act.put, List.setIfInBounds_toArray, List.set_cons_zero, List.set_cons_succ]
  refine wpAnyH_take (i := 6) (oi := { dst := some 45, op := Go.Op.move (Go.Operand.tmp 5), type := 54, pos := "law.go:31", after := #[], guard := none }) (v := ?_) rfl (by kernel_rfl) (by kernel_rfl) (by kernel_rfl) (fun _ _ _ h => h) (Or.inl ⟨by rfl, ?_⟩) (by assumption) ?_
  rotate_left
  · intro w hSw
    try dsimp only at hSw
    obtain ⟨q0, q1, q2, q3⟩ := hSw
    go_simp
    all_goals with_reducible rfl
  try simp only [Act.put, List.setIfInBounds_toArray, List.set_cons_zero, List.set_cons_succ]
  refine wpAnyH_take (i := 7) (oi := { dst := some 46, op := Go.Op.indexAddr 54 (Go.Operand.tmp 45) (Go.Operand.const (Go.Value.int Go.IntKind.i64 0)), type := 0, pos := "law.go:31", after := #[{ on := 6, ground := Go.Ground.data }], guard := none }) (v := ?_) rfl (by kernel_rfl) (by kernel_rfl) (by kernel_rfl) (fun _ _ _ h => h) (Or.inl ⟨by rfl, ?_⟩) (by assumption) ?_
  rotate_left
  · intro w hSw
    try dsimp only at hSw
    obtain ⟨q0, q1, q2, q3⟩ := hSw
    go_simp
    all_goals with_reducible rfl
  try simp only [Act.put, List.setIfInBounds_toArray, List.set_cons_zero, List.set_cons_succ]
  refine wpAnyH_take (i := 8) (oi := { dst := some 47, op := Go.Op.load 31 (Go.Operand.tmp 46), type := 31, pos := "law.go:31", after := #[{ on := 7, ground := Go.Ground.data }], guard := none }) (v := ?_) rfl (by kernel_rfl) (by kernel_rfl) (by kernel_rfl) (fun _ _ _ h => h) (Or.inl ⟨by rfl, ?_⟩) (by assumption) ?_
  rotate_left
  · intro w hSw
    try dsimp only at hSw
    obtain ⟨q0, q1, q2, q3⟩ := hSw
    go_simp
    all_goals with_reducible rfl
  try simp only [Act.put, List.setIfInBounds_toArray, List.set_cons_zero, List.set_cons_succ]
  refine wpAnyH_ready (rs := [4]) (by kernel_rfl) (by simp) ?_
  refine AllReadyH.cons (o := { dst := some 43, op := Go.Op.call { callee := Go.Callee.value (Go.Operand.func 16), args := #[Go.Operand.tmp 39, Go.Operand.tmp 42], argTypes := #[24, 31] }, type := 4, pos := "law.go:31", after := #[{ on := 0, ground := Go.Ground.data }, { on := 3, ground := Go.Ground.data }], guard := none }) rfl (fun K hK => ?_) ?_
  · go_simp
    refine (tq_hearE (f := (2, 1, 0, ⟨#[120]⟩)) (E := ⟨0, 4, 4, true, 0, [], 0, []⟩) (E' := ⟨2, 4, 4, true, 0, [], 0, [⟨#[120]⟩]⟩) (an := true) (by rfl) (by rfl) (by decide) (by decide) (H6.out.asit (w' := w6.drew) rfl rfl rfl rfl)).mono ?_
    rintro e y7 ⟨rfl, ⟨cs7, cr7, h⟩, ho⟩
    have hr7 := (RowF.asit (w' := w6.drew) HR6.out rfl).oth ho
    obtain ⟨m0, m1, m2, m3⟩ := hr7.f4 0 (by decide)
    have HR7 := Lib.hid hr7
    have H7h := Lib.hid h
    clear h ho hr7
    go_wp2_with fail
    refine hK.out _ _ ?_ (fun hH => ?_)
    · exact ⟨m0, m1, m2, m3⟩
    clear hK K
    try simp only [Act.put, List.setIfInBounds_toArray, List.set_cons_zero, List.set_cons_succ]
    refine wpAnyH_ready (rs := [9]) (by kernel_rfl) (by simp) ?_
    refine AllReadyH.cons (o := { dst := some 48, op := Go.Op.call { callee := Go.Callee.value (Go.Operand.func 16), args := #[Go.Operand.tmp 44, Go.Operand.tmp 47], argTypes := #[24, 31] }, type := 4, pos := "law.go:31", after := #[{ on := 5, ground := Go.Ground.data }, { on := 8, ground := Go.Ground.data }, { on := 4, ground := Go.Ground.chain }], guard := none }) rfl (fun K hK => ?_) ?_
    · go_simp
      refine (tq_hearE (f := (2, 1, 0, ⟨#[120]⟩)) (E := ⟨2, 4, 4, true, 0, [], 0, [⟨#[120]⟩]⟩) (E' := ⟨2, 4, 4, true, 0, [], 0, [⟨#[120]⟩]⟩) (an := false) (by rfl) (by rfl) (by decide) (by decide) H7h.out).mono ?_
      rintro e y8 ⟨rfl, ⟨cs8, cr8, h⟩, ho⟩
      have hr8 := HR7.out.oth ho
      obtain ⟨m0, m1, m2, m3⟩ := hr8.f4 0 (by decide)
      have HR8 := Lib.hid hr8
      have H8h := Lib.hid h
      clear h ho hr8
      go_wp2_with fail
      refine hK.out _ _ ?_ (fun hH => ?_)
      · exact ⟨m0, m1, m2, m3⟩
      clear hK K
      try simp only [Act.put, List.setIfInBounds_toArray, List.set_cons_zero, List.set_cons_succ]
      refine wpAnyH_take (i := 10) (oi := { dst := some 6, op := Go.Op.assign (Go.Operand.tmp 43), type := 4, pos := "law.go:31", after := #[{ on := 4, ground := Go.Ground.data }, { on := 9, ground := Go.Ground.chain }, { on := 0, ground := Go.Ground.phase }, { on := 1, ground := Go.Ground.phase }, { on := 2, ground := Go.Ground.phase }, { on := 3, ground := Go.Ground.phase }, { on := 4, ground := Go.Ground.phase }, { on := 5, ground := Go.Ground.textOnly Go.Departure.lateStores }, { on := 6, ground := Go.Ground.textOnly Go.Departure.lateStores }, { on := 7, ground := Go.Ground.textOnly Go.Departure.lateStores }, { on := 8, ground := Go.Ground.textOnly Go.Departure.lateStores }, { on := 9, ground := Go.Ground.textOnly Go.Departure.lateStoresUnsure }], guard := none }) (v := ?_) rfl (by kernel_rfl) (by kernel_rfl) (by kernel_rfl) (fun _ _ _ h => h) (Or.inl ⟨by rfl, ?_⟩) (by assumption) ?_
      rotate_left
      · intro w hSw
        try dsimp only at hSw
        obtain ⟨q0, q1, q2, q3⟩ := hSw
        go_simp
        all_goals with_reducible rfl
      try simp only [Act.put, List.setIfInBounds_toArray, List.set_cons_zero, List.set_cons_succ]
      refine wpAnyH_take (i := 11) (oi := { dst := some 7, op := Go.Op.assign (Go.Operand.tmp 48), type := 4, pos := "law.go:31", after := #[{ on := 9, ground := Go.Ground.data }, { on := 10, ground := Go.Ground.chain }, { on := 0, ground := Go.Ground.phase }, { on := 1, ground := Go.Ground.phase }, { on := 2, ground := Go.Ground.phase }, { on := 3, ground := Go.Ground.phase }, { on := 4, ground := Go.Ground.phase }, { on := 5, ground := Go.Ground.phase }, { on := 6, ground := Go.Ground.phase }, { on := 7, ground := Go.Ground.phase }, { on := 8, ground := Go.Ground.phase }, { on := 9, ground := Go.Ground.phase }, { on := 10, ground := Go.Ground.phase }], guard := none }) (v := ?_) rfl (by kernel_rfl) (by kernel_rfl) (by kernel_rfl) (fun _ _ _ h => h) (Or.inl ⟨by rfl, ?_⟩) (by assumption) ?_
      rotate_left
      · intro w hSw
        try dsimp only at hSw
        obtain ⟨q0, q1, q2, q3⟩ := hSw
        go_simp
        all_goals with_reducible rfl
      try simp only [Act.put, List.setIfInBounds_toArray, List.set_cons_zero, List.set_cons_succ]
      refine wpAnyH_done (by kernel_rfl) ?_ _
      clear n0 n1 n2 n3 m0 m1 m2 m3 HR7 HR8 H7h HR6 H6
      have H8 : Hid (Tq ba w y8 bb cs8 cr8 ⟨2, 4, 4, true, 0, [], 0, [⟨#[120]⟩]⟩ ba bs br ⟨2, 4, 4, false, 0, [⟨#[120]⟩], 0, []⟩) := H8h
      have p5 : y8.cell? ⟨bb, 5, none⟩ = some (.pointer (some ⟨cr8, 0, none⟩)) := H8h.out.t1.c5
      clear H8h
      go_wp2_with fail
      refine (tq_popE (E' := ⟨2, 4, 4, true, 0, [], 1, []⟩) (hd := ⟨#[120]⟩) (he := true) (by rfl) (by rfl) (by rfl) (by decide) H8.out).mono ?_
      rintro e w9 ⟨rfl, h, _⟩
      have H9 := Lib.hid h
      clear h H8 p5
      go_wp2_with fail
      refine (tq_frames (G := [(2, 0, 1, ⟨#[]⟩)]) (n := 1) (by rfl) rfl H9.out).mono ?_
      rintro e wa ⟨a2, c2, rfl, hr, _, h⟩
      have HA : Hid (Tq _ _ (wa.alloc (.cells #[.int .i64 2, .int .i64 0, .int .i64 1, .string ⟨#[]⟩] 31)) _ _ _ _ _ _ _ _) := Lib.hid (h.next (Joins.below_alloc1 _ _))
      have HR := Lib.hid (hr.alloc (.cells #[.int .i64 2, .int .i64 0, .int .i64 1, .string ⟨#[]⟩] 31))
      have HF := Lib.hid (fsAt_one wa 2 0 1 ⟨#[]⟩)
      clear h hr H9
      go_wp2_with fail
      refine (samef_yes _ _ 1 _ _ [(2, 0, 1, ⟨#[]⟩)] (by decide) _ (HR.out.isF rfl).1 HF.out).mono ?_
      rintro e wb ⟨rfl, e1, e2, e3, e4⟩
      have HBq := Lib.hid (HA.out.asit e1 e2 e3 e4).swap
      have hr6 := HR.out.asit e1
      rcases hr6.2 with ⟨hv2, h0⟩ | ⟨gm, cap, cur, hv2, _⟩
      · cases h0
      cases hv2
      obtain ⟨n0, n1, n2, n3⟩ := RowF.f4 (fs := [(2, 0, 1, ⟨#[]⟩)]) hr6 0 (by decide)
      clear hr6 e1 e2 e3 e4 HA HR HF
      change wb.cell? ⟨gm, 0, none⟩ = some (.int .i64 2) at n0
      change wb.cell? ⟨gm, 1, none⟩ = some (.int .i64 0) at n1
      change wb.cell? ⟨gm, 2, none⟩ = some (.int .i64 1) at n2
      change wb.cell? ⟨gm, 3, none⟩ = some (.string ⟨#[]⟩) at n3
      go_wp2_with fail
      refine (tq_hearE (f := (2, 0, 1, ⟨#[]⟩)) (E := ⟨2, 4, 4, false, 0, [⟨#[120]⟩], 0, []⟩) (E' := ⟨2, 4, 4, false, 1, [], 0, []⟩) (an := false) (by rfl) (by rfl) (by decide) (by decide) HBq.out).mono ?_
      rintro e wc ⟨rfl, ⟨bs2, br2, h⟩, _⟩
      have HC := Lib.hid h
      clear h HBq n0 n1 n2 n3
      have p4 := HC.out.t1.c4
      have p5 := HC.out.t2.c5
      go_wp2_with fail
      refine (tu_epoch (n := 2) rfl _ HC.out.t2).mono ?_
      rintro e wd ⟨rfl, rfl⟩
      go_wp2_with fail
      refine (tu_unack (n := 0) rfl _ HC.out.t1).mono ?_
      rintro e we ⟨rfl, rfl⟩
      go_wp2_with fail
      refine (tu_wait (n := 0) rfl _ HC.out.t2).mono ?_
      rintro e wf ⟨rfl, rfl⟩
      go_wp2
      go_ret
      exact ⟨rfl, by first | exact HC.out.bel | (rw [HBB.out]; exact HC.out.bel)⟩
    exact AllReadyH.nil
  exact AllReadyH.nil
end Go.Proofs.Ytclobdejlihblaa
