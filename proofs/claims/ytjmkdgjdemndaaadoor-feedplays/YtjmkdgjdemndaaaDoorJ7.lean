/- The document's end: Frames. -/
import Derived.Test.YtjmkdgjdemndaaaDoorJ5
import Derived.Test.YtjmkdgjdemndaaaDoorJ4
namespace Go.Proofs.YtjmkdgjdemndaaaDoor.K
open Go Go.RowKit
set_option maxRecDepth 20000
theorem frs_snoc (ep a : Int) (k : Nat) (ds : List ByteArray) (i : Nat) (hi : i < ds.length) : (frs ep a k ds).take (i + 1) = (frs ep a k ds).take i ++ [(ep, ((k + i + 1 : Nat) : Int), a, ds.getD i emp)] := by
  have hl := frs_len ep a k ds
  have hg := frs_get ep a k ds i hi
  rw [List.take_add_one, List.getElem?_eq_getElem (by omega)]
  rw [List.getD_eq_getElem?_getD, List.getElem?_eq_getElem (by omega)] at hg
  simp only [Option.getD_some] at hg
  rw [hg]
  rfl
/-- How it stands within the document's Frames, before the piece i. -/
structure DF (B0 : Nat) (w wr : World) (a : Option Addr) (c : Nat) (ds : List ByteArray) (ao : Option Addr) (co : Nat) (fs : List Fra) (n : Nat) : Prop where
  bel : Below B0 w wr
  le : B0 ≤ wr.heap.size
  lft : RowS B0 wr (.slice a ds.length c) ds
  out : RowF B0 wr (.slice ao n co) fs
  len : fs.length = n
section
variable {B0 : Nat} {w wr wr' : World} {a ao : Option Addr} {c co n : Nat} {ds : List ByteArray} {fs : List Fra}
theorem DF.next (h : DF B0 w wr a c ds ao co fs n) (hb : Below wr.heap.size wr wr') : DF B0 w wr' a c ds ao co fs n :=
  ⟨h.bel.trans (hb.mono h.le), Nat.le_trans h.le hb.size, h.lft.below hb, h.out.below hb, h.len⟩
theorem DF.asit (h : DF B0 w wr a c ds ao co fs n) (e : wr'.heap = wr.heap) (e1 : wr'.os = wr.os) (e2 : wr'.tape = wr.tape) (e3 : wr'.output = wr.output) : DF B0 w wr' a c ds ao co fs n := h.next (below_asit e e1 e2 e3)
theorem DF.cell (h : DF B0 w wr a c ds ao co fs n) (i : Nat) (hi : i < ds.length) : ∃ g, a = some ⟨g, 0, none⟩ ∧ wr.cell? ⟨g, i, none⟩ = some (.string (ds.getD i emp)) := by
  rcases h.lft.2 with ⟨e, h0⟩ | ⟨g, cap, cur, e, hb, hg, _⟩
  · omega
  · cases e
    refine ⟨g, rfl, ?_⟩
    have h1 := World.ownsRow.cellAt h.lft i (by omega)
    rw [h1]
    simp [flS, List.getD_eq_getElem?_getD, hi]
/-- A frame more, in the row of the world w5. -/
theorem DF.app (h : DF B0 w wr a c ds ao co fs n) {w5 : World} {a' : Option Addr} {c' m : Nat} {gs : List Fra} (hr : RowF B0 w5 (.slice a' m c') gs) (hm : gs.length = m) (hg : wr.grownBy w5 (Value.slice ao n co).ownBlock) : DF B0 w w5 a c ds a' c' gs m :=
  ⟨h.bel.grown hg h.le (fun j hj => (h.out.lt j hj).1), Nat.le_trans h.le hg.size, h.lft.kept hg (by
    rcases ho : (Value.slice a ds.length c).ownBlock with _ | X
    · exact .inl rfl
    · refine .inr fun e => ?_
      obtain ⟨cu, hc⟩ := h.lft.typ X ho
      obtain ⟨cu', hc'⟩ := h.out.typ X (by rw [← e])
      exact two_types hc hc' (by decide) rfl), hr, hm⟩
end
theorem step_appF1 {ops : Array Oper} {o : Oper} {a : Act} {K : Act → World → Prop} {Q : Exit → Act → World → Prop} {E : Prop} {w : World} (hw : Region.wanted o (yielded ops a.tmps) = true) (s x : Operand)
    (ho : o.op = .call { callee := .builtin .append, args := #[s, x], argTypes := #[54, 54] })
    (B : Nat) (ao : Option Addr) (n co : Nat) (l : List Fra) (hln : l.length = n) (hs : a.eval s = .slice ao n co) (hrow : RowF B w (.slice ao n co) l) (ad : Addr) (hx : a.eval x = .slice (some ad) 1 1) (f : Fra) (hu : FsAt w (some ad) 1 [f]) (hb : n ≤ 100000) (hB : B ≤ w.heap.size)
    (h : ∀ a' c' w', RowF B w' (.slice a' (n + 1) c') (l ++ [f]) → w.grownBy w' (Value.slice ao n co).ownBlock → K (a.put o.dst (.slice a' (n + 1) c')) w') :
    if Region.wanted o (yielded ops a.tmps) = true then Oper.wp Tryd.prog o a w K Q else E := by
  subst hln
  exact step_appF hw s x ho B _ l hs hrow (some ad) 1 1 hx [f] hu (Nat.le_refl _) (fun e => by cases e) (by omega) hB (fun a' c' w' h1 h2 _ => h a' c' w' h1 h2)
theorem dead_len {l m : List ByteArray} {n : Nat} (h : (l ++ m).length = n) : ((l.length + m.length : Nat) : Int) = (n : Int) := by rw [← h, List.length_append]
theorem dlframes_zero {B b bs br : Nat} {v v2 : Value} {pre pre2 : List ByteArray} {E : En} (h0 : E.ep = 0) (w : World) (h : Dx B w b bs v br v2 pre pre2 E) :
    Calls Tryd.prog 24 #[.pointer (some ⟨b, 0, none⟩)] w fun e w' => ∃ a c, e = .returned (.slice a 0 c) ∧ RowF w.heap.size w' (.slice a 0 c) [] ∧ Below w.heap.size w w' := by
  have c0 := (h.next (Joins.below_alloc1 w (.cells #[] 40))).blk.c0
  rw [h0] at c0
  clear h
  go_enter Tryd.func24, Tryd.ntmps24
  go_wp2
  go_ret
  exact ⟨_, _, rfl, rowF_new w, Joins.below_alloc1 w _⟩
set_option maxHeartbeats 8000000 in
theorem dlframes_some {B b bs br : Nat} {v v2 : Value} {pre pre2 : List ByteArray} {E : En} (hp : pre.length ≤ 10000) (h0 : E.ep ≠ 0) (hd : E.ds.length ≠ 0) (w : World) (h : Dx B w b bs v br v2 pre pre2 E) :
    Calls Tryd.prog 24 #[.pointer (some ⟨b, 0, none⟩)] w fun e w' => ∃ a c, e = .returned (.slice a E.ds.length c) ∧ RowF w.heap.size w' (.slice a E.ds.length c) (frs E.ep E.ackn E.k E.ds) ∧ Below w.heap.size w w' := by
  obtain ⟨ep, wa, ra, pas, k, ds, q, ps⟩ := E
  have HH := Lib.hid h
  obtain ⟨ax, cx, hv2, _⟩ := h.dr.row.is
  subst hv2
  have hkk := h.kk
  have hqq := h.qq
  simp only at hkk hqq
  subst hkk hqq
  obtain ⟨LL, hLL⟩ : ∃ n, (pre2 ++ ps).length = n := ⟨_, rfl⟩
  obtain ⟨P, hP⟩ : ∃ n : Int, (pre.length : Int) = n := ⟨_, rfl⟩
  have HD : Hid (∀ W, Below w.heap.size w W → W.cell? ⟨b, 0, none⟩ = some (.int .i64 ep) ∧ W.cell? ⟨b, 1, none⟩ = some (.pointer (some ⟨bs, 0, none⟩)) ∧ W.cell? ⟨bs, 3, none⟩ = some (.int .i64 P) ∧ W.cell? ⟨b, 2, none⟩ = some (.pointer (some ⟨br, 0, none⟩)) ∧ W.cell? ⟨br, 1, none⟩ = some (.slice ax LL cx)) := Lib.hid fun W hb => by
    have hh := HH.out.next hb
    have h4 := hh.dr.c1
    have h3 := hh.sn.c3
    rw [hLL] at h4
    rw [hP] at h3
    exact ⟨hh.blk.c0, hh.blk.c1, h3, hh.blk.c2, h4⟩
  simp only [En.ackn] at h0 hd ⊢
  rw [dead_len hLL]
  clear hLL
  have k0 : (ep == 0) = false := by simpa using h0
  have k1 : decide (ep = 0) = false := by simpa using h0
  have HP := Lib.hid hP
  have HNL := Lib.hid (rowF_new w)
  have HN := Lib.hid (HD.out _ (Joins.below_alloc1 w (.cells #[] 40)))
  have hdm := (HH.out.next (Joins.below_alloc1 w (.cells #[] 40))).sn
  have hl : ds.length ≤ 16 := by have := hdm.ok.len; have := hdm.ok.w2; simp only at *; omega
  have HL := Lib.hid (left_any (show ds.length ≤ 10000 by omega) _ hdm)
  obtain ⟨z0, z1, z2, z3, z4⟩ := HN.out
  clear h hdm HH hP h0
  go_enter Tryd.func24, Tryd.ntmps24
  go_wp2_with fail
  refine HL.out.mono ?_
  rintro e w2 ⟨a', c', rfl, hrow, hb⟩
  have hsz : w.heap.size ≤ (w.alloc (.cells #[] 40)).heap.size := by simp
  generalize hB0 : w.heap.size = B0 at *
  have HB0 := Lib.hid hB0
  have HST : Hid (DF B0 w w2 a' c' ds (some ⟨B0, 0, none⟩) 0 [] 0) := Lib.hid ⟨by rw [← hB0]; exact (Joins.below_alloc1 w _).trans (hb.mono (by rw [hB0]; exact hsz)), Nat.le_trans hsz hb.size, hrow.lower hsz, HNL.out.below hb, rfl⟩
  clear hrow hb hB0 hsz HNL HN HL z0 z1 z2 z3 z4
  go_wp2_with fail
  have k2 : ((ds.length : Int) == 0) = false := beq_eq_false_iff_ne.2 (by omega)
  have k3 : decide ((ds.length : Int) = 0) = false := decide_eq_false (by omega)
  go_loopw [3, 5] (fun v3 v5 wr => ∃ i : Nat, i ≤ ds.length ∧ v5 = .int .i64 i ∧ ∃ ao co, v3 = .slice ao i co ∧ DF B0 w wr a' c' ds ao co ((frs ep (LL : Int) pre.length ds).take i) i) (fun _ v5 _ => ds.length - (intOf v5).toNat)
  case atStart => exact ⟨0, Nat.zero_le _, rfl, _, _, rfl, HST.out⟩
  case round =>
    obtain ⟨i, hi, rfl, ao, co, rfl, hst⟩ := hrel
    clear HST
    by_cases hlt : i < ds.length
    · obtain ⟨gl, rfl, _⟩ := hst.cell i hlt
      obtain ⟨x, hx⟩ : ∃ x, ds.getD i emp = x := ⟨_, rfl⟩
      obtain ⟨Q1, hQ1⟩ : ∃ Q : Int, ((pre.length + i : Nat) : Int) = Q := ⟨_, rfl⟩
      obtain ⟨Q2, hQ2⟩ : ∃ Q : Int, ((pre.length + i + 1 : Nat) : Int) = Q := ⟨_, rfl⟩
      have n1 : IntKind.i64.wrap (P + (i : Int)) = Q1 := by
        rw [← HP.out, ← hQ1, show (pre.length : Int) + (i : Int) = ((pre.length + i : Nat) : Int) by omega]
        exact i64_id (by omega) (by omega)
      have n2 : IntKind.i64.wrap (Q1 + 1) = Q2 := by
        rw [← hQ1, ← hQ2, show ((pre.length + i : Nat) : Int) + 1 = ((pre.length + i + 1 : Nat) : Int) by omega]
        exact i64_id (by omega) (by omega)
      have hal := hst.next (Joins.below_alloc1 wr (.cells #[.int .i64 ep, .int .i64 Q2, .int .i64 (LL : Int), .string x] 40))
      obtain ⟨m0, m1, m2, m3, m4⟩ := HD.out _ hal.bel
      obtain ⟨d0, d1, d2, d3, d4⟩ := HD.out _ hst.bel
      have cel : ∀ W ao co n fs, DF B0 w W (some ⟨gl, 0, none⟩) c' ds ao co fs n → W.cell? ⟨gl, i, none⟩ = some (.string x) := fun W ao co n fs h => by
        obtain ⟨g', e', h'⟩ := h.cell i hlt
        cases e'
        rw [h', hx]
      have m5 := cel _ _ _ _ _ hal
      have d5 := cel _ _ _ _ _ hst
      have CEL := Lib.hid cel
      have HQ2 := Lib.hid hQ2
      have HAL := Lib.hid hal
      have HX := Lib.hid hx
      clear hst hal hx cel hQ2 hQ1
      go_wp2_with fail
      refine wp_region_held_drew (S := fun w' => w'.cell? ⟨b, 0, none⟩ = some (.int .i64 ep) ∧ w'.cell? ⟨b, 1, none⟩ = some (.pointer (some ⟨bs, 0, none⟩)) ∧ w'.cell? ⟨bs, 3, none⟩ = some (.int .i64 P) ∧ w'.cell? ⟨b, 2, none⟩ = some (.pointer (some ⟨br, 0, none⟩)) ∧ w'.cell? ⟨br, 1, none⟩ = some (.slice ax LL cx) ∧ w'.cell? ⟨gl, i, none⟩ = some (.string x)) (by kernel_rfl) ?_ (fun hH => ?_)
      · exact ⟨d0, d1, d2, d3, d4, d5⟩
      refine wpAnyH_take (i := 0) (oi := { dst := some 24, op := Go.Op.move (Go.Operand.tmp 3), type := 54, pos := "ref.go:48", after := #[], guard := none }) (v := ?_) rfl (by kernel_rfl) (by kernel_rfl) (by kernel_rfl) (fun _ _ _ h => h) (Or.inl ⟨by rfl, ?_⟩) (by assumption) ?_
      rotate_left
      · intro w hSw
        try dsimp only at hSw
        obtain ⟨q0, q1, q2, q3, q4, q5⟩ := hSw
        go_simp
        all_goals with_reducible rfl
      try simp only [Act.put, List.setIfInBounds_toArray, List.set_cons_zero, List.set_cons_succ]
      refine wpAnyH_take (i := 1) (oi := { dst := some 25, op := Go.Op.move (Go.Operand.tmp 0), type := 32, pos := "ref.go:48", after := #[], guard := none }) (v := ?_) rfl (by kernel_rfl) (by kernel_rfl) (by kernel_rfl) (fun _ _ _ h => h) (Or.inl ⟨by rfl, ?_⟩) (by assumption) ?_
      rotate_left
      · intro w hSw
        try dsimp only at hSw
        obtain ⟨q0, q1, q2, q3, q4, q5⟩ := hSw
        go_simp
        all_goals with_reducible rfl
      try simp only [Act.put, List.setIfInBounds_toArray, List.set_cons_zero, List.set_cons_succ]
      refine wpAnyH_take (i := 2) (oi := { dst := some 26, op := Go.Op.nilCheck (Go.Operand.tmp 25), type := 0, pos := "ref.go:48", after := #[{ on := 1, ground := Go.Ground.data }], guard := none }) (v := ?_) rfl (by kernel_rfl) (by kernel_rfl) (by kernel_rfl) (fun _ _ _ h => h) (Or.inl ⟨by rfl, ?_⟩) (by assumption) ?_
      rotate_left
      · intro w hSw
        try dsimp only at hSw
        obtain ⟨q0, q1, q2, q3, q4, q5⟩ := hSw
        go_simp
        all_goals with_reducible rfl
      try simp only [Act.put, List.setIfInBounds_toArray, List.set_cons_zero, List.set_cons_succ]
      refine wpAnyH_take (i := 3) (oi := { dst := some 27, op := Go.Op.fieldAddr 82 (Go.Operand.tmp 26) 0, type := 0, pos := "ref.go:48", after := #[{ on := 2, ground := Go.Ground.data }], guard := none }) (v := ?_) rfl (by kernel_rfl) (by kernel_rfl) (by kernel_rfl) (fun _ _ _ h => h) (Or.inl ⟨by rfl, ?_⟩) (by assumption) ?_
      rotate_left
      · intro w hSw
        try dsimp only at hSw
        obtain ⟨q0, q1, q2, q3, q4, q5⟩ := hSw
        go_simp
        all_goals with_reducible rfl
      try simp only [Act.put, List.setIfInBounds_toArray, List.set_cons_zero, List.set_cons_succ]
      refine wpAnyH_take (i := 4) (oi := { dst := some 28, op := Go.Op.load 3 (Go.Operand.tmp 27), type := 3, pos := "ref.go:48", after := #[{ on := 3, ground := Go.Ground.data }], guard := none }) (v := ?_) rfl (by kernel_rfl) (by kernel_rfl) (by kernel_rfl) (fun _ _ _ h => h) (Or.inl ⟨by rfl, ?_⟩) (by assumption) ?_
      rotate_left
      · intro w hSw
        try dsimp only at hSw
        obtain ⟨q0, q1, q2, q3, q4, q5⟩ := hSw
        go_simp
        all_goals with_reducible rfl
      try simp only [Act.put, List.setIfInBounds_toArray, List.set_cons_zero, List.set_cons_succ]
      refine wpAnyH_take (i := 5) (oi := { dst := some 29, op := Go.Op.move (Go.Operand.tmp 0), type := 32, pos := "ref.go:48", after := #[], guard := none }) (v := ?_) rfl (by kernel_rfl) (by kernel_rfl) (by kernel_rfl) (fun _ _ _ h => h) (Or.inl ⟨by rfl, ?_⟩) (by assumption) ?_
      rotate_left
      · intro w hSw
        try dsimp only at hSw
        obtain ⟨q0, q1, q2, q3, q4, q5⟩ := hSw
        go_simp
        all_goals with_reducible rfl
      try simp only [Act.put, List.setIfInBounds_toArray, List.set_cons_zero, List.set_cons_succ]
      refine wpAnyH_take (i := 6) (oi := { dst := some 30, op := Go.Op.nilCheck (Go.Operand.tmp 29), type := 0, pos := "ref.go:48", after := #[{ on := 5, ground := Go.Ground.data }], guard := none }) (v := ?_) rfl (by kernel_rfl) (by kernel_rfl) (by kernel_rfl) (fun _ _ _ h => h) (Or.inl ⟨by rfl, ?_⟩) (by assumption) ?_
      rotate_left
      · intro w hSw
        try dsimp only at hSw
        obtain ⟨q0, q1, q2, q3, q4, q5⟩ := hSw
        go_simp
        all_goals with_reducible rfl
      try simp only [Act.put, List.setIfInBounds_toArray, List.set_cons_zero, List.set_cons_succ]
      refine wpAnyH_take (i := 7) (oi := { dst := some 31, op := Go.Op.fieldAddr 82 (Go.Operand.tmp 30) 1, type := 0, pos := "ref.go:48", after := #[{ on := 6, ground := Go.Ground.data }], guard := none }) (v := ?_) rfl (by kernel_rfl) (by kernel_rfl) (by kernel_rfl) (fun _ _ _ h => h) (Or.inl ⟨by rfl, ?_⟩) (by assumption) ?_
      rotate_left
      · intro w hSw
        try dsimp only at hSw
        obtain ⟨q0, q1, q2, q3, q4, q5⟩ := hSw
        go_simp
        all_goals with_reducible rfl
      try simp only [Act.put, List.setIfInBounds_toArray, List.set_cons_zero, List.set_cons_succ]
      refine wpAnyH_take (i := 8) (oi := { dst := some 32, op := Go.Op.load 79 (Go.Operand.tmp 31), type := 79, pos := "ref.go:48", after := #[{ on := 7, ground := Go.Ground.data }], guard := none }) (v := ?_) rfl (by kernel_rfl) (by kernel_rfl) (by kernel_rfl) (fun _ _ _ h => h) (Or.inl ⟨by rfl, ?_⟩) (by assumption) ?_
      rotate_left
      · intro w hSw
        try dsimp only at hSw
        obtain ⟨q0, q1, q2, q3, q4, q5⟩ := hSw
        go_simp
        all_goals with_reducible rfl
      try simp only [Act.put, List.setIfInBounds_toArray, List.set_cons_zero, List.set_cons_succ]
      refine wpAnyH_take (i := 9) (oi := { dst := some 33, op := Go.Op.nilCheck (Go.Operand.tmp 32), type := 0, pos := "ref.go:48", after := #[{ on := 8, ground := Go.Ground.data }], guard := none }) (v := ?_) rfl (by kernel_rfl) (by kernel_rfl) (by kernel_rfl) (fun _ _ _ h => h) (Or.inl ⟨by rfl, ?_⟩) (by assumption) ?_
      rotate_left
      · intro w hSw
        try dsimp only at hSw
        obtain ⟨q0, q1, q2, q3, q4, q5⟩ := hSw
        go_simp
        all_goals with_reducible rfl
      try simp only [Act.put, List.setIfInBounds_toArray, List.set_cons_zero, List.set_cons_succ]
      refine wpAnyH_take (i := 10) (oi := { dst := some 34, op := Go.Op.fieldAddr 100 (Go.Operand.tmp 33) 3, type := 0, pos := "ref.go:48", after := #[{ on := 9, ground := Go.Ground.data }], guard := none }) (v := ?_) rfl (by kernel_rfl) (by kernel_rfl) (by kernel_rfl) (fun _ _ _ h => h) (Or.inl ⟨by rfl, ?_⟩) (by assumption) ?_
      rotate_left
      · intro w hSw
        try dsimp only at hSw
        obtain ⟨q0, q1, q2, q3, q4, q5⟩ := hSw
        go_simp
        all_goals with_reducible rfl
      try simp only [Act.put, List.setIfInBounds_toArray, List.set_cons_zero, List.set_cons_succ]
      refine wpAnyH_take (i := 11) (oi := { dst := some 35, op := Go.Op.load 3 (Go.Operand.tmp 34), type := 3, pos := "ref.go:48", after := #[{ on := 10, ground := Go.Ground.data }], guard := none }) (v := ?_) rfl (by kernel_rfl) (by kernel_rfl) (by kernel_rfl) (fun _ _ _ h => h) (Or.inl ⟨by rfl, ?_⟩) (by assumption) ?_
      rotate_left
      · intro w hSw
        try dsimp only at hSw
        obtain ⟨q0, q1, q2, q3, q4, q5⟩ := hSw
        go_simp
        all_goals with_reducible rfl
      try simp only [Act.put, List.setIfInBounds_toArray, List.set_cons_zero, List.set_cons_succ]
      refine wpAnyH_take (i := 12) (oi := { dst := some 36, op := Go.Op.move (Go.Operand.tmp 5), type := 3, pos := "ref.go:48", after := #[], guard := none }) (v := ?_) rfl (by kernel_rfl) (by kernel_rfl) (by kernel_rfl) (fun _ _ _ h => h) (Or.inl ⟨by rfl, ?_⟩) (by assumption) ?_
      rotate_left
      · intro w hSw
        try dsimp only at hSw
        obtain ⟨q0, q1, q2, q3, q4, q5⟩ := hSw
        go_simp
        all_goals with_reducible rfl
      try simp only [Act.put, List.setIfInBounds_toArray, List.set_cons_zero, List.set_cons_succ]
      refine wpAnyH_take (i := 13) (oi := { dst := some 37, op := Go.Op.binOp Go.BinOp.add 3 (Go.Operand.tmp 35) (Go.Operand.tmp 36) 3, type := 3, pos := "ref.go:48", after := #[{ on := 11, ground := Go.Ground.data }, { on := 12, ground := Go.Ground.data }], guard := none }) (v := ?_) rfl (by kernel_rfl) (by kernel_rfl) (by kernel_rfl) (fun _ _ _ h => h) (Or.inl ⟨by rfl, ?_⟩) (by assumption) ?_
      rotate_left
      · intro w hSw
        try dsimp only at hSw
        obtain ⟨q0, q1, q2, q3, q4, q5⟩ := hSw
        go_simp
        all_goals with_reducible rfl
      try simp only [Act.put, List.setIfInBounds_toArray, List.set_cons_zero, List.set_cons_succ]
      refine wpAnyH_take (i := 14) (oi := { dst := some 38, op := Go.Op.binOp Go.BinOp.add 3 (Go.Operand.tmp 37) (Go.Operand.const (Go.Value.int Go.IntKind.i64 1)) 3, type := 3, pos := "ref.go:48", after := #[{ on := 13, ground := Go.Ground.data }], guard := none }) (v := ?_) rfl (by kernel_rfl) (by kernel_rfl) (by kernel_rfl) (fun _ _ _ h => h) (Or.inl ⟨by rfl, ?_⟩) (by assumption) ?_
      rotate_left
      · intro w hSw
        try dsimp only at hSw
        obtain ⟨q0, q1, q2, q3, q4, q5⟩ := hSw
        go_simp
        all_goals with_reducible rfl
      try simp only [Act.put, List.setIfInBounds_toArray, List.set_cons_zero, List.set_cons_succ]
      refine wpAnyH_take (i := 15) (oi := { dst := some 39, op := Go.Op.move (Go.Operand.tmp 0), type := 32, pos := "ref.go:48", after := #[], guard := none }) (v := ?_) rfl (by kernel_rfl) (by kernel_rfl) (by kernel_rfl) (fun _ _ _ h => h) (Or.inl ⟨by rfl, ?_⟩) (by assumption) ?_
      rotate_left
      · intro w hSw
        try dsimp only at hSw
        obtain ⟨q0, q1, q2, q3, q4, q5⟩ := hSw
        go_simp
        all_goals with_reducible rfl
      try simp only [Act.put, List.setIfInBounds_toArray, List.set_cons_zero, List.set_cons_succ]
      refine wpAnyH_take (i := 16) (oi := { dst := some 40, op := Go.Op.nilCheck (Go.Operand.tmp 39), type := 0, pos := "ref.go:48", after := #[{ on := 15, ground := Go.Ground.data }], guard := none }) (v := ?_) rfl (by kernel_rfl) (by kernel_rfl) (by kernel_rfl) (fun _ _ _ h => h) (Or.inl ⟨by rfl, ?_⟩) (by assumption) ?_
      rotate_left
      · intro w hSw
        try dsimp only at hSw
        obtain ⟨q0, q1, q2, q3, q4, q5⟩ := hSw
        go_simp
        all_goals with_reducible rfl
      try simp only [Act.put, List.setIfInBounds_toArray, List.set_cons_zero, List.set_cons_succ]
      refine wpAnyH_take (i := 17) (oi := { dst := some 41, op := Go.Op.fieldAddr 82 (Go.Operand.tmp 40) 2, type := 0, pos := "ref.go:48", after := #[{ on := 16, ground := Go.Ground.data }], guard := none }) (v := ?_) rfl (by kernel_rfl) (by kernel_rfl) (by kernel_rfl) (fun _ _ _ h => h) (Or.inl ⟨by rfl, ?_⟩) (by assumption) ?_
      rotate_left
      · intro w hSw
        try dsimp only at hSw
        obtain ⟨q0, q1, q2, q3, q4, q5⟩ := hSw
        go_simp
        all_goals with_reducible rfl
      try simp only [Act.put, List.setIfInBounds_toArray, List.set_cons_zero, List.set_cons_succ]
      refine wpAnyH_take (i := 18) (oi := { dst := some 42, op := Go.Op.load 80 (Go.Operand.tmp 41), type := 80, pos := "ref.go:48", after := #[{ on := 17, ground := Go.Ground.data }], guard := none }) (v := ?_) rfl (by kernel_rfl) (by kernel_rfl) (by kernel_rfl) (fun _ _ _ h => h) (Or.inl ⟨by rfl, ?_⟩) (by assumption) ?_
      rotate_left
      · intro w hSw
        try dsimp only at hSw
        obtain ⟨q0, q1, q2, q3, q4, q5⟩ := hSw
        go_simp
        all_goals with_reducible rfl
      try simp only [Act.put, List.setIfInBounds_toArray, List.set_cons_zero, List.set_cons_succ]
      refine wpAnyH_take (i := 19) (oi := { dst := some 43, op := Go.Op.nilCheck (Go.Operand.tmp 42), type := 0, pos := "ref.go:48", after := #[{ on := 18, ground := Go.Ground.data }], guard := none }) (v := ?_) rfl (by kernel_rfl) (by kernel_rfl) (by kernel_rfl) (fun _ _ _ h => h) (Or.inl ⟨by rfl, ?_⟩) (by assumption) ?_
      rotate_left
      · intro w hSw
        try dsimp only at hSw
        obtain ⟨q0, q1, q2, q3, q4, q5⟩ := hSw
        go_simp
        all_goals with_reducible rfl
      try simp only [Act.put, List.setIfInBounds_toArray, List.set_cons_zero, List.set_cons_succ]
      refine wpAnyH_take (i := 20) (oi := { dst := some 44, op := Go.Op.fieldAddr 102 (Go.Operand.tmp 43) 1, type := 0, pos := "ref.go:48", after := #[{ on := 19, ground := Go.Ground.data }], guard := none }) (v := ?_) rfl (by kernel_rfl) (by kernel_rfl) (by kernel_rfl) (fun _ _ _ h => h) (Or.inl ⟨by rfl, ?_⟩) (by assumption) ?_
      rotate_left
      · intro w hSw
        try dsimp only at hSw
        obtain ⟨q0, q1, q2, q3, q4, q5⟩ := hSw
        go_simp
        all_goals with_reducible rfl
      try simp only [Act.put, List.setIfInBounds_toArray, List.set_cons_zero, List.set_cons_succ]
      refine wpAnyH_take (i := 21) (oi := { dst := some 45, op := Go.Op.load 97 (Go.Operand.tmp 44), type := 97, pos := "ref.go:48", after := #[{ on := 20, ground := Go.Ground.data }], guard := none }) (v := ?_) rfl (by kernel_rfl) (by kernel_rfl) (by kernel_rfl) (fun _ _ _ h => h) (Or.inl ⟨by rfl, ?_⟩) (by assumption) ?_
      rotate_left
      · intro w hSw
        try dsimp only at hSw
        obtain ⟨q0, q1, q2, q3, q4, q5⟩ := hSw
        go_simp
        all_goals with_reducible rfl
      try simp only [Act.put, List.setIfInBounds_toArray, List.set_cons_zero, List.set_cons_succ]
      refine wpAnyH_take (i := 22) (oi := { dst := some 46, op := Go.Op.call { callee := Go.Callee.builtin Go.Builtin.len, args := #[Go.Operand.tmp 45], argTypes := #[97] }, type := 3, pos := "ref.go:48", after := #[{ on := 21, ground := Go.Ground.data }], guard := none }) (v := ?_) rfl (by kernel_rfl) (by kernel_rfl) (by kernel_rfl) (fun _ _ _ h => h) (Or.inl ⟨by rfl, ?_⟩) (by assumption) ?_
      rotate_left
      · intro w hSw
        try dsimp only at hSw
        obtain ⟨q0, q1, q2, q3, q4, q5⟩ := hSw
        go_simp
        all_goals with_reducible rfl
      try simp only [Act.put, List.setIfInBounds_toArray, List.set_cons_zero, List.set_cons_succ]
      refine wpAnyH_take (i := 23) (oi := { dst := some 47, op := Go.Op.move (Go.Operand.tmp 4), type := 97, pos := "ref.go:48", after := #[], guard := none }) (v := ?_) rfl (by kernel_rfl) (by kernel_rfl) (by kernel_rfl) (fun _ _ _ h => h) (Or.inl ⟨by rfl, ?_⟩) (by assumption) ?_
      rotate_left
      · intro w hSw
        try dsimp only at hSw
        obtain ⟨q0, q1, q2, q3, q4, q5⟩ := hSw
        go_simp
        all_goals with_reducible rfl
      try simp only [Act.put, List.setIfInBounds_toArray, List.set_cons_zero, List.set_cons_succ]
      refine wpAnyH_take (i := 24) (oi := { dst := some 48, op := Go.Op.move (Go.Operand.tmp 5), type := 3, pos := "ref.go:48", after := #[], guard := none }) (v := ?_) rfl (by kernel_rfl) (by kernel_rfl) (by kernel_rfl) (fun _ _ _ h => h) (Or.inl ⟨by rfl, ?_⟩) (by assumption) ?_
      rotate_left
      · intro w hSw
        try dsimp only at hSw
        obtain ⟨q0, q1, q2, q3, q4, q5⟩ := hSw
        go_simp
        all_goals with_reducible rfl
      try simp only [Act.put, List.setIfInBounds_toArray, List.set_cons_zero, List.set_cons_succ]
      refine wpAnyH_take (i := 25) (oi := { dst := some 49, op := Go.Op.indexAddr 97 (Go.Operand.tmp 47) (Go.Operand.tmp 48), type := 0, pos := "ref.go:48", after := #[{ on := 23, ground := Go.Ground.data }, { on := 24, ground := Go.Ground.data }], guard := none }) (v := ?_) rfl (by kernel_rfl) (by kernel_rfl) (by kernel_rfl) (fun _ _ _ h => h) (Or.inl ⟨by rfl, ?_⟩) (by assumption) ?_
      rotate_left
      · intro w hSw
        try dsimp only at hSw
        obtain ⟨q0, q1, q2, q3, q4, q5⟩ := hSw
        go_simp
        all_goals with_reducible rfl
      try simp only [Act.put, List.setIfInBounds_toArray, List.set_cons_zero, List.set_cons_succ]
      refine wpAnyH_take (i := 26) (oi := { dst := some 50, op := Go.Op.load 9 (Go.Operand.tmp 49), type := 9, pos := "ref.go:48", after := #[{ on := 25, ground := Go.Ground.data }], guard := none }) (v := ?_) rfl (by kernel_rfl) (by kernel_rfl) (by kernel_rfl) (fun _ _ _ h => h) (Or.inl ⟨by rfl, ?_⟩) (by assumption) ?_
      rotate_left
      · intro w hSw
        try dsimp only at hSw
        obtain ⟨q0, q1, q2, q3, q4, q5⟩ := hSw
        go_simp
        all_goals with_reducible rfl
      try simp only [Act.put, List.setIfInBounds_toArray, List.set_cons_zero, List.set_cons_succ]
      refine wpAnyH_take (i := 27) (oi := { dst := some 51, op := Go.Op.build 40 #[(0, Go.Operand.tmp 28), (1, Go.Operand.tmp 38), (2, Go.Operand.tmp 46), (3, Go.Operand.tmp 50)], type := 40, pos := "ref.go:48", after := #[{ on := 4, ground := Go.Ground.data }, { on := 14, ground := Go.Ground.data }, { on := 22, ground := Go.Ground.data }, { on := 26, ground := Go.Ground.data }], guard := none }) (v := ?_) rfl (by kernel_rfl) (by kernel_rfl) (by kernel_rfl) (fun _ _ _ h => h) (Or.inl ⟨by rfl, ?_⟩) (by assumption) ?_
      rotate_left
      · intro w hSw
        try dsimp only at hSw
        obtain ⟨q0, q1, q2, q3, q4, q5⟩ := hSw
        go_simp
        all_goals with_reducible rfl
      try simp only [Act.put, List.setIfInBounds_toArray, List.set_cons_zero, List.set_cons_succ]
      refine wpAnyH_ready (rs := [28]) (by kernel_rfl) (by simp) ?_
      refine AllReadyH.cons (o := { dst := some 52, op := Go.Op.buildSlice 54 1 #[(0, Go.Operand.tmp 51)], type := 54, pos := "ref.go:48", after := #[{ on := 27, ground := Go.Ground.data }], guard := none }) rfl (fun K hK => ?_) ?_
      · go_simp
        refine hK.out _ _ ?_ (fun hH => ?_)
        · exact ⟨m0, m1, m2, m3, m4, m5⟩
        clear hK K
        try simp only [Act.put, List.setIfInBounds_toArray, List.set_cons_zero, List.set_cons_succ]
        refine wpAnyH_ready (rs := [29]) (by kernel_rfl) (by simp) ?_
        refine AllReadyH.cons (o := { dst := some 53, op := Go.Op.call { callee := Go.Callee.builtin Go.Builtin.append, args := #[Go.Operand.tmp 24, Go.Operand.tmp 52], argTypes := #[54, 54] }, type := 54, pos := "ref.go:48", after := #[{ on := 0, ground := Go.Ground.data }, { on := 28, ground := Go.Ground.data }], guard := none }) rfl (fun K hK => ?_) ?_
        · refine step_appF1 (by rfl) (.tmp 24) (.tmp 52) rfl B0 ao i co _ HAL.out.len rfl (HAL.out.out.asit rfl) _ rfl (ep, Q2, (LL : Int), x) ((fsAt_one wr ep Q2 (LL : Int) x).asit rfl) (by omega) HAL.out.le ?_
          intro a5 c5 w5 hr5 hg5
          have hz := DF.app (HAL.out.asit (wr' := (wr.alloc (.cells #[.int .i64 ep, .int .i64 Q2, .int .i64 (LL : Int), .string x] 40)).drew) rfl rfl rfl rfl) hr5 (by rw [List.length_append, HAL.out.len]; rfl) hg5
          obtain ⟨y0, y1, y2, y3, y4⟩ := HD.out _ hz.bel
          have y5 := CEL.out _ _ _ _ _ hz
          have HZ := Lib.hid hz
          clear hr5 hg5 hz
          refine hK.out _ _ ?_ (fun hH => ?_)
          · exact ⟨y0, y1, y2, y3, y4, y5⟩
          clear hK K
          try simp only [Act.put, List.setIfInBounds_toArray, List.set_cons_zero, List.set_cons_succ]
          refine wpAnyH_take (i := 30) (oi := { dst := some 3, op := Go.Op.assign (Go.Operand.tmp 53), type := 54, pos := "ref.go:48", after := #[{ on := 29, ground := Go.Ground.data }, { on := 29, ground := Go.Ground.chain }, { on := 0, ground := Go.Ground.phase }, { on := 1, ground := Go.Ground.phase }, { on := 2, ground := Go.Ground.phase }, { on := 3, ground := Go.Ground.phase }, { on := 4, ground := Go.Ground.phase }, { on := 5, ground := Go.Ground.phase }, { on := 6, ground := Go.Ground.phase }, { on := 7, ground := Go.Ground.phase }, { on := 8, ground := Go.Ground.phase }, { on := 9, ground := Go.Ground.phase }, { on := 10, ground := Go.Ground.phase }, { on := 11, ground := Go.Ground.phase }, { on := 12, ground := Go.Ground.phase }, { on := 13, ground := Go.Ground.phase }, { on := 14, ground := Go.Ground.phase }, { on := 15, ground := Go.Ground.phase }, { on := 16, ground := Go.Ground.phase }, { on := 17, ground := Go.Ground.phase }, { on := 18, ground := Go.Ground.phase }, { on := 19, ground := Go.Ground.phase }, { on := 20, ground := Go.Ground.phase }, { on := 21, ground := Go.Ground.phase }, { on := 22, ground := Go.Ground.phase }, { on := 23, ground := Go.Ground.phase }, { on := 24, ground := Go.Ground.phase }, { on := 25, ground := Go.Ground.phase }, { on := 26, ground := Go.Ground.phase }, { on := 27, ground := Go.Ground.phase }, { on := 28, ground := Go.Ground.phase }, { on := 29, ground := Go.Ground.phase }], guard := none }) (v := ?_) rfl (by kernel_rfl) (by kernel_rfl) (by kernel_rfl) (fun _ _ _ h => h) (Or.inl ⟨by rfl, ?_⟩) (by assumption) ?_
          rotate_left
          · intro w hSw
            try dsimp only at hSw
            obtain ⟨q0, q1, q2, q3, q4, q5⟩ := hSw
            go_simp
            all_goals with_reducible rfl
          try simp only [Act.put, List.setIfInBounds_toArray, List.set_cons_zero, List.set_cons_succ]
          refine wpAnyH_done (by kernel_rfl) ?_ _
          clear m0 m1 m2 m3 m4 m5 d0 d1 d2 d3 d4 d5 y0 y1 y2 y3 y4 y5
          go_wp2
          go_roundw
          case rel => exact ⟨i + 1, by omega, by go_num, _, _, rfl, by rw [frs_snoc ep (LL : Int) pre.length ds i hlt, HX.out, HQ2.out]; exact HZ.out.asit rfl rfl rfl rfl⟩
          case measure => simp [intOf]; omega
        exact AllReadyH.nil
      exact AllReadyH.nil
    · obtain rfl : i = ds.length := by omega
      rw [List.take_of_length_le (by rw [frs_len]; exact Nat.le_refl _)] at hst
      have HS := Lib.hid hst
      clear hst
      go_wp2
      go_ret
      exact ⟨_, _, rfl, by rw [HB0.out]; exact HS.out.out, by rw [HB0.out]; exact HS.out.bel⟩
set_option maxHeartbeats 8000000 in
theorem dlframes_none {B b bs br : Nat} {v v2 : Value} {pre pre2 : List ByteArray} {E : En} (h0 : E.ep ≠ 0) (hd : E.ds.length = 0) (w : World) (h : Dx B w b bs v br v2 pre pre2 E) :
    Calls Tryd.prog 24 #[.pointer (some ⟨b, 0, none⟩)] w fun e w' => ∃ a c, e = .returned (.slice a 1 c) ∧ RowF w.heap.size w' (.slice a 1 c) [(E.ep, 0, E.ackn, ⟨#[]⟩)] ∧ Below w.heap.size w w' := by
  obtain ⟨ep, wa, ra, pas, k, ds, q, ps⟩ := E
  have HH := Lib.hid h
  obtain ⟨ax, cx, hv2, _⟩ := h.dr.row.is
  subst hv2
  have hkk := h.kk
  have hqq := h.qq
  simp only at hkk hqq
  subst hkk hqq
  obtain ⟨LL, hLL⟩ : ∃ n, (pre2 ++ ps).length = n := ⟨_, rfl⟩
  obtain ⟨P, hP⟩ : ∃ n : Int, (pre.length : Int) = n := ⟨_, rfl⟩
  have HD : Hid (∀ W, Below w.heap.size w W → W.cell? ⟨b, 0, none⟩ = some (.int .i64 ep) ∧ W.cell? ⟨b, 1, none⟩ = some (.pointer (some ⟨bs, 0, none⟩)) ∧ W.cell? ⟨bs, 3, none⟩ = some (.int .i64 P) ∧ W.cell? ⟨b, 2, none⟩ = some (.pointer (some ⟨br, 0, none⟩)) ∧ W.cell? ⟨br, 1, none⟩ = some (.slice ax LL cx)) := Lib.hid fun W hb => by
    have hh := HH.out.next hb
    have h4 := hh.dr.c1
    have h3 := hh.sn.c3
    rw [hLL] at h4
    rw [hP] at h3
    exact ⟨hh.blk.c0, hh.blk.c1, h3, hh.blk.c2, h4⟩
  simp only [En.ackn] at h0 hd ⊢
  rw [dead_len hLL]
  clear hLL
  have k0 : (ep == 0) = false := by simpa using h0
  have k1 : decide (ep = 0) = false := by simpa using h0
  have HP := Lib.hid hP
  have HNL := Lib.hid (rowF_new w)
  have HN := Lib.hid (HD.out _ (Joins.below_alloc1 w (.cells #[] 40)))
  have hdm := (HH.out.next (Joins.below_alloc1 w (.cells #[] 40))).sn
  have hl : ds.length ≤ 16 := by have := hdm.ok.len; have := hdm.ok.w2; simp only at *; omega
  have HL := Lib.hid (left_any (show ds.length ≤ 10000 by omega) _ hdm)
  obtain ⟨z0, z1, z2, z3, z4⟩ := HN.out
  clear h hdm HH hP h0
  go_enter Tryd.func24, Tryd.ntmps24
  go_wp2_with fail
  refine HL.out.mono ?_
  rintro e w2 ⟨a', c', rfl, hrow, hb⟩
  have hsz : w.heap.size ≤ (w.alloc (.cells #[] 40)).heap.size := by simp
  generalize hB0 : w.heap.size = B0 at *
  have HB0 := Lib.hid hB0
  have HST : Hid (DF B0 w w2 a' c' ds (some ⟨B0, 0, none⟩) 0 [] 0) := Lib.hid ⟨by rw [← hB0]; exact (Joins.below_alloc1 w _).trans (hb.mono (by rw [hB0]; exact hsz)), Nat.le_trans hsz hb.size, hrow.lower hsz, HNL.out.below hb, rfl⟩
  clear hrow hb hB0 hsz HNL HN HL z0 z1 z2 z3 z4
  go_wp2_with fail
  have hd0 : ds = [] := List.eq_nil_of_length_eq_zero hd
  subst hd0
  go_loopw [3, 5] (fun v3 v5 wr => ∃ i : Nat, i ≤ ([] : List ByteArray).length ∧ v5 = .int .i64 i ∧ ∃ ao co, v3 = .slice ao i co ∧ DF B0 w wr a' c' [] ao co ((frs ep (LL : Int) pre.length []).take i) i) (fun _ v5 _ => ([] : List ByteArray).length - (intOf v5).toNat)
  case atStart => exact ⟨0, Nat.zero_le _, rfl, _, _, rfl, HST.out⟩
  case round =>
    obtain ⟨i, hi, rfl, ao, co, rfl, hst⟩ := hrel
    clear HST
    simp only [List.length_nil, Nat.le_zero] at hi
    subst hi
    have hst : DF B0 w wr a' c' [] ao co [] 0 := hst
    have hal := hst.next (Joins.below_alloc1 wr (.cells #[.int .i64 ep, .int .i64 0, .int .i64 (LL : Int), .string ⟨#[]⟩] 40))
    obtain ⟨m0, m1, m2, m3, m4⟩ := HD.out _ hal.bel
    obtain ⟨d0, d1, d2, d3, d4⟩ := HD.out _ hst.bel
    have HAL := Lib.hid hal
    clear hst hal
    go_wp2_with fail
    refine wp_region_held_drew (S := fun w' => w'.cell? ⟨b, 0, none⟩ = some (.int .i64 ep) ∧ w'.cell? ⟨b, 2, none⟩ = some (.pointer (some ⟨br, 0, none⟩)) ∧ w'.cell? ⟨br, 1, none⟩ = some (.slice ax LL cx)) (by kernel_rfl) ?_ (fun hH => ?_)
    · exact ⟨d0, d3, d4⟩
    refine wpAnyH_take (i := 0) (oi := { dst := some 57, op := Go.Op.move (Go.Operand.tmp 3), type := 54, pos := "ref.go:51", after := #[], guard := none }) (v := ?_) rfl (by kernel_rfl) (by kernel_rfl) (by kernel_rfl) (fun _ _ _ h => h) (Or.inl ⟨by rfl, ?_⟩) (by assumption) ?_
    rotate_left
    · intro w hSw
      try dsimp only at hSw
      obtain ⟨q0, q3, q4⟩ := hSw
      go_simp
      all_goals with_reducible rfl
    try simp only [Act.put, List.setIfInBounds_toArray, List.set_cons_zero, List.set_cons_succ]
    refine wpAnyH_take (i := 1) (oi := { dst := some 58, op := Go.Op.move (Go.Operand.tmp 0), type := 32, pos := "ref.go:51", after := #[], guard := none }) (v := ?_) rfl (by kernel_rfl) (by kernel_rfl) (by kernel_rfl) (fun _ _ _ h => h) (Or.inl ⟨by rfl, ?_⟩) (by assumption) ?_
    rotate_left
    · intro w hSw
      try dsimp only at hSw
      obtain ⟨q0, q3, q4⟩ := hSw
      go_simp
      all_goals with_reducible rfl
    try simp only [Act.put, List.setIfInBounds_toArray, List.set_cons_zero, List.set_cons_succ]
    refine wpAnyH_take (i := 2) (oi := { dst := some 59, op := Go.Op.nilCheck (Go.Operand.tmp 58), type := 0, pos := "ref.go:51", after := #[{ on := 1, ground := Go.Ground.data }], guard := none }) (v := ?_) rfl (by kernel_rfl) (by kernel_rfl) (by kernel_rfl) (fun _ _ _ h => h) (Or.inl ⟨by rfl, ?_⟩) (by assumption) ?_
    rotate_left
    · intro w hSw
      try dsimp only at hSw
      obtain ⟨q0, q3, q4⟩ := hSw
      go_simp
      all_goals with_reducible rfl
    try simp only [Act.put, List.setIfInBounds_toArray, List.set_cons_zero, List.set_cons_succ]
    refine wpAnyH_take (i := 3) (oi := { dst := some 60, op := Go.Op.fieldAddr 82 (Go.Operand.tmp 59) 0, type := 0, pos := "ref.go:51", after := #[{ on := 2, ground := Go.Ground.data }], guard := none }) (v := ?_) rfl (by kernel_rfl) (by kernel_rfl) (by kernel_rfl) (fun _ _ _ h => h) (Or.inl ⟨by rfl, ?_⟩) (by assumption) ?_
    rotate_left
    · intro w hSw
      try dsimp only at hSw
      obtain ⟨q0, q3, q4⟩ := hSw
      go_simp
      all_goals with_reducible rfl
    try simp only [Act.put, List.setIfInBounds_toArray, List.set_cons_zero, List.set_cons_succ]
    refine wpAnyH_take (i := 4) (oi := { dst := some 61, op := Go.Op.load 3 (Go.Operand.tmp 60), type := 3, pos := "ref.go:51", after := #[{ on := 3, ground := Go.Ground.data }], guard := none }) (v := ?_) rfl (by kernel_rfl) (by kernel_rfl) (by kernel_rfl) (fun _ _ _ h => h) (Or.inl ⟨by rfl, ?_⟩) (by assumption) ?_
    rotate_left
    · intro w hSw
      try dsimp only at hSw
      obtain ⟨q0, q3, q4⟩ := hSw
      go_simp
      all_goals with_reducible rfl
    try simp only [Act.put, List.setIfInBounds_toArray, List.set_cons_zero, List.set_cons_succ]
    refine wpAnyH_take (i := 5) (oi := { dst := some 62, op := Go.Op.move (Go.Operand.tmp 0), type := 32, pos := "ref.go:51", after := #[], guard := none }) (v := ?_) rfl (by kernel_rfl) (by kernel_rfl) (by kernel_rfl) (fun _ _ _ h => h) (Or.inl ⟨by rfl, ?_⟩) (by assumption) ?_
    rotate_left
    · intro w hSw
      try dsimp only at hSw
      obtain ⟨q0, q3, q4⟩ := hSw
      go_simp
      all_goals with_reducible rfl
    try simp only [Act.put, List.setIfInBounds_toArray, List.set_cons_zero, List.set_cons_succ]
    refine wpAnyH_take (i := 6) (oi := { dst := some 63, op := Go.Op.nilCheck (Go.Operand.tmp 62), type := 0, pos := "ref.go:51", after := #[{ on := 5, ground := Go.Ground.data }], guard := none }) (v := ?_) rfl (by kernel_rfl) (by kernel_rfl) (by kernel_rfl) (fun _ _ _ h => h) (Or.inl ⟨by rfl, ?_⟩) (by assumption) ?_
    rotate_left
    · intro w hSw
      try dsimp only at hSw
      obtain ⟨q0, q3, q4⟩ := hSw
      go_simp
      all_goals with_reducible rfl
    try simp only [Act.put, List.setIfInBounds_toArray, List.set_cons_zero, List.set_cons_succ]
    refine wpAnyH_take (i := 7) (oi := { dst := some 64, op := Go.Op.fieldAddr 82 (Go.Operand.tmp 63) 2, type := 0, pos := "ref.go:51", after := #[{ on := 6, ground := Go.Ground.data }], guard := none }) (v := ?_) rfl (by kernel_rfl) (by kernel_rfl) (by kernel_rfl) (fun _ _ _ h => h) (Or.inl ⟨by rfl, ?_⟩) (by assumption) ?_
    rotate_left
    · intro w hSw
      try dsimp only at hSw
      obtain ⟨q0, q3, q4⟩ := hSw
      go_simp
      all_goals with_reducible rfl
    try simp only [Act.put, List.setIfInBounds_toArray, List.set_cons_zero, List.set_cons_succ]
    refine wpAnyH_take (i := 8) (oi := { dst := some 65, op := Go.Op.load 80 (Go.Operand.tmp 64), type := 80, pos := "ref.go:51", after := #[{ on := 7, ground := Go.Ground.data }], guard := none }) (v := ?_) rfl (by kernel_rfl) (by kernel_rfl) (by kernel_rfl) (fun _ _ _ h => h) (Or.inl ⟨by rfl, ?_⟩) (by assumption) ?_
    rotate_left
    · intro w hSw
      try dsimp only at hSw
      obtain ⟨q0, q3, q4⟩ := hSw
      go_simp
      all_goals with_reducible rfl
    try simp only [Act.put, List.setIfInBounds_toArray, List.set_cons_zero, List.set_cons_succ]
    refine wpAnyH_take (i := 9) (oi := { dst := some 66, op := Go.Op.nilCheck (Go.Operand.tmp 65), type := 0, pos := "ref.go:51", after := #[{ on := 8, ground := Go.Ground.data }], guard := none }) (v := ?_) rfl (by kernel_rfl) (by kernel_rfl) (by kernel_rfl) (fun _ _ _ h => h) (Or.inl ⟨by rfl, ?_⟩) (by assumption) ?_
    rotate_left
    · intro w hSw
      try dsimp only at hSw
      obtain ⟨q0, q3, q4⟩ := hSw
      go_simp
      all_goals with_reducible rfl
    try simp only [Act.put, List.setIfInBounds_toArray, List.set_cons_zero, List.set_cons_succ]
    refine wpAnyH_take (i := 10) (oi := { dst := some 67, op := Go.Op.fieldAddr 102 (Go.Operand.tmp 66) 1, type := 0, pos := "ref.go:51", after := #[{ on := 9, ground := Go.Ground.data }], guard := none }) (v := ?_) rfl (by kernel_rfl) (by kernel_rfl) (by kernel_rfl) (fun _ _ _ h => h) (Or.inl ⟨by rfl, ?_⟩) (by assumption) ?_
    rotate_left
    · intro w hSw
      try dsimp only at hSw
      obtain ⟨q0, q3, q4⟩ := hSw
      go_simp
      all_goals with_reducible rfl
    try simp only [Act.put, List.setIfInBounds_toArray, List.set_cons_zero, List.set_cons_succ]
    refine wpAnyH_take (i := 11) (oi := { dst := some 68, op := Go.Op.load 97 (Go.Operand.tmp 67), type := 97, pos := "ref.go:51", after := #[{ on := 10, ground := Go.Ground.data }], guard := none }) (v := ?_) rfl (by kernel_rfl) (by kernel_rfl) (by kernel_rfl) (fun _ _ _ h => h) (Or.inl ⟨by rfl, ?_⟩) (by assumption) ?_
    rotate_left
    · intro w hSw
      try dsimp only at hSw
      obtain ⟨q0, q3, q4⟩ := hSw
      go_simp
      all_goals with_reducible rfl
    try simp only [Act.put, List.setIfInBounds_toArray, List.set_cons_zero, List.set_cons_succ]
    refine wpAnyH_take (i := 12) (oi := { dst := some 69, op := Go.Op.call { callee := Go.Callee.builtin Go.Builtin.len, args := #[Go.Operand.tmp 68], argTypes := #[97] }, type := 3, pos := "ref.go:51", after := #[{ on := 11, ground := Go.Ground.data }], guard := none }) (v := ?_) rfl (by kernel_rfl) (by kernel_rfl) (by kernel_rfl) (fun _ _ _ h => h) (Or.inl ⟨by rfl, ?_⟩) (by assumption) ?_
    rotate_left
    · intro w hSw
      try dsimp only at hSw
      obtain ⟨q0, q3, q4⟩ := hSw
      go_simp
      all_goals with_reducible rfl
    try simp only [Act.put, List.setIfInBounds_toArray, List.set_cons_zero, List.set_cons_succ]
    refine wpAnyH_take (i := 13) (oi := { dst := some 70, op := Go.Op.build 40 #[(0, Go.Operand.tmp 61), (2, Go.Operand.tmp 69)], type := 40, pos := "ref.go:51", after := #[{ on := 4, ground := Go.Ground.data }, { on := 12, ground := Go.Ground.data }], guard := none }) (v := ?_) rfl (by kernel_rfl) (by kernel_rfl) (by kernel_rfl) (fun _ _ _ h => h) (Or.inl ⟨by rfl, ?_⟩) (by assumption) ?_
    rotate_left
    · intro w hSw
      try dsimp only at hSw
      obtain ⟨q0, q3, q4⟩ := hSw
      go_simp
      all_goals with_reducible rfl
    try simp only [Act.put, List.setIfInBounds_toArray, List.set_cons_zero, List.set_cons_succ]
    refine wpAnyH_ready (rs := [14]) (by kernel_rfl) (by simp) ?_
    refine AllReadyH.cons (o := { dst := some 71, op := Go.Op.buildSlice 54 1 #[(0, Go.Operand.tmp 70)], type := 54, pos := "ref.go:51", after := #[{ on := 13, ground := Go.Ground.data }], guard := none }) rfl (fun K hK => ?_) ?_
    · go_simp
      refine hK.out _ _ ?_ (fun hH => ?_)
      · exact ⟨m0, m3, m4⟩
      clear hK K
      try simp only [Act.put, List.setIfInBounds_toArray, List.set_cons_zero, List.set_cons_succ]
      refine wpAnyH_ready (rs := [15]) (by kernel_rfl) (by simp) ?_
      refine AllReadyH.cons (o := { dst := some 72, op := Go.Op.call { callee := Go.Callee.builtin Go.Builtin.append, args := #[Go.Operand.tmp 57, Go.Operand.tmp 71], argTypes := #[54, 54] }, type := 54, pos := "ref.go:51", after := #[{ on := 0, ground := Go.Ground.data }, { on := 14, ground := Go.Ground.data }], guard := none }) rfl (fun K hK => ?_) ?_
      · refine step_appF1 (by rfl) (.tmp 57) (.tmp 71) rfl B0 ao 0 co _ HAL.out.len rfl (HAL.out.out.asit rfl) _ rfl (ep, 0, (LL : Int), ⟨#[]⟩) ((fsAt_one wr ep 0 (LL : Int) ⟨#[]⟩).asit rfl) (by omega) HAL.out.le ?_
        intro a5 c5 w5 hr5 hg5
        have hz := DF.app (HAL.out.asit (wr' := (wr.alloc (.cells #[.int .i64 ep, .int .i64 0, .int .i64 (LL : Int), .string ⟨#[]⟩] 40)).drew) rfl rfl rfl rfl) hr5 (by rw [List.length_append, HAL.out.len]; rfl) hg5
        obtain ⟨y0, y1, y2, y3, y4⟩ := HD.out _ hz.bel
        have HZ := Lib.hid hz
        clear hr5 hg5 hz
        refine hK.out _ _ ?_ (fun hH => ?_)
        · exact ⟨y0, y3, y4⟩
        clear hK K
        try simp only [Act.put, List.setIfInBounds_toArray, List.set_cons_zero, List.set_cons_succ]
        refine wpAnyH_take (i := 16) (oi := { dst := some 3, op := Go.Op.assign (Go.Operand.tmp 72), type := 54, pos := "ref.go:51", after := #[{ on := 15, ground := Go.Ground.data }, { on := 15, ground := Go.Ground.chain }, { on := 0, ground := Go.Ground.phase }, { on := 1, ground := Go.Ground.phase }, { on := 2, ground := Go.Ground.phase }, { on := 3, ground := Go.Ground.phase }, { on := 4, ground := Go.Ground.phase }, { on := 5, ground := Go.Ground.phase }, { on := 6, ground := Go.Ground.phase }, { on := 7, ground := Go.Ground.phase }, { on := 8, ground := Go.Ground.phase }, { on := 9, ground := Go.Ground.phase }, { on := 10, ground := Go.Ground.phase }, { on := 11, ground := Go.Ground.phase }, { on := 12, ground := Go.Ground.phase }, { on := 13, ground := Go.Ground.phase }, { on := 14, ground := Go.Ground.phase }, { on := 15, ground := Go.Ground.phase }], guard := none }) (v := ?_) rfl (by kernel_rfl) (by kernel_rfl) (by kernel_rfl) (fun _ _ _ h => h) (Or.inl ⟨by rfl, ?_⟩) (by assumption) ?_
        rotate_left
        · intro w hSw
          try dsimp only at hSw
          obtain ⟨q0, q3, q4⟩ := hSw
          go_simp
          all_goals with_reducible rfl
        try simp only [Act.put, List.setIfInBounds_toArray, List.set_cons_zero, List.set_cons_succ]
        refine wpAnyH_done (by kernel_rfl) ?_ _
        clear m0 m1 m2 m3 m4 d0 d1 d2 d3 d4 y0 y1 y2 y3 y4
        go_wp2
        go_ret
        exact ⟨_, _, rfl, by rw [HB0.out]; exact HZ.out.out.asit rfl, by rw [HB0.out]; exact (HZ.out.asit rfl rfl rfl rfl).bel⟩
      exact AllReadyH.nil
    exact AllReadyH.nil
theorem dlframes_any {B b bs br : Nat} {v v2 : Value} {pre pre2 : List ByteArray} {E : En} (hp : pre.length ≤ 10000) (w : World) (h : Dx B w b bs v br v2 pre pre2 E) :
    Calls Tryd.prog 24 #[.pointer (some ⟨b, 0, none⟩)] w fun e w' => ∃ a c, e = .returned (.slice a E.frames.length c) ∧ RowF w.heap.size w' (.slice a E.frames.length c) E.frames ∧ Below w.heap.size w w' := by
  unfold En.frames
  by_cases h0 : E.ep = 0
  · simp only [if_pos h0]
    exact dlframes_zero h0 w h
  by_cases hd : E.ds.length = 0
  · simp only [if_neg h0, if_pos hd]
    exact dlframes_none h0 hd w h
  · simp only [if_neg h0, if_neg hd, frs_len]
    exact dlframes_some hp h0 hd w h
end Go.Proofs.YtjmkdgjdemndaaaDoor.K
