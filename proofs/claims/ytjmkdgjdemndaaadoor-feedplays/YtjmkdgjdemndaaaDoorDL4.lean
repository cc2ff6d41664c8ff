/- The walk of FeedPlays. -/
import Derived.Test.YtjmkdgjdemndaaaDoorD6
import Derived.Deep.CutRange
namespace Go.Proofs.YtjmkdgjdemndaaaDoor
open Go Go.RowKit
set_option maxRecDepth 20000
theorem com_ge (c : Int) (L : List Cr) (r : Cr) : L.length ≤ (comL c L r).length := by
  unfold comL
  split
  · simp
  · exact Nat.le_refl _
set_option maxHeartbeats 16000000 in
theorem walkPlays (x0 x1 : Int) (a : Option Addr) (len cap : Nat) (l : List Ac) (w : World) (hd : X.Wd w) (h : IsAs w a len l) :
    Calls Tryd.prog 3 #[.agg #[.int .i64 x0, .int .i64 x1], .slice a len cap] w fun e w' => e = .returned (.bool true) ∧ Below w.heap.size w w' := by
  have HD := Lib.hid hd
  have HI := Lib.hid h
  clear h hd
  have hx : (w.alloc (.cells #[.int .i64 x0, .int .i64 x1] 22)).heap[w.heap.size]? = some (.cells #[.int .i64 x0, .int .i64 x1] 22 (0, 0)) := heap_alloc_new w _
  have HW := Lib.hid (Joins.below_alloc1 w (.cells #[.int .i64 x0, .int .i64 x1] 22))
  have hsz : (w.alloc (.cells #[.int .i64 x0, .int .i64 x1] 22)).heap.size = w.heap.size + 1 := by simp
  go_enter Tryd.func3, Tryd.ntmps3
  go_wp2_with fail
  obtain ⟨W0, hW0⟩ : ∃ W, w.alloc (.cells #[.int .i64 x0, .int .i64 x1] 22) = W := ⟨_, rfl⟩
  rw [hW0] at hx HW hsz ⊢
  clear hW0
  have HX := Lib.hid hx
  have HSZ := Lib.hid hsz
  have z0 : W0.cell? ⟨w.heap.size, 0, none⟩ = some (.int .i64 x0) := cell_at hx 0 _ rfl
  have z1 : W0.cell? ⟨w.heap.size, 1, none⟩ = some (.int .i64 x1) := cell_at hx 1 _ rfl
  clear hx hsz
  go_wp2_with fail
  refine wp_region_held_drew (S := fun w' => w'.cell? ⟨w.heap.size, 0, none⟩ = some (.int .i64 x0) ∧ w'.cell? ⟨w.heap.size, 1, none⟩ = some (.int .i64 x1)) (by kernel_rfl) ?_ (fun hH => ?_)
  · exact ⟨z0, z1⟩
  refine wpAnyH_take (i := 1) (oi := { dst := some 14, op := Go.Op.indexAddr 22 (Go.Operand.tmp 2) (Go.Operand.const (Go.Value.int Go.IntKind.i64 0)), type := 0, pos := "law.go:61", after := #[], guard := none }) (v := ?_) rfl (by kernel_rfl) (by kernel_rfl) (by kernel_rfl) (fun _ _ _ h => h) (Or.inl ⟨by rfl, ?_⟩) (by assumption) ?_
  rotate_left
  · intro w hSw
    try dsimp only at hSw
    obtain ⟨q0, q1⟩ := hSw
    go_simp
    all_goals with_reducible rfl
  try simp only [Act.put, List.setIfInBounds_toArray, List.set_cons_zero, List.set_cons_succ]
  refine wpAnyH_take (i := 2) (oi := { dst := some 15, op := Go.Op.load 3 (Go.Operand.tmp 14), type := 3, pos := "law.go:61", after := #[{ on := 1, ground := Go.Ground.data }], guard := none }) (v := ?_) rfl (by kernel_rfl) (by kernel_rfl) (by kernel_rfl) (fun _ _ _ h => h) (Or.inl ⟨by rfl, ?_⟩) (by assumption) ?_
  rotate_left
  · intro w hSw
    try dsimp only at hSw
    obtain ⟨q0, q1⟩ := hSw
    go_simp
    all_goals with_reducible rfl
  try simp only [Act.put, List.setIfInBounds_toArray, List.set_cons_zero, List.set_cons_succ]
  refine wpAnyH_take (i := 3) (oi := { dst := some 16, op := Go.Op.indexAddr 22 (Go.Operand.tmp 2) (Go.Operand.const (Go.Value.int Go.IntKind.i64 1)), type := 0, pos := "law.go:61", after := #[], guard := none }) (v := ?_) rfl (by kernel_rfl) (by kernel_rfl) (by kernel_rfl) (fun _ _ _ h => h) (Or.inl ⟨by rfl, ?_⟩) (by assumption) ?_
  rotate_left
  · intro w hSw
    try dsimp only at hSw
    obtain ⟨q0, q1⟩ := hSw
    go_simp
    all_goals with_reducible rfl
  try simp only [Act.put, List.setIfInBounds_toArray, List.set_cons_zero, List.set_cons_succ]
  refine wpAnyH_take (i := 4) (oi := { dst := some 17, op := Go.Op.load 3 (Go.Operand.tmp 16), type := 3, pos := "law.go:61", after := #[{ on := 3, ground := Go.Ground.data }], guard := none }) (v := ?_) rfl (by kernel_rfl) (by kernel_rfl) (by kernel_rfl) (fun _ _ _ h => h) (Or.inl ⟨by rfl, ?_⟩) (by assumption) ?_
  rotate_left
  · intro w hSw
    try dsimp only at hSw
    obtain ⟨q0, q1⟩ := hSw
    go_simp
    all_goals with_reducible rfl
  try simp only [Act.put, List.setIfInBounds_toArray, List.set_cons_zero, List.set_cons_succ]
  refine wpAnyH_ready (rs := [0]) (by kernel_rfl) (by simp) ?_
  refine AllReadyH.cons (o := { dst := some 13, op := Go.Op.call { callee := Go.Callee.value (Go.Operand.func 7), args := #[Go.Operand.const (Go.Value.int Go.IntKind.i64 3)], argTypes := #[3] }, type := 24, pos := "law.go:61", after := #[], guard := none }) rfl (fun K hK => ?_) ?_
  · go_simp
    refine (cnew_any 3 w.heap.size W0.drew (by have := HSZ.out; show w.heap.size ≤ W0.heap.size; omega)).mono ?_
    rintro e w1 ⟨rfl, hj, hb⟩
    have HJ0 : Hid (Cx 69 Pc w.heap.size w1 W0.heap.size (Jf W0.heap.size (.slice none 0 0) fun _ => False) (clP 3) []) := Lib.hid hj
    have HB1 : Hid (Below w.heap.size w w1) := Lib.hid (Below.next HW.out.drew hb)
    have hx1 := (hb.block w.heap.size (by have := HSZ.out; show w.heap.size < W0.heap.size; omega)).trans HX.out
    have d10 : w1.cell? ⟨w.heap.size, 0, none⟩ = some (.int .i64 x0) := cell_at hx1 0 _ rfl
    have d11 : w1.cell? ⟨w.heap.size, 1, none⟩ = some (.int .i64 x1) := cell_at hx1 1 _ rfl
    have HX1 := Lib.hid hx1
    clear hx1
    clear hj hb
    go_wp2_with fail
    refine hK.out _ _ ?_ (fun hH => ?_)
    · exact ⟨d10, d11⟩
    clear hK K
    try simp only [Act.put, List.setIfInBounds_toArray, List.set_cons_zero, List.set_cons_succ]
    refine wpAnyH_ready (rs := [5]) (by kernel_rfl) (by simp) ?_
    refine AllReadyH.cons (o := { dst := some 18, op := Go.Op.call { callee := Go.Callee.value (Go.Operand.func 8), args := #[Go.Operand.const (Go.Value.int Go.IntKind.i64 1), Go.Operand.tmp 15, Go.Operand.tmp 17, Go.Operand.const (Go.Value.bool true)], argTypes := #[3, 3, 3, 4] }, type := 26, pos := "law.go:61", after := #[{ on := 2, ground := Go.Ground.data }, { on := 4, ground := Go.Ground.data }, { on := 0, ground := Go.Ground.chain }], guard := none }) rfl (fun K hK => ?_) ?_
    · go_simp
      refine (Go.Proofs.YtjmkdgjdemndaaaDoor.K.lnew_any 1 x0 x1 true w1).mono ?_
      rintro e w2 ⟨rfl, ⟨bs, br, hl⟩, hb⟩
      have HL0 := Lib.hid (hl.lower HB1.out.size)
      have HJ1 := Lib.hid (HJ0.out.next hb)
      have HB2 : Hid (Below w.heap.size w w2) := Lib.hid (Below.next HB1.out hb)
      have hx2 := (hb.block w.heap.size (Array.getElem?_eq_some_iff.1 HX1.out).1).trans HX1.out
      have d20 : w2.cell? ⟨w.heap.size, 0, none⟩ = some (.int .i64 x0) := cell_at hx2 0 _ rfl
      have d21 : w2.cell? ⟨w.heap.size, 1, none⟩ = some (.int .i64 x1) := cell_at hx2 1 _ rfl
      have HX2 := Lib.hid hx2
      clear hx2
      clear hl hb
      go_wp2_with fail
      refine hK.out _ _ ?_ (fun hH => ?_)
      · exact ⟨d20, d21⟩
      clear hK K
      try simp only [Act.put, List.setIfInBounds_toArray, List.set_cons_zero, List.set_cons_succ]
      refine wpAnyH_ready (rs := [6]) (by kernel_rfl) (by simp) ?_
      refine AllReadyH.cons (o := { dst := some 19, op := Go.Op.call { callee := Go.Callee.value (Go.Operand.func 9), args := #[], argTypes := #[] }, type := 28, pos := "law.go:61", after := #[{ on := 5, ground := Go.Ground.chain }], guard := none }) rfl (fun K hK => ?_) ?_
      · go_simp
        refine (fnew_any w2).mono ?_
        rintro e w3 ⟨rfl, hf, hb⟩
        have H1 : Hid (Fj w w3 W0.heap.size (Jf W0.heap.size (.slice none 0 0) fun _ => False) (clP 3) [] w1.heap.size bs br ⟨1, x0, x1, true, 0, [], 0, []⟩ w2.heap.size 0) := Lib.hid ⟨Below.next HB2.out hb, HJ1.out.next hb, ⟨_, _, HL0.out.next hb⟩, hf, HB2.out.size⟩
        rw [show clP 3 = 3 from rfl] at H1
        have hx3 := (hb.block w.heap.size (Array.getElem?_eq_some_iff.1 HX2.out).1).trans HX2.out
        have d30 : w3.cell? ⟨w.heap.size, 0, none⟩ = some (.int .i64 x0) := cell_at hx3 0 _ rfl
        have d31 : w3.cell? ⟨w.heap.size, 1, none⟩ = some (.int .i64 x1) := cell_at hx3 1 _ rfl
        have HX3 := Lib.hid hx3
        clear hx3
        clear hf hb
        go_wp2_with fail
        refine hK.out _ _ ?_ (fun hH => ?_)
        · exact ⟨d30, d31⟩
        clear hK K
        try simp only [Act.put, List.setIfInBounds_toArray, List.set_cons_zero, List.set_cons_succ]
        refine wpAnyH_take (i := 7) (oi := { dst := some 5, op := Go.Op.assign (Go.Operand.tmp 13), type := 24, pos := "law.go:61", after := #[{ on := 0, ground := Go.Ground.data }, { on := 6, ground := Go.Ground.chain }, { on := 0, ground := Go.Ground.phase }, { on := 1, ground := Go.Ground.textOnly Go.Departure.lateStores }, { on := 2, ground := Go.Ground.textOnly Go.Departure.lateStores }, { on := 3, ground := Go.Ground.textOnly Go.Departure.lateStores }, { on := 4, ground := Go.Ground.textOnly Go.Departure.lateStores }, { on := 5, ground := Go.Ground.textOnly Go.Departure.lateStoresUnsure }, { on := 6, ground := Go.Ground.textOnly Go.Departure.lateStoresUnsure }], guard := none }) (v := ?_) rfl (by kernel_rfl) (by kernel_rfl) (by kernel_rfl) (fun _ _ _ h => h) (Or.inl ⟨by rfl, ?_⟩) (by assumption) ?_
        rotate_left
        · intro w hSw
          try dsimp only at hSw
          obtain ⟨q0, q1⟩ := hSw
          go_simp
          all_goals with_reducible rfl
        try simp only [Act.put, List.setIfInBounds_toArray, List.set_cons_zero, List.set_cons_succ]
        refine wpAnyH_take (i := 8) (oi := { dst := some 6, op := Go.Op.assign (Go.Operand.tmp 18), type := 26, pos := "law.go:61", after := #[{ on := 5, ground := Go.Ground.data }, { on := 7, ground := Go.Ground.chain }, { on := 0, ground := Go.Ground.phase }, { on := 1, ground := Go.Ground.phase }, { on := 2, ground := Go.Ground.phase }, { on := 3, ground := Go.Ground.phase }, { on := 4, ground := Go.Ground.phase }, { on := 5, ground := Go.Ground.phase }, { on := 6, ground := Go.Ground.textOnly Go.Departure.lateStoresUnsure }, { on := 7, ground := Go.Ground.phase }], guard := none }) (v := ?_) rfl (by kernel_rfl) (by kernel_rfl) (by kernel_rfl) (fun _ _ _ h => h) (Or.inl ⟨by rfl, ?_⟩) (by assumption) ?_
        rotate_left
        · intro w hSw
          try dsimp only at hSw
          obtain ⟨q0, q1⟩ := hSw
          go_simp
          all_goals with_reducible rfl
        try simp only [Act.put, List.setIfInBounds_toArray, List.set_cons_zero, List.set_cons_succ]
        refine wpAnyH_take (i := 9) (oi := { dst := some 7, op := Go.Op.assign (Go.Operand.tmp 19), type := 28, pos := "law.go:61", after := #[{ on := 6, ground := Go.Ground.data }, { on := 8, ground := Go.Ground.chain }, { on := 0, ground := Go.Ground.phase }, { on := 1, ground := Go.Ground.phase }, { on := 2, ground := Go.Ground.phase }, { on := 3, ground := Go.Ground.phase }, { on := 4, ground := Go.Ground.phase }, { on := 5, ground := Go.Ground.phase }, { on := 6, ground := Go.Ground.phase }, { on := 7, ground := Go.Ground.phase }, { on := 8, ground := Go.Ground.phase }], guard := none }) (v := ?_) rfl (by kernel_rfl) (by kernel_rfl) (by kernel_rfl) (fun _ _ _ h => h) (Or.inl ⟨by rfl, ?_⟩) (by assumption) ?_
        rotate_left
        · intro w hSw
          try dsimp only at hSw
          obtain ⟨q0, q1⟩ := hSw
          go_simp
          all_goals with_reducible rfl
        try simp only [Act.put, List.setIfInBounds_toArray, List.set_cons_zero, List.set_cons_succ]
        refine wpAnyH_done (by kernel_rfl) ?_ _
        clear d10 d11 d20 d21 d30 d31 z0 z1 HX1 HX2 HJ0 HJ1 HL0 HB1 HB2
        generalize Jf W0.heap.size (.slice none 0 0) (fun _ => False) = F at H1
        have HF0 : Hid (∀ k, F k → k < w3.heap.size) := Lib.hid fun k hk => (H1.out.lg.foot k hk).2
        generalize W0.heap.size = lb at *
        generalize w1.heap.size = b at *
        generalize w2.heap.size = fb at *
        have HXK : Hid (∀ W : World, Below w3.heap.size w3 W → W.cell? ⟨w.heap.size, 0, none⟩ = some (.int .i64 x0) ∧ W.cell? ⟨w.heap.size, 1, none⟩ = some (.int .i64 x1)) := Lib.hid fun W hW => by
          have := (hW.block w.heap.size (Array.getElem?_eq_some_iff.1 HX3.out).1).trans HX3.out
          exact ⟨cell_at this 0 _ rfl, cell_at this 1 _ rfl⟩
        clear HX HX3 HW HSZ
        go_upto_region 2 with fail
        go_cut [8, 9, 10] from 20 to 27 (fun v8 v9 v10 wx => ∃ (db d gb ds dr : Nat) (G : Nat → Prop), v8 = .pointer (some ⟨db, 0, none⟩) ∧ v9 = .pointer (some ⟨d, 0, none⟩) ∧ v10 = .pointer (some ⟨gb, 0, none⟩) ∧ Fd w wx lb F [] b bs br ⟨1, x0, x1, true, 0, [], 0, []⟩ fb 0 db G [] d ds dr ⟨1, x0, x1, true, 0, [], 0, []⟩ gb 0)
        case first =>
          have HB0 : Hid (Below w3.heap.size w3 w3.drew) := Lib.hid (Below.refl _ _).drew
          obtain ⟨e0, e1⟩ := HXK.out w3 (Below.refl _ _)
          refine wp_region_held_drew (S := fun w' => w'.cell? ⟨w.heap.size, 0, none⟩ = some (.int .i64 x0) ∧ w'.cell? ⟨w.heap.size, 1, none⟩ = some (.int .i64 x1)) (by kernel_rfl) ?_ (fun hH => ?_)
          · exact ⟨e0, e1⟩
          refine wpAnyH_take (i := 1) (oi := { dst := some 21, op := Go.Op.indexAddr 22 (Go.Operand.tmp 2) (Go.Operand.const (Go.Value.int Go.IntKind.i64 0)), type := 0, pos := "law.go:62", after := #[], guard := none }) (v := ?_) rfl (by kernel_rfl) (by kernel_rfl) (by kernel_rfl) (fun _ _ _ h => h) (Or.inl ⟨by rfl, ?_⟩) (by assumption) ?_
          rotate_left
          · intro w hSw
            try dsimp only at hSw
            obtain ⟨q0, q1⟩ := hSw
            go_simp
            all_goals with_reducible rfl
          try simp only [Act.put, List.setIfInBounds_toArray, List.set_cons_zero, List.set_cons_succ]
          refine wpAnyH_take (i := 2) (oi := { dst := some 22, op := Go.Op.load 3 (Go.Operand.tmp 21), type := 3, pos := "law.go:62", after := #[{ on := 1, ground := Go.Ground.data }], guard := none }) (v := ?_) rfl (by kernel_rfl) (by kernel_rfl) (by kernel_rfl) (fun _ _ _ h => h) (Or.inl ⟨by rfl, ?_⟩) (by assumption) ?_
          rotate_left
          · intro w hSw
            try dsimp only at hSw
            obtain ⟨q0, q1⟩ := hSw
            go_simp
            all_goals with_reducible rfl
          try simp only [Act.put, List.setIfInBounds_toArray, List.set_cons_zero, List.set_cons_succ]
          refine wpAnyH_take (i := 3) (oi := { dst := some 23, op := Go.Op.indexAddr 22 (Go.Operand.tmp 2) (Go.Operand.const (Go.Value.int Go.IntKind.i64 1)), type := 0, pos := "law.go:62", after := #[], guard := none }) (v := ?_) rfl (by kernel_rfl) (by kernel_rfl) (by kernel_rfl) (fun _ _ _ h => h) (Or.inl ⟨by rfl, ?_⟩) (by assumption) ?_
          rotate_left
          · intro w hSw
            try dsimp only at hSw
            obtain ⟨q0, q1⟩ := hSw
            go_simp
            all_goals with_reducible rfl
          try simp only [Act.put, List.setIfInBounds_toArray, List.set_cons_zero, List.set_cons_succ]
          refine wpAnyH_take (i := 4) (oi := { dst := some 24, op := Go.Op.load 3 (Go.Operand.tmp 23), type := 3, pos := "law.go:62", after := #[{ on := 3, ground := Go.Ground.data }], guard := none }) (v := ?_) rfl (by kernel_rfl) (by kernel_rfl) (by kernel_rfl) (fun _ _ _ h => h) (Or.inl ⟨by rfl, ?_⟩) (by assumption) ?_
          rotate_left
          · intro w hSw
            try dsimp only at hSw
            obtain ⟨q0, q1⟩ := hSw
            go_simp
            all_goals with_reducible rfl
          try simp only [Act.put, List.setIfInBounds_toArray, List.set_cons_zero, List.set_cons_succ]
          refine wpAnyH_take (i := 6) (oi := { dst := some 26, op := Go.Op.build 36 #[], type := 36, pos := "law.go:62", after := #[{ on := 9, ground := Go.Ground.gcOnly Go.Departure.lateStores }], guard := none }) (v := ?_) rfl (by kernel_rfl) (by kernel_rfl) (by kernel_rfl) (fun _ _ _ h => h) (Or.inl ⟨by rfl, ?_⟩) (by assumption) ?_
          rotate_left
          · intro w hSw
            try dsimp only at hSw
            obtain ⟨q0, q1⟩ := hSw
            go_simp
            all_goals with_reducible rfl
          try simp only [Act.put, List.setIfInBounds_toArray, List.set_cons_zero, List.set_cons_succ]
          refine wpAnyH_ready (rs := [0, 7]) (by kernel_rfl) (by simp) ?_
          refine AllReadyH.cons (o := { dst := some 20, op := Go.Op.call { callee := Go.Callee.value (Go.Operand.func 10), args := #[Go.Operand.const (Go.Value.int Go.IntKind.i64 3)], argTypes := #[3] }, type := 30, pos := "law.go:62", after := #[], guard := none }) rfl (fun K hK => ?_) ?_
          · go_simp
            refine (dnew_any 3 w.heap.size w3.drew (Nat.le_trans H1.out.bel.size HB0.out.size)).mono ?_
            rintro e y1 ⟨rfl, hj, hb⟩
            have HB1 : Hid (Below w3.heap.size w3 y1) := Lib.hid (Below.next HB0.out hb)
            have HJD : Hid (Cx 78 Pd w.heap.size y1 w3.heap.size (Jf w3.heap.size (.slice none 0 0) fun _ => False) 3 []) := Lib.hid hj
            have HDB : Hid (w3.heap.size ≤ w3.heap.size) := Lib.hid HB0.out.size
            obtain ⟨e0, e1⟩ := HXK.out _ HB1.out
            clear hj hb
            go_wp2_with fail
            refine hK.out _ _ ?_ (fun hH => ?_)
            · exact ⟨e0, e1⟩
            clear hK K
            try simp only [Act.put, List.setIfInBounds_toArray, List.set_cons_zero, List.set_cons_succ]
            refine wpAnyH_ready (rs := [5, 7]) (by kernel_rfl) (by simp) ?_
            refine AllReadyH.cons (o := { dst := some 25, op := Go.Op.call { callee := Go.Callee.value (Go.Operand.func 11), args := #[Go.Operand.const (Go.Value.int Go.IntKind.i64 1), Go.Operand.tmp 22, Go.Operand.tmp 24, Go.Operand.const (Go.Value.bool true)], argTypes := #[3, 3, 3, 4] }, type := 32, pos := "law.go:62", after := #[{ on := 2, ground := Go.Ground.data }, { on := 4, ground := Go.Ground.data }, { on := 0, ground := Go.Ground.chain }], guard := none }) rfl (fun K hK => ?_) ?_
            · go_simp
              refine (Go.Proofs.YtjmkdgjdemndaaaDoor.K.dlnew_any 1 x0 x1 true y1).mono ?_
              rintro e y2 ⟨rfl, ⟨ds, dr, hx⟩, hb⟩
              have HJD := Lib.hid (HJD.out.next hb)
              have HB2 : Hid (Below w3.heap.size w3 y2) := Lib.hid (Below.next HB1.out hb)
              have HLD := Lib.hid (hx.lower (Nat.le_trans H1.out.bel.size HB1.out.size))
              obtain ⟨e0, e1⟩ := HXK.out _ HB2.out
              clear hx hb
              go_wp2_with fail
              refine hK.out _ _ ?_ (fun hH => ?_)
              · exact ⟨e0, e1⟩
              clear hK K
              try simp only [Act.put, List.setIfInBounds_toArray, List.set_cons_zero, List.set_cons_succ]
              refine wpAnyH_take (i := 8) (oi := { dst := some 8, op := Go.Op.assign (Go.Operand.tmp 20), type := 30, pos := "law.go:62", after := #[{ on := 0, ground := Go.Ground.data }, { on := 5, ground := Go.Ground.chain }, { on := 0, ground := Go.Ground.phase }, { on := 1, ground := Go.Ground.textOnly Go.Departure.lateStores }, { on := 2, ground := Go.Ground.textOnly Go.Departure.lateStores }, { on := 3, ground := Go.Ground.textOnly Go.Departure.lateStores }, { on := 4, ground := Go.Ground.textOnly Go.Departure.lateStores }, { on := 5, ground := Go.Ground.textOnly Go.Departure.lateStoresUnsure }, { on := 6, ground := Go.Ground.textOnly Go.Departure.lateStores }, { on := 7, ground := Go.Ground.textOnly Go.Departure.lateStores }], guard := none }) (v := ?_) rfl (by kernel_rfl) (by kernel_rfl) (by kernel_rfl) (fun _ _ _ h => h) (Or.inl ⟨by rfl, ?_⟩) (by assumption) ?_
              rotate_left
              · intro w hSw
                try dsimp only at hSw
                obtain ⟨q0, q1⟩ := hSw
                go_simp
                all_goals with_reducible rfl
              try simp only [Act.put, List.setIfInBounds_toArray, List.set_cons_zero, List.set_cons_succ]
              refine wpAnyH_take (i := 9) (oi := { dst := some 9, op := Go.Op.assign (Go.Operand.tmp 25), type := 32, pos := "law.go:62", after := #[{ on := 5, ground := Go.Ground.data }, { on := 8, ground := Go.Ground.chain }, { on := 0, ground := Go.Ground.phase }, { on := 1, ground := Go.Ground.phase }, { on := 2, ground := Go.Ground.phase }, { on := 3, ground := Go.Ground.phase }, { on := 4, ground := Go.Ground.phase }, { on := 5, ground := Go.Ground.phase }, { on := 6, ground := Go.Ground.textOnly Go.Departure.lateStores }, { on := 7, ground := Go.Ground.textOnly Go.Departure.lateStores }, { on := 8, ground := Go.Ground.phase }], guard := none }) (v := ?_) rfl (by kernel_rfl) (by kernel_rfl) (by kernel_rfl) (fun _ _ _ h => h) (Or.inl ⟨by rfl, ?_⟩) (by assumption) ?_
              rotate_left
              · intro w hSw
                try dsimp only at hSw
                obtain ⟨q0, q1⟩ := hSw
                go_simp
                all_goals with_reducible rfl
              try simp only [Act.put, List.setIfInBounds_toArray, List.set_cons_zero, List.set_cons_succ]
              refine wpAnyH_ready (rs := [7]) (by kernel_rfl) (by simp) ?_
              refine AllReadyH.cons (o := { dst := some 27, op := Go.Op.box 36 (Go.Operand.tmp 26), type := 34, pos := "law.go:62", after := #[{ on := 6, ground := Go.Ground.data }, { on := 9, ground := Go.Ground.gcOnly Go.Departure.lateStores }], guard := none }) rfl (fun K hK => ?_) ?_
              · go_simp
                have hb := Joins.below_alloc1 y2 (.cells #[.int .i64 0] 36)
                have HJD := Lib.hid (HJD.out.next hb)
                have HLD := Lib.hid (HLD.out.next hb)
                have HB3 : Hid (Below w3.heap.size w3 (y2.alloc (.cells #[.int .i64 0] 36))) := Lib.hid (Below.next HB2.out hb)
                have HGD : Hid (Fc 36 (y2.alloc (.cells #[.int .i64 0] 36)) y2.heap.size 0 ∧ w3.heap.size ≤ y2.heap.size) := Lib.hid ⟨heap_alloc_new y2 _, HB2.out.size⟩
                obtain ⟨e0, e1⟩ := HXK.out _ HB3.out
                clear hb
                generalize (y2.alloc (.cells #[.int .i64 0] 36)) = y3 at *
                refine hK.out _ _ ?_ (fun hH => ?_)
                · exact ⟨e0, e1⟩
                clear hK K
                try simp only [Act.put, List.setIfInBounds_toArray, List.set_cons_zero, List.set_cons_succ]
                refine wpAnyH_take (i := 10) (oi := { dst := some 10, op := Go.Op.assign (Go.Operand.tmp 27), type := 34, pos := "law.go:62", after := #[{ on := 7, ground := Go.Ground.data }, { on := 9, ground := Go.Ground.chain }, { on := 0, ground := Go.Ground.phase }, { on := 1, ground := Go.Ground.phase }, { on := 2, ground := Go.Ground.phase }, { on := 3, ground := Go.Ground.phase }, { on := 4, ground := Go.Ground.phase }, { on := 5, ground := Go.Ground.phase }, { on := 6, ground := Go.Ground.phase }, { on := 7, ground := Go.Ground.phase }, { on := 8, ground := Go.Ground.phase }, { on := 9, ground := Go.Ground.phase }], guard := none }) (v := ?_) rfl (by kernel_rfl) (by kernel_rfl) (by kernel_rfl) (fun _ _ _ h => h) (Or.inl ⟨by rfl, ?_⟩) (by assumption) ?_
                rotate_left
                · intro w hSw
                  try dsimp only at hSw
                  obtain ⟨q0, q1⟩ := hSw
                  go_simp
                  all_goals with_reducible rfl
                try simp only [Act.put, List.setIfInBounds_toArray, List.set_cons_zero, List.set_cons_succ]
                refine wpAnyH_done (by kernel_rfl) ?_ _
                have HFD : Hid (Fd w y3 lb F [] b bs br ⟨1, x0, x1, true, 0, [], 0, []⟩ fb 0 (w3.heap.size) (Jf (w3.heap.size) (.slice none 0 0) fun _ => False) [] (y1.heap.size) ds dr ⟨1, x0, x1, true, 0, [], 0, []⟩ (y2.heap.size) 0) := Lib.hid ⟨H1.out.next HB3.out, ⟨Below.next H1.out.bel HB3.out, HJD.out, ⟨_, _, _, _, HLD.out⟩, HGD.out.1, Nat.le_trans H1.out.bel.size HGD.out.2⟩, fun y hy hg => by
                  have h1 := HF0.out y hy
                  have h2 := jf0 hg
                  have h3 := HDB.out
                  omega⟩
                go_wp2_with fail
                go_meet
                case rel => exact ⟨_, _, _, ds, dr, _, rfl, rfl, rfl, HFD.out⟩
              exact AllReadyH.nil
            refine AllReadyH.cons (o := { dst := some 27, op := Go.Op.box 36 (Go.Operand.tmp 26), type := 34, pos := "law.go:62", after := #[{ on := 6, ground := Go.Ground.data }, { on := 9, ground := Go.Ground.gcOnly Go.Departure.lateStores }], guard := none }) rfl (fun K hK => ?_) ?_
            · go_simp
              have hb := Joins.below_alloc1 y1 (.cells #[.int .i64 0] 36)
              have HJD := Lib.hid (HJD.out.next hb)
              have HB2 : Hid (Below w3.heap.size w3 (y1.alloc (.cells #[.int .i64 0] 36))) := Lib.hid (Below.next HB1.out hb)
              have HGD : Hid (Fc 36 (y1.alloc (.cells #[.int .i64 0] 36)) y1.heap.size 0 ∧ w3.heap.size ≤ y1.heap.size) := Lib.hid ⟨heap_alloc_new y1 _, HB1.out.size⟩
              obtain ⟨e0, e1⟩ := HXK.out _ HB2.out
              clear hb
              generalize (y1.alloc (.cells #[.int .i64 0] 36)) = y2 at *
              refine hK.out _ _ ?_ (fun hH => ?_)
              · exact ⟨e0, e1⟩
              clear hK K
              try simp only [Act.put, List.setIfInBounds_toArray, List.set_cons_zero, List.set_cons_succ]
              refine wpAnyH_ready (rs := [5]) (by kernel_rfl) (by simp) ?_
              refine AllReadyH.cons (o := { dst := some 25, op := Go.Op.call { callee := Go.Callee.value (Go.Operand.func 11), args := #[Go.Operand.const (Go.Value.int Go.IntKind.i64 1), Go.Operand.tmp 22, Go.Operand.tmp 24, Go.Operand.const (Go.Value.bool true)], argTypes := #[3, 3, 3, 4] }, type := 32, pos := "law.go:62", after := #[{ on := 2, ground := Go.Ground.data }, { on := 4, ground := Go.Ground.data }, { on := 0, ground := Go.Ground.chain }], guard := none }) rfl (fun K hK => ?_) ?_
              · go_simp
                refine (Go.Proofs.YtjmkdgjdemndaaaDoor.K.dlnew_any 1 x0 x1 true y2).mono ?_
                rintro e y3 ⟨rfl, ⟨ds, dr, hx⟩, hb⟩
                have HJD := Lib.hid (HJD.out.next hb)
                have HGD := Lib.hid (And.intro (HGD.out.1.next hb) HGD.out.2)
                have HB3 : Hid (Below w3.heap.size w3 y3) := Lib.hid (Below.next HB2.out hb)
                have HLD := Lib.hid (hx.lower (Nat.le_trans H1.out.bel.size HB2.out.size))
                obtain ⟨e0, e1⟩ := HXK.out _ HB3.out
                clear hx hb
                go_wp2_with fail
                refine hK.out _ _ ?_ (fun hH => ?_)
                · exact ⟨e0, e1⟩
                clear hK K
                try simp only [Act.put, List.setIfInBounds_toArray, List.set_cons_zero, List.set_cons_succ]
                refine wpAnyH_take (i := 8) (oi := { dst := some 8, op := Go.Op.assign (Go.Operand.tmp 20), type := 30, pos := "law.go:62", after := #[{ on := 0, ground := Go.Ground.data }, { on := 5, ground := Go.Ground.chain }, { on := 0, ground := Go.Ground.phase }, { on := 1, ground := Go.Ground.textOnly Go.Departure.lateStores }, { on := 2, ground := Go.Ground.textOnly Go.Departure.lateStores }, { on := 3, ground := Go.Ground.textOnly Go.Departure.lateStores }, { on := 4, ground := Go.Ground.textOnly Go.Departure.lateStores }, { on := 5, ground := Go.Ground.textOnly Go.Departure.lateStoresUnsure }, { on := 6, ground := Go.Ground.textOnly Go.Departure.lateStores }, { on := 7, ground := Go.Ground.textOnly Go.Departure.lateStores }], guard := none }) (v := ?_) rfl (by kernel_rfl) (by kernel_rfl) (by kernel_rfl) (fun _ _ _ h => h) (Or.inl ⟨by rfl, ?_⟩) (by assumption) ?_
                rotate_left
                · intro w hSw
                  try dsimp only at hSw
                  obtain ⟨q0, q1⟩ := hSw
                  go_simp
                  all_goals with_reducible rfl
                try simp only [Act.put, List.setIfInBounds_toArray, List.set_cons_zero, List.set_cons_succ]
                refine wpAnyH_take (i := 9) (oi := { dst := some 9, op := Go.Op.assign (Go.Operand.tmp 25), type := 32, pos := "law.go:62", after := #[{ on := 5, ground := Go.Ground.data }, { on := 8, ground := Go.Ground.chain }, { on := 0, ground := Go.Ground.phase }, { on := 1, ground := Go.Ground.phase }, { on := 2, ground := Go.Ground.phase }, { on := 3, ground := Go.Ground.phase }, { on := 4, ground := Go.Ground.phase }, { on := 5, ground := Go.Ground.phase }, { on := 6, ground := Go.Ground.textOnly Go.Departure.lateStores }, { on := 7, ground := Go.Ground.textOnly Go.Departure.lateStores }, { on := 8, ground := Go.Ground.phase }], guard := none }) (v := ?_) rfl (by kernel_rfl) (by kernel_rfl) (by kernel_rfl) (fun _ _ _ h => h) (Or.inl ⟨by rfl, ?_⟩) (by assumption) ?_
                rotate_left
                · intro w hSw
                  try dsimp only at hSw
                  obtain ⟨q0, q1⟩ := hSw
                  go_simp
                  all_goals with_reducible rfl
                try simp only [Act.put, List.setIfInBounds_toArray, List.set_cons_zero, List.set_cons_succ]
                refine wpAnyH_take (i := 10) (oi := { dst := some 10, op := Go.Op.assign (Go.Operand.tmp 27), type := 34, pos := "law.go:62", after := #[{ on := 7, ground := Go.Ground.data }, { on := 9, ground := Go.Ground.chain }, { on := 0, ground := Go.Ground.phase }, { on := 1, ground := Go.Ground.phase }, { on := 2, ground := Go.Ground.phase }, { on := 3, ground := Go.Ground.phase }, { on := 4, ground := Go.Ground.phase }, { on := 5, ground := Go.Ground.phase }, { on := 6, ground := Go.Ground.phase }, { on := 7, ground := Go.Ground.phase }, { on := 8, ground := Go.Ground.phase }, { on := 9, ground := Go.Ground.phase }], guard := none }) (v := ?_) rfl (by kernel_rfl) (by kernel_rfl) (by kernel_rfl) (fun _ _ _ h => h) (Or.inl ⟨by rfl, ?_⟩) (by assumption) ?_
                rotate_left
                · intro w hSw
                  try dsimp only at hSw
                  obtain ⟨q0, q1⟩ := hSw
                  go_simp
                  all_goals with_reducible rfl
                try simp only [Act.put, List.setIfInBounds_toArray, List.set_cons_zero, List.set_cons_succ]
                refine wpAnyH_done (by kernel_rfl) ?_ _
                have HFD : Hid (Fd w y3 lb F [] b bs br ⟨1, x0, x1, true, 0, [], 0, []⟩ fb 0 (w3.heap.size) (Jf (w3.heap.size) (.slice none 0 0) fun _ => False) [] (y2.heap.size) ds dr ⟨1, x0, x1, true, 0, [], 0, []⟩ (y1.heap.size) 0) := Lib.hid ⟨H1.out.next HB3.out, ⟨Below.next H1.out.bel HB3.out, HJD.out, ⟨_, _, _, _, HLD.out⟩, HGD.out.1, Nat.le_trans H1.out.bel.size HGD.out.2⟩, fun y hy hg => by
                  have h1 := HF0.out y hy
                  have h2 := jf0 hg
                  have h3 := HDB.out
                  omega⟩
                go_wp2_with fail
                go_meet
                case rel => exact ⟨_, _, _, ds, dr, _, rfl, rfl, rfl, HFD.out⟩
              exact AllReadyH.nil
            exact AllReadyH.nil
          refine AllReadyH.cons (o := { dst := some 27, op := Go.Op.box 36 (Go.Operand.tmp 26), type := 34, pos := "law.go:62", after := #[{ on := 6, ground := Go.Ground.data }, { on := 9, ground := Go.Ground.gcOnly Go.Departure.lateStores }], guard := none }) rfl (fun K hK => ?_) ?_
          · go_simp
            have hb := Joins.below_alloc1 w3.drew (.cells #[.int .i64 0] 36)
            have HB1 : Hid (Below w3.heap.size w3 (w3.alloc (.cells #[.int .i64 0] 36)).drew) := Lib.hid (Below.next HB0.out hb)
            have HGD : Hid (Fc 36 (w3.alloc (.cells #[.int .i64 0] 36)).drew w3.heap.size 0 ∧ w3.heap.size ≤ w3.heap.size) := Lib.hid ⟨heap_alloc_new w3.drew _, HB0.out.size⟩
            obtain ⟨e0, e1⟩ := HXK.out _ HB1.out
            clear hb
            generalize (w3.alloc (.cells #[.int .i64 0] 36)).drew = y1 at *
            refine hK.out _ _ ?_ (fun hH => ?_)
            · exact ⟨e0, e1⟩
            clear hK K
            try simp only [Act.put, List.setIfInBounds_toArray, List.set_cons_zero, List.set_cons_succ]
            refine wpAnyH_ready (rs := [0]) (by kernel_rfl) (by simp) ?_
            refine AllReadyH.cons (o := { dst := some 20, op := Go.Op.call { callee := Go.Callee.value (Go.Operand.func 10), args := #[Go.Operand.const (Go.Value.int Go.IntKind.i64 3)], argTypes := #[3] }, type := 30, pos := "law.go:62", after := #[], guard := none }) rfl (fun K hK => ?_) ?_
            · go_simp
              refine (dnew_any 3 w.heap.size y1 (Nat.le_trans H1.out.bel.size HB1.out.size)).mono ?_
              rintro e y2 ⟨rfl, hj, hb⟩
              have HGD := Lib.hid (And.intro (HGD.out.1.next hb) HGD.out.2)
              have HB2 : Hid (Below w3.heap.size w3 y2) := Lib.hid (Below.next HB1.out hb)
              have HJD : Hid (Cx 78 Pd w.heap.size y2 y1.heap.size (Jf y1.heap.size (.slice none 0 0) fun _ => False) 3 []) := Lib.hid hj
              have HDB : Hid (w3.heap.size ≤ y1.heap.size) := Lib.hid HB1.out.size
              obtain ⟨e0, e1⟩ := HXK.out _ HB2.out
              clear hj hb
              go_wp2_with fail
              refine hK.out _ _ ?_ (fun hH => ?_)
              · exact ⟨e0, e1⟩
              clear hK K
              try simp only [Act.put, List.setIfInBounds_toArray, List.set_cons_zero, List.set_cons_succ]
              refine wpAnyH_ready (rs := [5]) (by kernel_rfl) (by simp) ?_
              refine AllReadyH.cons (o := { dst := some 25, op := Go.Op.call { callee := Go.Callee.value (Go.Operand.func 11), args := #[Go.Operand.const (Go.Value.int Go.IntKind.i64 1), Go.Operand.tmp 22, Go.Operand.tmp 24, Go.Operand.const (Go.Value.bool true)], argTypes := #[3, 3, 3, 4] }, type := 32, pos := "law.go:62", after := #[{ on := 2, ground := Go.Ground.data }, { on := 4, ground := Go.Ground.data }, { on := 0, ground := Go.Ground.chain }], guard := none }) rfl (fun K hK => ?_) ?_
              · go_simp
                refine (Go.Proofs.YtjmkdgjdemndaaaDoor.K.dlnew_any 1 x0 x1 true y2).mono ?_
                rintro e y3 ⟨rfl, ⟨ds, dr, hx⟩, hb⟩
                have HJD := Lib.hid (HJD.out.next hb)
                have HGD := Lib.hid (And.intro (HGD.out.1.next hb) HGD.out.2)
                have HB3 : Hid (Below w3.heap.size w3 y3) := Lib.hid (Below.next HB2.out hb)
                have HLD := Lib.hid (hx.lower (Nat.le_trans H1.out.bel.size HB2.out.size))
                obtain ⟨e0, e1⟩ := HXK.out _ HB3.out
                clear hx hb
                go_wp2_with fail
                refine hK.out _ _ ?_ (fun hH => ?_)
                · exact ⟨e0, e1⟩
                clear hK K
                try simp only [Act.put, List.setIfInBounds_toArray, List.set_cons_zero, List.set_cons_succ]
                refine wpAnyH_take (i := 8) (oi := { dst := some 8, op := Go.Op.assign (Go.Operand.tmp 20), type := 30, pos := "law.go:62", after := #[{ on := 0, ground := Go.Ground.data }, { on := 5, ground := Go.Ground.chain }, { on := 0, ground := Go.Ground.phase }, { on := 1, ground := Go.Ground.textOnly Go.Departure.lateStores }, { on := 2, ground := Go.Ground.textOnly Go.Departure.lateStores }, { on := 3, ground := Go.Ground.textOnly Go.Departure.lateStores }, { on := 4, ground := Go.Ground.textOnly Go.Departure.lateStores }, { on := 5, ground := Go.Ground.textOnly Go.Departure.lateStoresUnsure }, { on := 6, ground := Go.Ground.textOnly Go.Departure.lateStores }, { on := 7, ground := Go.Ground.textOnly Go.Departure.lateStores }], guard := none }) (v := ?_) rfl (by kernel_rfl) (by kernel_rfl) (by kernel_rfl) (fun _ _ _ h => h) (Or.inl ⟨by rfl, ?_⟩) (by assumption) ?_
                rotate_left
                · intro w hSw
                  try dsimp only at hSw
                  obtain ⟨q0, q1⟩ := hSw
                  go_simp
                  all_goals with_reducible rfl
                try simp only [Act.put, List.setIfInBounds_toArray, List.set_cons_zero, List.set_cons_succ]
                refine wpAnyH_take (i := 9) (oi := { dst := some 9, op := Go.Op.assign (Go.Operand.tmp 25), type := 32, pos := "law.go:62", after := #[{ on := 5, ground := Go.Ground.data }, { on := 8, ground := Go.Ground.chain }, { on := 0, ground := Go.Ground.phase }, { on := 1, ground := Go.Ground.phase }, { on := 2, ground := Go.Ground.phase }, { on := 3, ground := Go.Ground.phase }, { on := 4, ground := Go.Ground.phase }, { on := 5, ground := Go.Ground.phase }, { on := 6, ground := Go.Ground.textOnly Go.Departure.lateStores }, { on := 7, ground := Go.Ground.textOnly Go.Departure.lateStores }, { on := 8, ground := Go.Ground.phase }], guard := none }) (v := ?_) rfl (by kernel_rfl) (by kernel_rfl) (by kernel_rfl) (fun _ _ _ h => h) (Or.inl ⟨by rfl, ?_⟩) (by assumption) ?_
                rotate_left
                · intro w hSw
                  try dsimp only at hSw
                  obtain ⟨q0, q1⟩ := hSw
                  go_simp
                  all_goals with_reducible rfl
                try simp only [Act.put, List.setIfInBounds_toArray, List.set_cons_zero, List.set_cons_succ]
                refine wpAnyH_take (i := 10) (oi := { dst := some 10, op := Go.Op.assign (Go.Operand.tmp 27), type := 34, pos := "law.go:62", after := #[{ on := 7, ground := Go.Ground.data }, { on := 9, ground := Go.Ground.chain }, { on := 0, ground := Go.Ground.phase }, { on := 1, ground := Go.Ground.phase }, { on := 2, ground := Go.Ground.phase }, { on := 3, ground := Go.Ground.phase }, { on := 4, ground := Go.Ground.phase }, { on := 5, ground := Go.Ground.phase }, { on := 6, ground := Go.Ground.phase }, { on := 7, ground := Go.Ground.phase }, { on := 8, ground := Go.Ground.phase }, { on := 9, ground := Go.Ground.phase }], guard := none }) (v := ?_) rfl (by kernel_rfl) (by kernel_rfl) (by kernel_rfl) (fun _ _ _ h => h) (Or.inl ⟨by rfl, ?_⟩) (by assumption) ?_
                rotate_left
                · intro w hSw
                  try dsimp only at hSw
                  obtain ⟨q0, q1⟩ := hSw
                  go_simp
                  all_goals with_reducible rfl
                try simp only [Act.put, List.setIfInBounds_toArray, List.set_cons_zero, List.set_cons_succ]
                refine wpAnyH_done (by kernel_rfl) ?_ _
                have HFD : Hid (Fd w y3 lb F [] b bs br ⟨1, x0, x1, true, 0, [], 0, []⟩ fb 0 (y1.heap.size) (Jf (y1.heap.size) (.slice none 0 0) fun _ => False) [] (y2.heap.size) ds dr ⟨1, x0, x1, true, 0, [], 0, []⟩ (w3.heap.size) 0) := Lib.hid ⟨H1.out.next HB3.out, ⟨Below.next H1.out.bel HB3.out, HJD.out, ⟨_, _, _, _, HLD.out⟩, HGD.out.1, Nat.le_trans H1.out.bel.size HGD.out.2⟩, fun y hy hg => by
                  have h1 := HF0.out y hy
                  have h2 := jf0 hg
                  have h3 := HDB.out
                  omega⟩
                go_wp2_with fail
                go_meet
                case rel => exact ⟨_, _, _, ds, dr, _, rfl, rfl, rfl, HFD.out⟩
              exact AllReadyH.nil
            exact AllReadyH.nil
          exact AllReadyH.nil
        case rest =>
          obtain ⟨db, d, gb, ds, dr, G, rfl, rfl, rfl, hfd⟩ := hcut
          have H2 := Lib.hid hfd
          clear hfd H1 HXK HF0
          go_wp2_with fail
          refine (awake_any _ (HD.out.below H2.out.f.bel)).mono ?_
          rintro e w4 ⟨rfl, hb⟩
          have H3 := Lib.hid (H2.out.next hb)
          clear hb H2
          go_wp2_with fail
          refine (great_any a len cap l _ (isAs_below HI.out H3.out.f.bel)).mono ?_
          rintro e w5 ⟨⟨bt, rfl, hok⟩, hb⟩
          have H4 := Lib.hid (H3.out.next hb)
          clear hb H3
          cases bt with
          | true =>
            clear hok
            go_wp2_with fail
            refine (awake_any _ (HD.out.below H4.out.f.bel)).mono ?_
            rintro e w6 ⟨rfl, hb⟩
            have H5 := Lib.hid (H4.out.next hb)
            clear hb H4
            go_wp2
            go_ret
            exact ⟨rfl, H5.out.f.bel⟩
          | false =>
            obtain ⟨hlen, hok⟩ := hok rfl
            have HOKS := Lib.hid hok
            clear hok
            go_wp2_with fail
            go_loopw [49] (fun v49 wr => ∃ i : Nat, i ≤ len ∧ v49 = .int .i64 i ∧ ∃ (F G : Nat → Prop) (L : List Cr) (bs br ds dr : Nat) (E : Go.Proofs.YtjmkdgjdemndaaaDoor.K.En) (p : Nat), Fd w wr lb F L b bs br E fb p db G L d ds dr E gb p ∧ L.length ≤ i ∧ p ≤ L.length ∧ E.k + E.ds.length ≤ 60 * i ∧ E.q + E.ps.length ≤ i) (fun v49 _ => len - (intOf v49).toNat)
            case atStart => exact ⟨0, Nat.zero_le _, rfl, _, _, [], _, _, _, _, _, 0, H4.out, Nat.le_refl _, Nat.le_refl _, Nat.le_refl _, Nat.le_refl _⟩
            case round =>
              obtain ⟨i, hi, rfl, F, G, L, bs, br, ds, dr, E, p, h, hL, hp, hk, hq⟩ := hrel
              clear H4
              have HL := Lib.hid hL
              have HPL := Lib.hid hp
              have HK := Lib.hid hk
              have HQ := Lib.hid hq
              clear hL hp hk hq
              by_cases hlt : i < len
              · obtain ⟨g, off, e1, c0, c1, c2, c3, c4, c5, c6, c7⟩ := acells_of HI.out h.f.bel hlt
                subst e1
                have hru := HI.out.each i hlt
                have hoki := HOKS.out i hlt
                generalize l.getD i ac0 = x at *
                obtain ⟨kd, ⟨fe, fs, fa, fd⟩, ⟨ro, rn, ra, rl, rc, rus⟩⟩ := x
                simp only at c0 c1 c2 c3 c4 c5 c6 c7 hru
                have HRU := Lib.hid hru
                have HOK := Lib.hid hoki
                have H1 := Lib.hid (h.next (Joins.below_alloc1 wr (.cells #[.int .i64 kd, .int .i64 fe, .int .i64 fs, .int .i64 fa, .string fd, .int .i64 ro, .int .i64 rn, .slice ra rl rc] 45)))
                have HAB : Hid (Ab (wr.alloc (.cells #[.int .i64 kd, .int .i64 fe, .int .i64 fs, .int .i64 fa, .string fd, .int .i64 ro, .int .i64 rn, .slice ra rl rc] 45)) wr.heap.size kd fe fs fa fd ro rn ra rl rc) := Lib.hid (heap_alloc_new wr _)
                clear h hru hoki
                by_cases k1 : kd = 1
                · subst k1
                  obtain ⟨n, hn⟩ : ∃ n, pumpN E (L.drop p) = n := ⟨_, rfl⟩
                  obtain ⟨E2, hE⟩ : ∃ E2, pumpE E (L.drop p) = E2 := ⟨_, rfl⟩
                  have hle := pumpN_le (L.drop p) E
                  have hfew := pump_few E (L.drop p)
                  rw [hn, List.length_drop] at hle
                  rw [hE, List.length_drop] at hfew
                  have HE := Lib.hid hE
                  have HN := Lib.hid hn
                  have HL1 : Hid (L.length ≤ i + 1) := Lib.hid (by have := HL.out; omega)
                  have HPL0 := HPL
                  have HK0 : Hid (E.k + E.ds.length + L.length ≤ 10000) := Lib.hid (by have h1 := HK.out; have h2 := HL.out; omega)
                  have HPL : Hid (p + n ≤ L.length) := Lib.hid (by have := HPL.out; omega)
                  have HK1 : Hid (E2.k + E2.ds.length ≤ 60 * (i + 1)) := Lib.hid (by have h1 := HK.out; have h2 := HL.out; omega)
                  have HQ1 : Hid (E2.q + E2.ps.length ≤ i + 1) := Lib.hid (by have h1 := HQ.out; omega)
                  have HL1000 : Hid (L.length ≤ 1000) := Lib.hid (by have := HL.out; omega)
                  have b0 := HAB.out.c0
                  clear hn hE hle hfew
                  go_wp2_with fail
                  refine (fd_pump HE.out HN.out HPL0.out HL1000.out HD.out _ H1.out).mono ?_
                  rintro e y1 ⟨rfl, h⟩
                  have HA := Lib.hid h
                  clear h H1 HAB b0
                  go_wp2_with fail
                  refine (fd_dpump HE.out HN.out HPL0.out HL1000.out HK0.out _ HA.out).mono ?_
                  rintro e y2 ⟨rfl, h⟩
                  have HT := Lib.hid h
                  clear h HA HE HN HPL0 HK0 HL1000 HL HK HQ
                  have hp2 : ∃ x, p + n = x := ⟨_, rfl⟩
                  obtain ⟨p2, hp2⟩ := hp2
                  rw [hp2] at HT HPL
                  clear hp2
                  go_wp2_with fail
                  obtain ⟨N, hn⟩ : ∃ N, E2.frames.length = N := ⟨_, rfl⟩
                  have HNL := Lib.hid hn
                  have HNB : Hid (N ≤ 1000000) := Lib.hid (by have h1 := fr_len E2; have h2 := HK1.out; omega)
                  have HKK : Hid (E2.k ≤ 10000) := Lib.hid (by have h2 := HK1.out; omega)
                  clear hn
                  have z0 := HT.out.g.fd.c0
                  have HTD := Lib.hid (HT.out.next (w' := (y2).drew) (Below.refl _ _).drew)
                  clear HT
                  go_wp2_with fail
                  refine wp_region_held_drew (S := fun w' => w'.cell? ⟨gb, 0, none⟩ = some (.int .i64 (p2 : Int))) (by kernel_rfl) ?_ (fun hH => ?_)
                  · exact z0
                  refine wpAnyH_take (i := 0) (oi := { dst := some 93, op := Go.Op.move (Go.Operand.tmp 7), type := 28, pos := "law.go:82", after := #[], guard := none }) (v := ?_) rfl (by kernel_rfl) (by kernel_rfl) (by kernel_rfl) (fun _ _ _ h => h) (Or.inl ⟨by rfl, ?_⟩) (by assumption) ?_
                  rotate_left
                  · intro w hSw
                    try dsimp only at hSw
                    obtain q0 := hSw
                    go_simp
                    all_goals with_reducible rfl
                  try simp only [Act.put, List.setIfInBounds_toArray, List.set_cons_zero, List.set_cons_succ]
                  refine wpAnyH_take (i := 2) (oi := { dst := some 95, op := Go.Op.move (Go.Operand.tmp 10), type := 34, pos := "law.go:82", after := #[], guard := none }) (v := ?_) rfl (by kernel_rfl) (by kernel_rfl) (by kernel_rfl) (fun _ _ _ h => h) (Or.inl ⟨by rfl, ?_⟩) (by assumption) ?_
                  rotate_left
                  · intro w hSw
                    try dsimp only at hSw
                    obtain q0 := hSw
                    go_simp
                    all_goals with_reducible rfl
                  try simp only [Act.put, List.setIfInBounds_toArray, List.set_cons_zero, List.set_cons_succ]
                  refine wpAnyH_take (i := 3) (oi := { dst := some 96, op := Go.Op.nilCheck (Go.Operand.tmp 95), type := 0, pos := "law.go:82", after := #[{ on := 2, ground := Go.Ground.data }], guard := none }) (v := ?_) rfl (by kernel_rfl) (by kernel_rfl) (by kernel_rfl) (fun _ _ _ h => h) (Or.inl ⟨by rfl, ?_⟩) (by assumption) ?_
                  rotate_left
                  · intro w hSw
                    try dsimp only at hSw
                    obtain q0 := hSw
                    go_simp
                    all_goals with_reducible rfl
                  try simp only [Act.put, List.setIfInBounds_toArray, List.set_cons_zero, List.set_cons_succ]
                  refine wpAnyH_take (i := 4) (oi := { dst := some 97, op := Go.Op.fieldAddr 36 (Go.Operand.tmp 96) 0, type := 0, pos := "law.go:82", after := #[{ on := 3, ground := Go.Ground.data }], guard := none }) (v := ?_) rfl (by kernel_rfl) (by kernel_rfl) (by kernel_rfl) (fun _ _ _ h => h) (Or.inl ⟨by rfl, ?_⟩) (by assumption) ?_
                  rotate_left
                  · intro w hSw
                    try dsimp only at hSw
                    obtain q0 := hSw
                    go_simp
                    all_goals with_reducible rfl
                  try simp only [Act.put, List.setIfInBounds_toArray, List.set_cons_zero, List.set_cons_succ]
                  refine wpAnyH_take (i := 5) (oi := { dst := some 98, op := Go.Op.load 3 (Go.Operand.tmp 97), type := 3, pos := "law.go:82", after := #[{ on := 4, ground := Go.Ground.data }], guard := none }) (v := ?_) rfl (by kernel_rfl) (by kernel_rfl) (by kernel_rfl) (fun _ _ _ h => h) (Or.inl ⟨by rfl, ?_⟩) (by assumption) ?_
                  rotate_left
                  · intro w hSw
                    try dsimp only at hSw
                    obtain q0 := hSw
                    go_simp
                    all_goals with_reducible rfl
                  try simp only [Act.put, List.setIfInBounds_toArray, List.set_cons_zero, List.set_cons_succ]
                  refine wpAnyH_ready (rs := [1]) (by kernel_rfl) (by simp) ?_
                  refine AllReadyH.cons (o := { dst := some 94, op := Go.Op.call { callee := Go.Callee.value (Go.Operand.func 21), args := #[Go.Operand.tmp 93], argTypes := #[28] }, type := 3, pos := "law.go:82", after := #[{ on := 0, ground := Go.Ground.data }], guard := none }) rfl (fun K hK => ?_) ?_
                  · go_simp
                    refine (fat_any _ HTD.out.f.fd).mono ?_
                    rintro e y1 ⟨rfl, rfl⟩
                    go_wp2_with fail
                    refine hK.out _ _ ?_ (fun hH => ?_)
                    · exact z0
                    clear hK K
                    try simp only [Act.put, List.setIfInBounds_toArray, List.set_cons_zero, List.set_cons_succ]
                    refine wpAnyH_take (i := 6) (oi := { dst := some 99, op := Go.Op.binOp Go.BinOp.neq 3 (Go.Operand.tmp 94) (Go.Operand.tmp 98) 3, type := 4, pos := "law.go:82", after := #[{ on := 1, ground := Go.Ground.data }, { on := 5, ground := Go.Ground.data }], guard := none }) (v := ?_) rfl (by kernel_rfl) (by kernel_rfl) (by kernel_rfl) (fun _ _ _ h => h) (Or.inl ⟨by rfl, ?_⟩) (by assumption) ?_
                    rotate_left
                    · intro w hSw
                      try dsimp only at hSw
                      obtain q0 := hSw
                      go_simp
                      all_goals with_reducible rfl
                    try simp only [Act.put, List.setIfInBounds_toArray, List.set_cons_zero, List.set_cons_succ]
                    refine wpAnyH_take (i := 7) (oi := { dst := some 100, op := Go.Op.move (Go.Operand.tmp 99), type := 4, pos := "law.go:82", after := #[{ on := 6, ground := Go.Ground.data }, { on := 1, ground := Go.Ground.chain }], guard := none }) (v := ?_) rfl (by kernel_rfl) (by kernel_rfl) (by kernel_rfl) (fun _ _ _ h => h) (Or.inl ⟨by rfl, ?_⟩) (by assumption) ?_
                    rotate_left
                    · intro w hSw
                      try dsimp only at hSw
                      obtain q0 := hSw
                      go_simp
                      all_goals with_reducible rfl
                    try simp only [Act.put, List.setIfInBounds_toArray, List.set_cons_zero, List.set_cons_succ]
                    refine wpAnyH_take (i := 8) (oi := { dst := some 101, op := Go.Op.move (Go.Operand.tmp 6), type := 26, pos := "law.go:82", after := #[{ on := 7, ground := Go.Ground.guard }], guard := some (7, false) }) (v := ?_) rfl (by kernel_rfl) (by kernel_rfl) (by kernel_rfl) (fun _ _ _ h => h) (Or.inl ⟨by rfl, ?_⟩) (by assumption) ?_
                    rotate_left
                    · intro w hSw
                      try dsimp only at hSw
                      obtain q0 := hSw
                      go_simp
                      all_goals with_reducible rfl
                    try simp only [Act.put, List.setIfInBounds_toArray, List.set_cons_zero, List.set_cons_succ]
                    refine wpAnyH_take (i := 10) (oi := { dst := some 103, op := Go.Op.move (Go.Operand.tmp 9), type := 32, pos := "law.go:82", after := #[{ on := 7, ground := Go.Ground.guard }], guard := some (7, false) }) (v := ?_) rfl (by kernel_rfl) (by kernel_rfl) (by kernel_rfl) (fun _ _ _ h => h) (Or.inl ⟨by rfl, ?_⟩) (by assumption) ?_
                    rotate_left
                    · intro w hSw
                      try dsimp only at hSw
                      obtain q0 := hSw
                      go_simp
                      all_goals with_reducible rfl
                    try simp only [Act.put, List.setIfInBounds_toArray, List.set_cons_zero, List.set_cons_succ]
                    refine wpAnyH_ready (rs := [9]) (by kernel_rfl) (by simp) ?_
                    refine AllReadyH.cons (o := { dst := some 102, op := Go.Op.call { callee := Go.Callee.value (Go.Operand.func 23), args := #[Go.Operand.tmp 101], argTypes := #[26] }, type := 54, pos := "law.go:82", after := #[{ on := 8, ground := Go.Ground.data }, { on := 7, ground := Go.Ground.chain }, { on := 7, ground := Go.Ground.guard }], guard := some (7, false) }) rfl (fun K hK => ?_) ?_
                    · go_simp
                      refine (fj_frames rfl HNL.out _ HTD.out.f).mono ?_
                      rintro e y2 ⟨a2, c2, rfl, hr, hb⟩
                      have H5 := Lib.hid (HTD.out.next hb)
                      have HR5 := Lib.hid hr
                      have z2 := H5.out.g.fd.c0
                      clear hr hb HTD
                      go_wp2_with fail
                      refine hK.out _ _ ?_ (fun hH => ?_)
                      · exact z2
                      clear hK K
                      try simp only [Act.put, List.setIfInBounds_toArray, List.set_cons_zero, List.set_cons_succ]
                      refine wpAnyH_ready (rs := [11]) (by kernel_rfl) (by simp) ?_
                      refine AllReadyH.cons (o := { dst := some 104, op := Go.Op.call { callee := Go.Callee.value (Go.Operand.func 24), args := #[Go.Operand.tmp 103], argTypes := #[32] }, type := 54, pos := "law.go:82", after := #[{ on := 10, ground := Go.Ground.data }, { on := 9, ground := Go.Ground.chain }, { on := 7, ground := Go.Ground.guard }], guard := some (7, false) }) rfl (fun K hK => ?_) ?_
                      · go_simp
                        refine (dj_frames rfl HNL.out HKK.out _ H5.out.g).mono ?_
                        rintro e y3 ⟨a3, c3, rfl, hr, hb⟩
                        have H6 := Lib.hid (H5.out.next hb)
                        have HR6 := Lib.hid hr
                        have HS6 := Lib.hid (HR5.out.below hb)
                        have z3 := H6.out.g.fd.c0
                        clear hr hb H5 HR5
                        go_wp2_with fail
                        refine hK.out _ _ ?_ (fun hH => ?_)
                        · exact z3
                        clear hK K
                        try simp only [Act.put, List.setIfInBounds_toArray, List.set_cons_zero, List.set_cons_succ]
                        refine wpAnyH_ready (rs := [12]) (by kernel_rfl) (by simp) ?_
                        refine AllReadyH.cons (o := { dst := some 105, op := Go.Op.call { callee := Go.Callee.value (Go.Operand.func 22), args := #[Go.Operand.tmp 102, Go.Operand.tmp 104], argTypes := #[54, 54] }, type := 4, pos := "law.go:82", after := #[{ on := 9, ground := Go.Ground.data }, { on := 11, ground := Go.Ground.data }, { on := 11, ground := Go.Ground.chain }, { on := 7, ground := Go.Ground.guard }], guard := some (7, false) }) rfl (fun K hK => ?_) ?_
                        · go_simp
                          refine (Go.Proofs.YtjmkdgjdemndaaaDoor.K.samef_yes _ _ _ _ _ E2.frames HNB.out _ (HS6.out.isF HNL.out.symm).1 (HR6.out.isF HNL.out.symm).1).mono ?_
                          rintro e y4 ⟨rfl, e1, e2, e3, e4⟩
                          have H7 := Lib.hid (H6.out.next (Go.Proofs.YtjmkdgjdemndaaaDoor.K.below_asit e1 e2 e3 e4))
                          have z4 := H7.out.g.fd.c0
                          clear e1 e2 e3 e4 H6 HR6 HS6
                          go_wp2_with fail
                          refine hK.out _ _ ?_ (fun hH => ?_)
                          · exact z4
                          clear hK K
                          try simp only [Act.put, List.setIfInBounds_toArray, List.set_cons_zero, List.set_cons_succ]
                          refine wpAnyH_take (i := 13) (oi := { dst := some 106, op := Go.Op.unOp Go.UnOp.not 4 (Go.Operand.tmp 105), type := 4, pos := "law.go:82", after := #[{ on := 12, ground := Go.Ground.data }, { on := 7, ground := Go.Ground.guard }], guard := some (7, false) }) (v := ?_) rfl (by kernel_rfl) (by kernel_rfl) (by kernel_rfl) (fun _ _ _ h => h) (Or.inl ⟨by rfl, ?_⟩) (by assumption) ?_
                          rotate_left
                          · intro w hSw
                            try dsimp only at hSw
                            obtain q0 := hSw
                            go_simp
                            all_goals with_reducible rfl
                          try simp only [Act.put, List.setIfInBounds_toArray, List.set_cons_zero, List.set_cons_succ]
                          refine wpAnyH_take (i := 14) (oi := { dst := some 107, op := Go.Op.pick (Go.Operand.tmp 100) (Go.Operand.const (Go.Value.bool true)) (Go.Operand.tmp 106), type := 4, pos := "law.go:82", after := #[{ on := 7, ground := Go.Ground.data }, { on := 13, ground := Go.Ground.data }], guard := none }) (v := ?_) rfl (by kernel_rfl) (by kernel_rfl) (by kernel_rfl) (fun _ _ _ h => h) (Or.inl ⟨by rfl, ?_⟩) (by assumption) ?_
                          rotate_left
                          · intro w hSw
                            try dsimp only at hSw
                            obtain q0 := hSw
                            go_simp
                            all_goals with_reducible rfl
                          try simp only [Act.put, List.setIfInBounds_toArray, List.set_cons_zero, List.set_cons_succ]
                          refine wpAnyH_done (by kernel_rfl) ?_ _
                          clear z0 z2 z3 z4
                          go_wp2
                          go_roundw
                          case rel => exact ⟨i + 1, by omega, by go_num, _, _, _, _, _, _, _, _, _, H7.out, HL1.out, HPL.out, HK1.out, HQ1.out⟩
                          case measure => simp [intOf]; omega
                        exact AllReadyH.nil
                      exact AllReadyH.nil
                    exact AllReadyH.nil
                  exact AllReadyH.nil
                by_cases k2 : kd = 2
                · subst k2
                  obtain ⟨E2, hE⟩ : ∃ E2, E.hear (fe, fs, fa, fd) = E2 := ⟨_, rfl⟩
                  obtain ⟨an, han⟩ : ∃ an, E.anew (fe, fs, fa, fd) = an := ⟨_, rfl⟩
                  have hf1 := Go.Proofs.YtjmkdgjdemndaaaDoor.K.hear_few E (fe, fs, fa, fd)
                  have hf2 := Go.Proofs.YtjmkdgjdemndaaaDoor.K.hear_more E (fe, fs, fa, fd)
                  rw [hE] at hf1 hf2
                  have HE := Lib.hid hE
                  have HAN := Lib.hid han
                  have HXD : Hid (fd.size ≤ 1000) := Lib.hid (by have h1 := HOK.out.2.1; simp only at h1; omega)
                  have HOKF : Hid (Go.Proofs.YtjmkdgjdemndaaaDoor.K.okF (fe, fs, fa, fd)) := Lib.hid (HOK.out.2.2 rfl)
                  have HL1 : Hid (L.length ≤ i + 1) := Lib.hid (by have := HL.out; omega)
                  have HK1 : Hid (E2.k + E2.ds.length ≤ 60 * (i + 1)) := Lib.hid (by have h1 := HK.out; omega)
                  have HQ1 : Hid (E2.q + E2.ps.length ≤ i + 1) := Lib.hid (by have h1 := HQ.out; omega)
                  have b0 := HAB.out.c0
                  obtain ⟨b1, b2, b3, b4⟩ := HAB.out.fr
                  clear hE han hf1 hf2
                  go_wp2_with fail
                  refine (fd_hear (f := (fe, fs, fa, fd)) HE.out HAN.out HXD.out (by have := HQ.out; omega) _ H1.out).mono ?_
                  rintro e y1 ⟨rfl, ⟨bs2, br2, h⟩, ho⟩
                  have HA := Lib.hid h
                  obtain ⟨m1, m2, m3, m4⟩ := (HAB.out.othF ho).fr
                  clear h ho H1 HAB b0 b1 b2 b3 b4
                  go_wp2_with fail
                  refine (fd_dhear (f := (fe, fs, fa, fd)) HE.out HAN.out HXD.out (by have := HQ.out; omega) HOKF.out _ HA.out).mono ?_
                  rintro e y2 ⟨rfl, ds2, dr2, h⟩
                  have HT := Lib.hid h
                  clear h HA HE HAN HOKF HXD HL HK HQ m1 m2 m3 m4
                  go_wp2_with fail
                  obtain ⟨n, hn⟩ : ∃ n, E2.frames.length = n := ⟨_, rfl⟩
                  have HNL := Lib.hid hn
                  have HNB : Hid (n ≤ 1000000) := Lib.hid (by have h1 := fr_len E2; have h2 := HK1.out; omega)
                  have HKK : Hid (E2.k ≤ 10000) := Lib.hid (by have h2 := HK1.out; omega)
                  clear hn
                  have z0 := HT.out.g.fd.c0
                  have HTD := Lib.hid (HT.out.next (w' := (y2).drew) (Below.refl _ _).drew)
                  clear HT
                  go_wp2_with fail
                  refine wp_region_held_drew (S := fun w' => w'.cell? ⟨gb, 0, none⟩ = some (.int .i64 (p : Int))) (by kernel_rfl) ?_ (fun hH => ?_)
                  · exact z0
                  refine wpAnyH_take (i := 0) (oi := { dst := some 93, op := Go.Op.move (Go.Operand.tmp 7), type := 28, pos := "law.go:82", after := #[], guard := none }) (v := ?_) rfl (by kernel_rfl) (by kernel_rfl) (by kernel_rfl) (fun _ _ _ h => h) (Or.inl ⟨by rfl, ?_⟩) (by assumption) ?_
                  rotate_left
                  · intro w hSw
                    try dsimp only at hSw
                    obtain q0 := hSw
                    go_simp
                    all_goals with_reducible rfl
                  try simp only [Act.put, List.setIfInBounds_toArray, List.set_cons_zero, List.set_cons_succ]
                  refine wpAnyH_take (i := 2) (oi := { dst := some 95, op := Go.Op.move (Go.Operand.tmp 10), type := 34, pos := "law.go:82", after := #[], guard := none }) (v := ?_) rfl (by kernel_rfl) (by kernel_rfl) (by kernel_rfl) (fun _ _ _ h => h) (Or.inl ⟨by rfl, ?_⟩) (by assumption) ?_
                  rotate_left
                  · intro w hSw
                    try dsimp only at hSw
                    obtain q0 := hSw
                    go_simp
                    all_goals with_reducible rfl
                  try simp only [Act.put, List.setIfInBounds_toArray, List.set_cons_zero, List.set_cons_succ]
                  refine wpAnyH_take (i := 3) (oi := { dst := some 96, op := Go.Op.nilCheck (Go.Operand.tmp 95), type := 0, pos := "law.go:82", after := #[{ on := 2, ground := Go.Ground.data }], guard := none }) (v := ?_) rfl (by kernel_rfl) (by kernel_rfl) (by kernel_rfl) (fun _ _ _ h => h) (Or.inl ⟨by rfl, ?_⟩) (by assumption) ?_
                  rotate_left
                  · intro w hSw
                    try dsimp only at hSw
                    obtain q0 := hSw
                    go_simp
                    all_goals with_reducible rfl
                  try simp only [Act.put, List.setIfInBounds_toArray, List.set_cons_zero, List.set_cons_succ]
                  refine wpAnyH_take (i := 4) (oi := { dst := some 97, op := Go.Op.fieldAddr 36 (Go.Operand.tmp 96) 0, type := 0, pos := "law.go:82", after := #[{ on := 3, ground := Go.Ground.data }], guard := none }) (v := ?_) rfl (by kernel_rfl) (by kernel_rfl) (by kernel_rfl) (fun _ _ _ h => h) (Or.inl ⟨by rfl, ?_⟩) (by assumption) ?_
                  rotate_left
                  · intro w hSw
                    try dsimp only at hSw
                    obtain q0 := hSw
                    go_simp
                    all_goals with_reducible rfl
                  try simp only [Act.put, List.setIfInBounds_toArray, List.set_cons_zero, List.set_cons_succ]
                  refine wpAnyH_take (i := 5) (oi := { dst := some 98, op := Go.Op.load 3 (Go.Operand.tmp 97), type := 3, pos := "law.go:82", after := #[{ on := 4, ground := Go.Ground.data }], guard := none }) (v := ?_) rfl (by kernel_rfl) (by kernel_rfl) (by kernel_rfl) (fun _ _ _ h => h) (Or.inl ⟨by rfl, ?_⟩) (by assumption) ?_
                  rotate_left
                  · intro w hSw
                    try dsimp only at hSw
                    obtain q0 := hSw
                    go_simp
                    all_goals with_reducible rfl
                  try simp only [Act.put, List.setIfInBounds_toArray, List.set_cons_zero, List.set_cons_succ]
                  refine wpAnyH_ready (rs := [1]) (by kernel_rfl) (by simp) ?_
                  refine AllReadyH.cons (o := { dst := some 94, op := Go.Op.call { callee := Go.Callee.value (Go.Operand.func 21), args := #[Go.Operand.tmp 93], argTypes := #[28] }, type := 3, pos := "law.go:82", after := #[{ on := 0, ground := Go.Ground.data }], guard := none }) rfl (fun K hK => ?_) ?_
                  · go_simp
                    refine (fat_any _ HTD.out.f.fd).mono ?_
                    rintro e y1 ⟨rfl, rfl⟩
                    go_wp2_with fail
                    refine hK.out _ _ ?_ (fun hH => ?_)
                    · exact z0
                    clear hK K
                    try simp only [Act.put, List.setIfInBounds_toArray, List.set_cons_zero, List.set_cons_succ]
                    refine wpAnyH_take (i := 6) (oi := { dst := some 99, op := Go.Op.binOp Go.BinOp.neq 3 (Go.Operand.tmp 94) (Go.Operand.tmp 98) 3, type := 4, pos := "law.go:82", after := #[{ on := 1, ground := Go.Ground.data }, { on := 5, ground := Go.Ground.data }], guard := none }) (v := ?_) rfl (by kernel_rfl) (by kernel_rfl) (by kernel_rfl) (fun _ _ _ h => h) (Or.inl ⟨by rfl, ?_⟩) (by assumption) ?_
                    rotate_left
                    · intro w hSw
                      try dsimp only at hSw
                      obtain q0 := hSw
                      go_simp
                      all_goals with_reducible rfl
                    try simp only [Act.put, List.setIfInBounds_toArray, List.set_cons_zero, List.set_cons_succ]
                    refine wpAnyH_take (i := 7) (oi := { dst := some 100, op := Go.Op.move (Go.Operand.tmp 99), type := 4, pos := "law.go:82", after := #[{ on := 6, ground := Go.Ground.data }, { on := 1, ground := Go.Ground.chain }], guard := none }) (v := ?_) rfl (by kernel_rfl) (by kernel_rfl) (by kernel_rfl) (fun _ _ _ h => h) (Or.inl ⟨by rfl, ?_⟩) (by assumption) ?_
                    rotate_left
                    · intro w hSw
                      try dsimp only at hSw
                      obtain q0 := hSw
                      go_simp
                      all_goals with_reducible rfl
                    try simp only [Act.put, List.setIfInBounds_toArray, List.set_cons_zero, List.set_cons_succ]
                    refine wpAnyH_take (i := 8) (oi := { dst := some 101, op := Go.Op.move (Go.Operand.tmp 6), type := 26, pos := "law.go:82", after := #[{ on := 7, ground := Go.Ground.guard }], guard := some (7, false) }) (v := ?_) rfl (by kernel_rfl) (by kernel_rfl) (by kernel_rfl) (fun _ _ _ h => h) (Or.inl ⟨by rfl, ?_⟩) (by assumption) ?_
                    rotate_left
                    · intro w hSw
                      try dsimp only at hSw
                      obtain q0 := hSw
                      go_simp
                      all_goals with_reducible rfl
                    try simp only [Act.put, List.setIfInBounds_toArray, List.set_cons_zero, List.set_cons_succ]
                    refine wpAnyH_take (i := 10) (oi := { dst := some 103, op := Go.Op.move (Go.Operand.tmp 9), type := 32, pos := "law.go:82", after := #[{ on := 7, ground := Go.Ground.guard }], guard := some (7, false) }) (v := ?_) rfl (by kernel_rfl) (by kernel_rfl) (by kernel_rfl) (fun _ _ _ h => h) (Or.inl ⟨by rfl, ?_⟩) (by assumption) ?_
                    rotate_left
                    · intro w hSw
                      try dsimp only at hSw
                      obtain q0 := hSw
                      go_simp
                      all_goals with_reducible rfl
                    try simp only [Act.put, List.setIfInBounds_toArray, List.set_cons_zero, List.set_cons_succ]
                    refine wpAnyH_ready (rs := [9]) (by kernel_rfl) (by simp) ?_
                    refine AllReadyH.cons (o := { dst := some 102, op := Go.Op.call { callee := Go.Callee.value (Go.Operand.func 23), args := #[Go.Operand.tmp 101], argTypes := #[26] }, type := 54, pos := "law.go:82", after := #[{ on := 8, ground := Go.Ground.data }, { on := 7, ground := Go.Ground.chain }, { on := 7, ground := Go.Ground.guard }], guard := some (7, false) }) rfl (fun K hK => ?_) ?_
                    · go_simp
                      refine (fj_frames rfl HNL.out _ HTD.out.f).mono ?_
                      rintro e y2 ⟨a2, c2, rfl, hr, hb⟩
                      have H5 := Lib.hid (HTD.out.next hb)
                      have HR5 := Lib.hid hr
                      have z2 := H5.out.g.fd.c0
                      clear hr hb HTD
                      go_wp2_with fail
                      refine hK.out _ _ ?_ (fun hH => ?_)
                      · exact z2
                      clear hK K
                      try simp only [Act.put, List.setIfInBounds_toArray, List.set_cons_zero, List.set_cons_succ]
                      refine wpAnyH_ready (rs := [11]) (by kernel_rfl) (by simp) ?_
                      refine AllReadyH.cons (o := { dst := some 104, op := Go.Op.call { callee := Go.Callee.value (Go.Operand.func 24), args := #[Go.Operand.tmp 103], argTypes := #[32] }, type := 54, pos := "law.go:82", after := #[{ on := 10, ground := Go.Ground.data }, { on := 9, ground := Go.Ground.chain }, { on := 7, ground := Go.Ground.guard }], guard := some (7, false) }) rfl (fun K hK => ?_) ?_
                      · go_simp
                        refine (dj_frames rfl HNL.out HKK.out _ H5.out.g).mono ?_
                        rintro e y3 ⟨a3, c3, rfl, hr, hb⟩
                        have H6 := Lib.hid (H5.out.next hb)
                        have HR6 := Lib.hid hr
                        have HS6 := Lib.hid (HR5.out.below hb)
                        have z3 := H6.out.g.fd.c0
                        clear hr hb H5 HR5
                        go_wp2_with fail
                        refine hK.out _ _ ?_ (fun hH => ?_)
                        · exact z3
                        clear hK K
                        try simp only [Act.put, List.setIfInBounds_toArray, List.set_cons_zero, List.set_cons_succ]
                        refine wpAnyH_ready (rs := [12]) (by kernel_rfl) (by simp) ?_
                        refine AllReadyH.cons (o := { dst := some 105, op := Go.Op.call { callee := Go.Callee.value (Go.Operand.func 22), args := #[Go.Operand.tmp 102, Go.Operand.tmp 104], argTypes := #[54, 54] }, type := 4, pos := "law.go:82", after := #[{ on := 9, ground := Go.Ground.data }, { on := 11, ground := Go.Ground.data }, { on := 11, ground := Go.Ground.chain }, { on := 7, ground := Go.Ground.guard }], guard := some (7, false) }) rfl (fun K hK => ?_) ?_
                        · go_simp
                          refine (Go.Proofs.YtjmkdgjdemndaaaDoor.K.samef_yes _ _ _ _ _ E2.frames HNB.out _ (HS6.out.isF HNL.out.symm).1 (HR6.out.isF HNL.out.symm).1).mono ?_
                          rintro e y4 ⟨rfl, e1, e2, e3, e4⟩
                          have H7 := Lib.hid (H6.out.next (Go.Proofs.YtjmkdgjdemndaaaDoor.K.below_asit e1 e2 e3 e4))
                          have z4 := H7.out.g.fd.c0
                          clear e1 e2 e3 e4 H6 HR6 HS6
                          go_wp2_with fail
                          refine hK.out _ _ ?_ (fun hH => ?_)
                          · exact z4
                          clear hK K
                          try simp only [Act.put, List.setIfInBounds_toArray, List.set_cons_zero, List.set_cons_succ]
                          refine wpAnyH_take (i := 13) (oi := { dst := some 106, op := Go.Op.unOp Go.UnOp.not 4 (Go.Operand.tmp 105), type := 4, pos := "law.go:82", after := #[{ on := 12, ground := Go.Ground.data }, { on := 7, ground := Go.Ground.guard }], guard := some (7, false) }) (v := ?_) rfl (by kernel_rfl) (by kernel_rfl) (by kernel_rfl) (fun _ _ _ h => h) (Or.inl ⟨by rfl, ?_⟩) (by assumption) ?_
                          rotate_left
                          · intro w hSw
                            try dsimp only at hSw
                            obtain q0 := hSw
                            go_simp
                            all_goals with_reducible rfl
                          try simp only [Act.put, List.setIfInBounds_toArray, List.set_cons_zero, List.set_cons_succ]
                          refine wpAnyH_take (i := 14) (oi := { dst := some 107, op := Go.Op.pick (Go.Operand.tmp 100) (Go.Operand.const (Go.Value.bool true)) (Go.Operand.tmp 106), type := 4, pos := "law.go:82", after := #[{ on := 7, ground := Go.Ground.data }, { on := 13, ground := Go.Ground.data }], guard := none }) (v := ?_) rfl (by kernel_rfl) (by kernel_rfl) (by kernel_rfl) (fun _ _ _ h => h) (Or.inl ⟨by rfl, ?_⟩) (by assumption) ?_
                          rotate_left
                          · intro w hSw
                            try dsimp only at hSw
                            obtain q0 := hSw
                            go_simp
                            all_goals with_reducible rfl
                          try simp only [Act.put, List.setIfInBounds_toArray, List.set_cons_zero, List.set_cons_succ]
                          refine wpAnyH_done (by kernel_rfl) ?_ _
                          clear z0 z2 z3 z4
                          go_wp2
                          go_roundw
                          case rel => exact ⟨i + 1, by omega, by go_num, _, _, _, _, _, _, _, _, _, H7.out, HL1.out, HPL.out, HK1.out, HQ1.out⟩
                          case measure => simp [intOf]; omega
                        exact AllReadyH.nil
                      exact AllReadyH.nil
                    exact AllReadyH.nil
                  exact AllReadyH.nil
                by_cases k3 : kd = 3
                · subst k3
                  have HL1 : Hid (L.length ≤ i + 1) := Lib.hid (by have := HL.out; omega)
                  have HK1 : Hid (E.k + E.ds.length ≤ 60 * (i + 1)) := Lib.hid (by have h1 := HK.out; omega)
                  have HQ1 : Hid (E.q + E.ps.length ≤ i + 1) := Lib.hid (by have h1 := HQ.out; omega)
                  have HPL : Hid (0 ≤ L.length) := Lib.hid (Nat.zero_le _)
                  have b0 := HAB.out.c0
                  go_wp2_with fail
                  refine (freset_any _ H1.out.f.fd).mono ?_
                  rintro e y1 ⟨rfl, rfl⟩
                  have h1 := H1.out.put 0
                  have m0 : ((wr.alloc (.cells #[.int .i64 3, .int .i64 fe, .int .i64 fs, .int .i64 fa, .string fd, .int .i64 ro, .int .i64 rn, .slice ra rl rc] 45)).setCell ⟨fb, 0, none⟩ (.int .i64 0)).cell? ⟨gb, 0, none⟩ = some (.int .i64 (p : Int)) := h1.g.fd.c0
                  have f0 : ((wr.alloc (.cells #[.int .i64 3, .int .i64 fe, .int .i64 fs, .int .i64 fa, .string fd, .int .i64 ro, .int .i64 rn, .slice ra rl rc] 45)).setCell ⟨fb, 0, none⟩ (.int .i64 0)).frozen? ⟨gb, 0, none⟩ = false := h1.g.fd.f0 0
                  have f1 := H1.out.g.fd.f0 0
                  have m1 := H1.out.g.fd.c0
                  have HT : Hid (Fd w (((wr.alloc (.cells #[.int .i64 3, .int .i64 fe, .int .i64 fs, .int .i64 fa, .string fd, .int .i64 ro, .int .i64 rn, .slice ra rl rc] 45)).setCell ⟨fb, 0, none⟩ (.int .i64 0)).setCell ⟨gb, 0, none⟩ (.int .i64 0)) lb F L b bs br E fb 0 db G L d ds dr E gb 0) := Lib.hid (h1.dput 0)
                  clear h1 HL HK HQ HAB b0 H1
                  go_wp2_with fail
                  obtain ⟨n, hn⟩ : ∃ n, E.frames.length = n := ⟨_, rfl⟩
                  have HNL := Lib.hid hn
                  have HNB : Hid (n ≤ 1000000) := Lib.hid (by have h1 := fr_len E; have h2 := HK1.out; omega)
                  have HKK : Hid (E.k ≤ 10000) := Lib.hid (by have h2 := HK1.out; omega)
                  clear hn
                  have z0 := HT.out.g.fd.c0
                  have HTD := Lib.hid (HT.out.next (w' := ((((wr.alloc (.cells #[.int .i64 3, .int .i64 fe, .int .i64 fs, .int .i64 fa, .string fd, .int .i64 ro, .int .i64 rn, .slice ra rl rc] 45)).setCell ⟨fb, 0, none⟩ (.int .i64 0)).setCell ⟨gb, 0, none⟩ (.int .i64 0))).drew) (Below.refl _ _).drew)
                  clear HT
                  go_wp2_with fail
                  refine wp_region_held_drew (S := fun w' => w'.cell? ⟨gb, 0, none⟩ = some (.int .i64 0)) (by kernel_rfl) ?_ (fun hH => ?_)
                  · exact z0
                  refine wpAnyH_take (i := 0) (oi := { dst := some 93, op := Go.Op.move (Go.Operand.tmp 7), type := 28, pos := "law.go:82", after := #[], guard := none }) (v := ?_) rfl (by kernel_rfl) (by kernel_rfl) (by kernel_rfl) (fun _ _ _ h => h) (Or.inl ⟨by rfl, ?_⟩) (by assumption) ?_
                  rotate_left
                  · intro w hSw
                    try dsimp only at hSw
                    obtain q0 := hSw
                    go_simp
                    all_goals with_reducible rfl
                  try simp only [Act.put, List.setIfInBounds_toArray, List.set_cons_zero, List.set_cons_succ]
                  refine wpAnyH_take (i := 2) (oi := { dst := some 95, op := Go.Op.move (Go.Operand.tmp 10), type := 34, pos := "law.go:82", after := #[], guard := none }) (v := ?_) rfl (by kernel_rfl) (by kernel_rfl) (by kernel_rfl) (fun _ _ _ h => h) (Or.inl ⟨by rfl, ?_⟩) (by assumption) ?_
                  rotate_left
                  · intro w hSw
                    try dsimp only at hSw
                    obtain q0 := hSw
                    go_simp
                    all_goals with_reducible rfl
                  try simp only [Act.put, List.setIfInBounds_toArray, List.set_cons_zero, List.set_cons_succ]
                  refine wpAnyH_take (i := 3) (oi := { dst := some 96, op := Go.Op.nilCheck (Go.Operand.tmp 95), type := 0, pos := "law.go:82", after := #[{ on := 2, ground := Go.Ground.data }], guard := none }) (v := ?_) rfl (by kernel_rfl) (by kernel_rfl) (by kernel_rfl) (fun _ _ _ h => h) (Or.inl ⟨by rfl, ?_⟩) (by assumption) ?_
                  rotate_left
                  · intro w hSw
                    try dsimp only at hSw
                    obtain q0 := hSw
                    go_simp
                    all_goals with_reducible rfl
                  try simp only [Act.put, List.setIfInBounds_toArray, List.set_cons_zero, List.set_cons_succ]
                  refine wpAnyH_take (i := 4) (oi := { dst := some 97, op := Go.Op.fieldAddr 36 (Go.Operand.tmp 96) 0, type := 0, pos := "law.go:82", after := #[{ on := 3, ground := Go.Ground.data }], guard := none }) (v := ?_) rfl (by kernel_rfl) (by kernel_rfl) (by kernel_rfl) (fun _ _ _ h => h) (Or.inl ⟨by rfl, ?_⟩) (by assumption) ?_
                  rotate_left
                  · intro w hSw
                    try dsimp only at hSw
                    obtain q0 := hSw
                    go_simp
                    all_goals with_reducible rfl
                  try simp only [Act.put, List.setIfInBounds_toArray, List.set_cons_zero, List.set_cons_succ]
                  refine wpAnyH_take (i := 5) (oi := { dst := some 98, op := Go.Op.load 3 (Go.Operand.tmp 97), type := 3, pos := "law.go:82", after := #[{ on := 4, ground := Go.Ground.data }], guard := none }) (v := ?_) rfl (by kernel_rfl) (by kernel_rfl) (by kernel_rfl) (fun _ _ _ h => h) (Or.inl ⟨by rfl, ?_⟩) (by assumption) ?_
                  rotate_left
                  · intro w hSw
                    try dsimp only at hSw
                    obtain q0 := hSw
                    go_simp
                    all_goals with_reducible rfl
                  try simp only [Act.put, List.setIfInBounds_toArray, List.set_cons_zero, List.set_cons_succ]
                  refine wpAnyH_ready (rs := [1]) (by kernel_rfl) (by simp) ?_
                  refine AllReadyH.cons (o := { dst := some 94, op := Go.Op.call { callee := Go.Callee.value (Go.Operand.func 21), args := #[Go.Operand.tmp 93], argTypes := #[28] }, type := 3, pos := "law.go:82", after := #[{ on := 0, ground := Go.Ground.data }], guard := none }) rfl (fun K hK => ?_) ?_
                  · go_simp
                    refine (fat_any (n := 0) _ HTD.out.f.fd).mono ?_
                    rintro e y1 ⟨rfl, rfl⟩
                    go_wp2_with fail
                    refine hK.out _ _ ?_ (fun hH => ?_)
                    · exact z0
                    clear hK K
                    try simp only [Act.put, List.setIfInBounds_toArray, List.set_cons_zero, List.set_cons_succ]
                    refine wpAnyH_take (i := 6) (oi := { dst := some 99, op := Go.Op.binOp Go.BinOp.neq 3 (Go.Operand.tmp 94) (Go.Operand.tmp 98) 3, type := 4, pos := "law.go:82", after := #[{ on := 1, ground := Go.Ground.data }, { on := 5, ground := Go.Ground.data }], guard := none }) (v := ?_) rfl (by kernel_rfl) (by kernel_rfl) (by kernel_rfl) (fun _ _ _ h => h) (Or.inl ⟨by rfl, ?_⟩) (by assumption) ?_
                    rotate_left
                    · intro w hSw
                      try dsimp only at hSw
                      obtain q0 := hSw
                      go_simp
                      all_goals with_reducible rfl
                    try simp only [Act.put, List.setIfInBounds_toArray, List.set_cons_zero, List.set_cons_succ]
                    refine wpAnyH_take (i := 7) (oi := { dst := some 100, op := Go.Op.move (Go.Operand.tmp 99), type := 4, pos := "law.go:82", after := #[{ on := 6, ground := Go.Ground.data }, { on := 1, ground := Go.Ground.chain }], guard := none }) (v := ?_) rfl (by kernel_rfl) (by kernel_rfl) (by kernel_rfl) (fun _ _ _ h => h) (Or.inl ⟨by rfl, ?_⟩) (by assumption) ?_
                    rotate_left
                    · intro w hSw
                      try dsimp only at hSw
                      obtain q0 := hSw
                      go_simp
                      all_goals with_reducible rfl
                    try simp only [Act.put, List.setIfInBounds_toArray, List.set_cons_zero, List.set_cons_succ]
                    refine wpAnyH_take (i := 8) (oi := { dst := some 101, op := Go.Op.move (Go.Operand.tmp 6), type := 26, pos := "law.go:82", after := #[{ on := 7, ground := Go.Ground.guard }], guard := some (7, false) }) (v := ?_) rfl (by kernel_rfl) (by kernel_rfl) (by kernel_rfl) (fun _ _ _ h => h) (Or.inl ⟨by rfl, ?_⟩) (by assumption) ?_
                    rotate_left
                    · intro w hSw
                      try dsimp only at hSw
                      obtain q0 := hSw
                      go_simp
                      all_goals with_reducible rfl
                    try simp only [Act.put, List.setIfInBounds_toArray, List.set_cons_zero, List.set_cons_succ]
                    refine wpAnyH_take (i := 10) (oi := { dst := some 103, op := Go.Op.move (Go.Operand.tmp 9), type := 32, pos := "law.go:82", after := #[{ on := 7, ground := Go.Ground.guard }], guard := some (7, false) }) (v := ?_) rfl (by kernel_rfl) (by kernel_rfl) (by kernel_rfl) (fun _ _ _ h => h) (Or.inl ⟨by rfl, ?_⟩) (by assumption) ?_
                    rotate_left
                    · intro w hSw
                      try dsimp only at hSw
                      obtain q0 := hSw
                      go_simp
                      all_goals with_reducible rfl
                    try simp only [Act.put, List.setIfInBounds_toArray, List.set_cons_zero, List.set_cons_succ]
                    refine wpAnyH_ready (rs := [9]) (by kernel_rfl) (by simp) ?_
                    refine AllReadyH.cons (o := { dst := some 102, op := Go.Op.call { callee := Go.Callee.value (Go.Operand.func 23), args := #[Go.Operand.tmp 101], argTypes := #[26] }, type := 54, pos := "law.go:82", after := #[{ on := 8, ground := Go.Ground.data }, { on := 7, ground := Go.Ground.chain }, { on := 7, ground := Go.Ground.guard }], guard := some (7, false) }) rfl (fun K hK => ?_) ?_
                    · go_simp
                      refine (fj_frames rfl HNL.out _ HTD.out.f).mono ?_
                      rintro e y2 ⟨a2, c2, rfl, hr, hb⟩
                      have H5 := Lib.hid (HTD.out.next hb)
                      have HR5 := Lib.hid hr
                      have z2 := H5.out.g.fd.c0
                      clear hr hb HTD
                      go_wp2_with fail
                      refine hK.out _ _ ?_ (fun hH => ?_)
                      · exact z2
                      clear hK K
                      try simp only [Act.put, List.setIfInBounds_toArray, List.set_cons_zero, List.set_cons_succ]
                      refine wpAnyH_ready (rs := [11]) (by kernel_rfl) (by simp) ?_
                      refine AllReadyH.cons (o := { dst := some 104, op := Go.Op.call { callee := Go.Callee.value (Go.Operand.func 24), args := #[Go.Operand.tmp 103], argTypes := #[32] }, type := 54, pos := "law.go:82", after := #[{ on := 10, ground := Go.Ground.data }, { on := 9, ground := Go.Ground.chain }, { on := 7, ground := Go.Ground.guard }], guard := some (7, false) }) rfl (fun K hK => ?_) ?_
                      · go_simp
                        refine (dj_frames rfl HNL.out HKK.out _ H5.out.g).mono ?_
                        rintro e y3 ⟨a3, c3, rfl, hr, hb⟩
                        have H6 := Lib.hid (H5.out.next hb)
                        have HR6 := Lib.hid hr
                        have HS6 := Lib.hid (HR5.out.below hb)
                        have z3 := H6.out.g.fd.c0
                        clear hr hb H5 HR5
                        go_wp2_with fail
                        refine hK.out _ _ ?_ (fun hH => ?_)
                        · exact z3
                        clear hK K
                        try simp only [Act.put, List.setIfInBounds_toArray, List.set_cons_zero, List.set_cons_succ]
                        refine wpAnyH_ready (rs := [12]) (by kernel_rfl) (by simp) ?_
                        refine AllReadyH.cons (o := { dst := some 105, op := Go.Op.call { callee := Go.Callee.value (Go.Operand.func 22), args := #[Go.Operand.tmp 102, Go.Operand.tmp 104], argTypes := #[54, 54] }, type := 4, pos := "law.go:82", after := #[{ on := 9, ground := Go.Ground.data }, { on := 11, ground := Go.Ground.data }, { on := 11, ground := Go.Ground.chain }, { on := 7, ground := Go.Ground.guard }], guard := some (7, false) }) rfl (fun K hK => ?_) ?_
                        · go_simp
                          refine (Go.Proofs.YtjmkdgjdemndaaaDoor.K.samef_yes _ _ _ _ _ E.frames HNB.out _ (HS6.out.isF HNL.out.symm).1 (HR6.out.isF HNL.out.symm).1).mono ?_
                          rintro e y4 ⟨rfl, e1, e2, e3, e4⟩
                          have H7 := Lib.hid (H6.out.next (Go.Proofs.YtjmkdgjdemndaaaDoor.K.below_asit e1 e2 e3 e4))
                          have z4 := H7.out.g.fd.c0
                          clear e1 e2 e3 e4 H6 HR6 HS6
                          go_wp2_with fail
                          refine hK.out _ _ ?_ (fun hH => ?_)
                          · exact z4
                          clear hK K
                          try simp only [Act.put, List.setIfInBounds_toArray, List.set_cons_zero, List.set_cons_succ]
                          refine wpAnyH_take (i := 13) (oi := { dst := some 106, op := Go.Op.unOp Go.UnOp.not 4 (Go.Operand.tmp 105), type := 4, pos := "law.go:82", after := #[{ on := 12, ground := Go.Ground.data }, { on := 7, ground := Go.Ground.guard }], guard := some (7, false) }) (v := ?_) rfl (by kernel_rfl) (by kernel_rfl) (by kernel_rfl) (fun _ _ _ h => h) (Or.inl ⟨by rfl, ?_⟩) (by assumption) ?_
                          rotate_left
                          · intro w hSw
                            try dsimp only at hSw
                            obtain q0 := hSw
                            go_simp
                            all_goals with_reducible rfl
                          try simp only [Act.put, List.setIfInBounds_toArray, List.set_cons_zero, List.set_cons_succ]
                          refine wpAnyH_take (i := 14) (oi := { dst := some 107, op := Go.Op.pick (Go.Operand.tmp 100) (Go.Operand.const (Go.Value.bool true)) (Go.Operand.tmp 106), type := 4, pos := "law.go:82", after := #[{ on := 7, ground := Go.Ground.data }, { on := 13, ground := Go.Ground.data }], guard := none }) (v := ?_) rfl (by kernel_rfl) (by kernel_rfl) (by kernel_rfl) (fun _ _ _ h => h) (Or.inl ⟨by rfl, ?_⟩) (by assumption) ?_
                          rotate_left
                          · intro w hSw
                            try dsimp only at hSw
                            obtain q0 := hSw
                            go_simp
                            all_goals with_reducible rfl
                          try simp only [Act.put, List.setIfInBounds_toArray, List.set_cons_zero, List.set_cons_succ]
                          refine wpAnyH_done (by kernel_rfl) ?_ _
                          clear z0 z2 z3 z4
                          go_wp2
                          go_roundw
                          case rel => exact ⟨i + 1, by omega, by go_num, _, _, _, _, _, _, _, _, _, H7.out, HL1.out, HPL.out, HK1.out, HQ1.out⟩
                          case measure => simp [intOf]; omega
                        exact AllReadyH.nil
                      exact AllReadyH.nil
                    exact AllReadyH.nil
                  exact AllReadyH.nil
                by_cases k4 : kd = 4
                · subst k4
                  have HSM : Hid (Sm rus) := Lib.hid (okA_sm HOK.out)
                  have HL1 : Hid ((comL 3 L (kR ⟨ro, rn, ra, rl, rc, rus⟩)).length ≤ i + 1) := Lib.hid (by have h1 := HL.out; have h2 := comL_len 3 L (kR ⟨ro, rn, ra, rl, rc, rus⟩); omega)
                  have HPL : Hid (p ≤ (comL 3 L (kR ⟨ro, rn, ra, rl, rc, rus⟩)).length) := Lib.hid (by have h1 := HPL.out; have h2 := com_ge 3 L (kR ⟨ro, rn, ra, rl, rc, rus⟩); omega)
                  have HK1 : Hid (E.k + E.ds.length ≤ 60 * (i + 1)) := Lib.hid (by have h1 := HK.out; omega)
                  have HQ1 : Hid (E.q + E.ps.length ≤ i + 1) := Lib.hid (by have h1 := HQ.out; omega)
                  have HL1000 : Hid (L.length ≤ 1000) := Lib.hid (by have := HL.out; omega)
                  have b0 := HAB.out.c0
                  obtain ⟨b5, b6, b7⟩ := HAB.out.rd
                  go_wp2_with fail
                  refine (fd_add HL1000.out ⟨ro, rn, ra, rl, rc, rus⟩ HSM.out _ (HRU.out.below H1.out.f.bel) H1.out).mono ?_
                  rintro e y1 ⟨⟨na, rfl⟩, ⟨F2, h⟩, hl⟩
                  have HA := Lib.hid h
                  obtain ⟨m5, m6, m7⟩ := (HAB.out.lv H1.out.f.lg hl).rd
                  clear h hl H1 HAB b0 b5 b6 b7
                  go_wp2_with fail
                  refine (fd_dadd HL1000.out ⟨ro, rn, ra, rl, rc, rus⟩ HSM.out _ (HRU.out.below HA.out.f.bel) HA.out).mono ?_
                  rintro e y2 ⟨⟨nb, rfl⟩, G2, h⟩
                  have HT := Lib.hid h
                  clear h HA HL HK HQ HSM HL1000 m5 m6 m7
                  go_wp2_with fail
                  obtain ⟨n, hn⟩ : ∃ n, E.frames.length = n := ⟨_, rfl⟩
                  have HNL := Lib.hid hn
                  have HNB : Hid (n ≤ 1000000) := Lib.hid (by have h1 := fr_len E; have h2 := HK1.out; omega)
                  have HKK : Hid (E.k ≤ 10000) := Lib.hid (by have h2 := HK1.out; omega)
                  clear hn
                  have z0 := HT.out.g.fd.c0
                  have HTD := Lib.hid (HT.out.next (w' := (y2).drew) (Below.refl _ _).drew)
                  clear HT
                  go_wp2_with fail
                  refine wp_region_held_drew (S := fun w' => w'.cell? ⟨gb, 0, none⟩ = some (.int .i64 (p : Int))) (by kernel_rfl) ?_ (fun hH => ?_)
                  · exact z0
                  refine wpAnyH_take (i := 0) (oi := { dst := some 93, op := Go.Op.move (Go.Operand.tmp 7), type := 28, pos := "law.go:82", after := #[], guard := none }) (v := ?_) rfl (by kernel_rfl) (by kernel_rfl) (by kernel_rfl) (fun _ _ _ h => h) (Or.inl ⟨by rfl, ?_⟩) (by assumption) ?_
                  rotate_left
                  · intro w hSw
                    try dsimp only at hSw
                    obtain q0 := hSw
                    go_simp
                    all_goals with_reducible rfl
                  try simp only [Act.put, List.setIfInBounds_toArray, List.set_cons_zero, List.set_cons_succ]
                  refine wpAnyH_take (i := 2) (oi := { dst := some 95, op := Go.Op.move (Go.Operand.tmp 10), type := 34, pos := "law.go:82", after := #[], guard := none }) (v := ?_) rfl (by kernel_rfl) (by kernel_rfl) (by kernel_rfl) (fun _ _ _ h => h) (Or.inl ⟨by rfl, ?_⟩) (by assumption) ?_
                  rotate_left
                  · intro w hSw
                    try dsimp only at hSw
                    obtain q0 := hSw
                    go_simp
                    all_goals with_reducible rfl
                  try simp only [Act.put, List.setIfInBounds_toArray, List.set_cons_zero, List.set_cons_succ]
                  refine wpAnyH_take (i := 3) (oi := { dst := some 96, op := Go.Op.nilCheck (Go.Operand.tmp 95), type := 0, pos := "law.go:82", after := #[{ on := 2, ground := Go.Ground.data }], guard := none }) (v := ?_) rfl (by kernel_rfl) (by kernel_rfl) (by kernel_rfl) (fun _ _ _ h => h) (Or.inl ⟨by rfl, ?_⟩) (by assumption) ?_
                  rotate_left
                  · intro w hSw
                    try dsimp only at hSw
                    obtain q0 := hSw
                    go_simp
                    all_goals with_reducible rfl
                  try simp only [Act.put, List.setIfInBounds_toArray, List.set_cons_zero, List.set_cons_succ]
                  refine wpAnyH_take (i := 4) (oi := { dst := some 97, op := Go.Op.fieldAddr 36 (Go.Operand.tmp 96) 0, type := 0, pos := "law.go:82", after := #[{ on := 3, ground := Go.Ground.data }], guard := none }) (v := ?_) rfl (by kernel_rfl) (by kernel_rfl) (by kernel_rfl) (fun _ _ _ h => h) (Or.inl ⟨by rfl, ?_⟩) (by assumption) ?_
                  rotate_left
                  · intro w hSw
                    try dsimp only at hSw
                    obtain q0 := hSw
                    go_simp
                    all_goals with_reducible rfl
                  try simp only [Act.put, List.setIfInBounds_toArray, List.set_cons_zero, List.set_cons_succ]
                  refine wpAnyH_take (i := 5) (oi := { dst := some 98, op := Go.Op.load 3 (Go.Operand.tmp 97), type := 3, pos := "law.go:82", after := #[{ on := 4, ground := Go.Ground.data }], guard := none }) (v := ?_) rfl (by kernel_rfl) (by kernel_rfl) (by kernel_rfl) (fun _ _ _ h => h) (Or.inl ⟨by rfl, ?_⟩) (by assumption) ?_
                  rotate_left
                  · intro w hSw
                    try dsimp only at hSw
                    obtain q0 := hSw
                    go_simp
                    all_goals with_reducible rfl
                  try simp only [Act.put, List.setIfInBounds_toArray, List.set_cons_zero, List.set_cons_succ]
                  refine wpAnyH_ready (rs := [1]) (by kernel_rfl) (by simp) ?_
                  refine AllReadyH.cons (o := { dst := some 94, op := Go.Op.call { callee := Go.Callee.value (Go.Operand.func 21), args := #[Go.Operand.tmp 93], argTypes := #[28] }, type := 3, pos := "law.go:82", after := #[{ on := 0, ground := Go.Ground.data }], guard := none }) rfl (fun K hK => ?_) ?_
                  · go_simp
                    refine (fat_any _ HTD.out.f.fd).mono ?_
                    rintro e y1 ⟨rfl, rfl⟩
                    go_wp2_with fail
                    refine hK.out _ _ ?_ (fun hH => ?_)
                    · exact z0
                    clear hK K
                    try simp only [Act.put, List.setIfInBounds_toArray, List.set_cons_zero, List.set_cons_succ]
                    refine wpAnyH_take (i := 6) (oi := { dst := some 99, op := Go.Op.binOp Go.BinOp.neq 3 (Go.Operand.tmp 94) (Go.Operand.tmp 98) 3, type := 4, pos := "law.go:82", after := #[{ on := 1, ground := Go.Ground.data }, { on := 5, ground := Go.Ground.data }], guard := none }) (v := ?_) rfl (by kernel_rfl) (by kernel_rfl) (by kernel_rfl) (fun _ _ _ h => h) (Or.inl ⟨by rfl, ?_⟩) (by assumption) ?_
                    rotate_left
                    · intro w hSw
                      try dsimp only at hSw
                      obtain q0 := hSw
                      go_simp
                      all_goals with_reducible rfl
                    try simp only [Act.put, List.setIfInBounds_toArray, List.set_cons_zero, List.set_cons_succ]
                    refine wpAnyH_take (i := 7) (oi := { dst := some 100, op := Go.Op.move (Go.Operand.tmp 99), type := 4, pos := "law.go:82", after := #[{ on := 6, ground := Go.Ground.data }, { on := 1, ground := Go.Ground.chain }], guard := none }) (v := ?_) rfl (by kernel_rfl) (by kernel_rfl) (by kernel_rfl) (fun _ _ _ h => h) (Or.inl ⟨by rfl, ?_⟩) (by assumption) ?_
                    rotate_left
                    · intro w hSw
                      try dsimp only at hSw
                      obtain q0 := hSw
                      go_simp
                      all_goals with_reducible rfl
                    try simp only [Act.put, List.setIfInBounds_toArray, List.set_cons_zero, List.set_cons_succ]
                    refine wpAnyH_take (i := 8) (oi := { dst := some 101, op := Go.Op.move (Go.Operand.tmp 6), type := 26, pos := "law.go:82", after := #[{ on := 7, ground := Go.Ground.guard }], guard := some (7, false) }) (v := ?_) rfl (by kernel_rfl) (by kernel_rfl) (by kernel_rfl) (fun _ _ _ h => h) (Or.inl ⟨by rfl, ?_⟩) (by assumption) ?_
                    rotate_left
                    · intro w hSw
                      try dsimp only at hSw
                      obtain q0 := hSw
                      go_simp
                      all_goals with_reducible rfl
                    try simp only [Act.put, List.setIfInBounds_toArray, List.set_cons_zero, List.set_cons_succ]
                    refine wpAnyH_take (i := 10) (oi := { dst := some 103, op := Go.Op.move (Go.Operand.tmp 9), type := 32, pos := "law.go:82", after := #[{ on := 7, ground := Go.Ground.guard }], guard := some (7, false) }) (v := ?_) rfl (by kernel_rfl) (by kernel_rfl) (by kernel_rfl) (fun _ _ _ h => h) (Or.inl ⟨by rfl, ?_⟩) (by assumption) ?_
                    rotate_left
                    · intro w hSw
                      try dsimp only at hSw
                      obtain q0 := hSw
                      go_simp
                      all_goals with_reducible rfl
                    try simp only [Act.put, List.setIfInBounds_toArray, List.set_cons_zero, List.set_cons_succ]
                    refine wpAnyH_ready (rs := [9]) (by kernel_rfl) (by simp) ?_
                    refine AllReadyH.cons (o := { dst := some 102, op := Go.Op.call { callee := Go.Callee.value (Go.Operand.func 23), args := #[Go.Operand.tmp 101], argTypes := #[26] }, type := 54, pos := "law.go:82", after := #[{ on := 8, ground := Go.Ground.data }, { on := 7, ground := Go.Ground.chain }, { on := 7, ground := Go.Ground.guard }], guard := some (7, false) }) rfl (fun K hK => ?_) ?_
                    · go_simp
                      refine (fj_frames rfl HNL.out _ HTD.out.f).mono ?_
                      rintro e y2 ⟨a2, c2, rfl, hr, hb⟩
                      have H5 := Lib.hid (HTD.out.next hb)
                      have HR5 := Lib.hid hr
                      have z2 := H5.out.g.fd.c0
                      clear hr hb HTD
                      go_wp2_with fail
                      refine hK.out _ _ ?_ (fun hH => ?_)
                      · exact z2
                      clear hK K
                      try simp only [Act.put, List.setIfInBounds_toArray, List.set_cons_zero, List.set_cons_succ]
                      refine wpAnyH_ready (rs := [11]) (by kernel_rfl) (by simp) ?_
                      refine AllReadyH.cons (o := { dst := some 104, op := Go.Op.call { callee := Go.Callee.value (Go.Operand.func 24), args := #[Go.Operand.tmp 103], argTypes := #[32] }, type := 54, pos := "law.go:82", after := #[{ on := 10, ground := Go.Ground.data }, { on := 9, ground := Go.Ground.chain }, { on := 7, ground := Go.Ground.guard }], guard := some (7, false) }) rfl (fun K hK => ?_) ?_
                      · go_simp
                        refine (dj_frames rfl HNL.out HKK.out _ H5.out.g).mono ?_
                        rintro e y3 ⟨a3, c3, rfl, hr, hb⟩
                        have H6 := Lib.hid (H5.out.next hb)
                        have HR6 := Lib.hid hr
                        have HS6 := Lib.hid (HR5.out.below hb)
                        have z3 := H6.out.g.fd.c0
                        clear hr hb H5 HR5
                        go_wp2_with fail
                        refine hK.out _ _ ?_ (fun hH => ?_)
                        · exact z3
                        clear hK K
                        try simp only [Act.put, List.setIfInBounds_toArray, List.set_cons_zero, List.set_cons_succ]
                        refine wpAnyH_ready (rs := [12]) (by kernel_rfl) (by simp) ?_
                        refine AllReadyH.cons (o := { dst := some 105, op := Go.Op.call { callee := Go.Callee.value (Go.Operand.func 22), args := #[Go.Operand.tmp 102, Go.Operand.tmp 104], argTypes := #[54, 54] }, type := 4, pos := "law.go:82", after := #[{ on := 9, ground := Go.Ground.data }, { on := 11, ground := Go.Ground.data }, { on := 11, ground := Go.Ground.chain }, { on := 7, ground := Go.Ground.guard }], guard := some (7, false) }) rfl (fun K hK => ?_) ?_
                        · go_simp
                          refine (Go.Proofs.YtjmkdgjdemndaaaDoor.K.samef_yes _ _ _ _ _ E.frames HNB.out _ (HS6.out.isF HNL.out.symm).1 (HR6.out.isF HNL.out.symm).1).mono ?_
                          rintro e y4 ⟨rfl, e1, e2, e3, e4⟩
                          have H7 := Lib.hid (H6.out.next (Go.Proofs.YtjmkdgjdemndaaaDoor.K.below_asit e1 e2 e3 e4))
                          have z4 := H7.out.g.fd.c0
                          clear e1 e2 e3 e4 H6 HR6 HS6
                          go_wp2_with fail
                          refine hK.out _ _ ?_ (fun hH => ?_)
                          · exact z4
                          clear hK K
                          try simp only [Act.put, List.setIfInBounds_toArray, List.set_cons_zero, List.set_cons_succ]
                          refine wpAnyH_take (i := 13) (oi := { dst := some 106, op := Go.Op.unOp Go.UnOp.not 4 (Go.Operand.tmp 105), type := 4, pos := "law.go:82", after := #[{ on := 12, ground := Go.Ground.data }, { on := 7, ground := Go.Ground.guard }], guard := some (7, false) }) (v := ?_) rfl (by kernel_rfl) (by kernel_rfl) (by kernel_rfl) (fun _ _ _ h => h) (Or.inl ⟨by rfl, ?_⟩) (by assumption) ?_
                          rotate_left
                          · intro w hSw
                            try dsimp only at hSw
                            obtain q0 := hSw
                            go_simp
                            all_goals with_reducible rfl
                          try simp only [Act.put, List.setIfInBounds_toArray, List.set_cons_zero, List.set_cons_succ]
                          refine wpAnyH_take (i := 14) (oi := { dst := some 107, op := Go.Op.pick (Go.Operand.tmp 100) (Go.Operand.const (Go.Value.bool true)) (Go.Operand.tmp 106), type := 4, pos := "law.go:82", after := #[{ on := 7, ground := Go.Ground.data }, { on := 13, ground := Go.Ground.data }], guard := none }) (v := ?_) rfl (by kernel_rfl) (by kernel_rfl) (by kernel_rfl) (fun _ _ _ h => h) (Or.inl ⟨by rfl, ?_⟩) (by assumption) ?_
                          rotate_left
                          · intro w hSw
                            try dsimp only at hSw
                            obtain q0 := hSw
                            go_simp
                            all_goals with_reducible rfl
                          try simp only [Act.put, List.setIfInBounds_toArray, List.set_cons_zero, List.set_cons_succ]
                          refine wpAnyH_done (by kernel_rfl) ?_ _
                          clear z0 z2 z3 z4
                          go_wp2
                          go_roundw
                          case rel => exact ⟨i + 1, by omega, by go_num, _, _, _, _, _, _, _, _, _, H7.out, HL1.out, HPL.out, HK1.out, HQ1.out⟩
                          case measure => simp [intOf]; omega
                        exact AllReadyH.nil
                      exact AllReadyH.nil
                    exact AllReadyH.nil
                  exact AllReadyH.nil
                have HL1 : Hid (L.length ≤ i + 1) := Lib.hid (by have := HL.out; omega)
                have HK1 : Hid (E.k + E.ds.length ≤ 60 * (i + 1)) := Lib.hid (by have h1 := HK.out; omega)
                have HQ1 : Hid (E.q + E.ps.length ≤ i + 1) := Lib.hid (by have h1 := HQ.out; omega)
                have b0 := HAB.out.c0
                have HT := H1
                clear H1 HL HK HQ HAB
                have q1 : (kd == 1) = false := beq_eq_false_iff_ne.2 k1
                have q2 : (kd == 2) = false := beq_eq_false_iff_ne.2 k2
                have q3 : (kd == 3) = false := beq_eq_false_iff_ne.2 k3
                have q4 : (kd == 4) = false := beq_eq_false_iff_ne.2 k4
                go_wp2_with fail
                obtain ⟨n, hn⟩ : ∃ n, E.frames.length = n := ⟨_, rfl⟩
                have HNL := Lib.hid hn
                have HNB : Hid (n ≤ 1000000) := Lib.hid (by have h1 := fr_len E; have h2 := HK1.out; omega)
                have HKK : Hid (E.k ≤ 10000) := Lib.hid (by have h2 := HK1.out; omega)
                clear hn
                have z0 := HT.out.g.fd.c0
                have HTD := Lib.hid (HT.out.next (w' := ((wr.alloc (.cells #[.int .i64 kd, .int .i64 fe, .int .i64 fs, .int .i64 fa, .string fd, .int .i64 ro, .int .i64 rn, .slice ra rl rc] 45))).drew) (Below.refl _ _).drew)
                clear HT
                go_wp2_with fail
                refine wp_region_held_drew (S := fun w' => w'.cell? ⟨gb, 0, none⟩ = some (.int .i64 (p : Int))) (by kernel_rfl) ?_ (fun hH => ?_)
                · exact z0
                refine wpAnyH_take (i := 0) (oi := { dst := some 93, op := Go.Op.move (Go.Operand.tmp 7), type := 28, pos := "law.go:82", after := #[], guard := none }) (v := ?_) rfl (by kernel_rfl) (by kernel_rfl) (by kernel_rfl) (fun _ _ _ h => h) (Or.inl ⟨by rfl, ?_⟩) (by assumption) ?_
                rotate_left
                · intro w hSw
                  try dsimp only at hSw
                  obtain q0 := hSw
                  go_simp
                  all_goals with_reducible rfl
                try simp only [Act.put, List.setIfInBounds_toArray, List.set_cons_zero, List.set_cons_succ]
                refine wpAnyH_take (i := 2) (oi := { dst := some 95, op := Go.Op.move (Go.Operand.tmp 10), type := 34, pos := "law.go:82", after := #[], guard := none }) (v := ?_) rfl (by kernel_rfl) (by kernel_rfl) (by kernel_rfl) (fun _ _ _ h => h) (Or.inl ⟨by rfl, ?_⟩) (by assumption) ?_
                rotate_left
                · intro w hSw
                  try dsimp only at hSw
                  obtain q0 := hSw
                  go_simp
                  all_goals with_reducible rfl
                try simp only [Act.put, List.setIfInBounds_toArray, List.set_cons_zero, List.set_cons_succ]
                refine wpAnyH_take (i := 3) (oi := { dst := some 96, op := Go.Op.nilCheck (Go.Operand.tmp 95), type := 0, pos := "law.go:82", after := #[{ on := 2, ground := Go.Ground.data }], guard := none }) (v := ?_) rfl (by kernel_rfl) (by kernel_rfl) (by kernel_rfl) (fun _ _ _ h => h) (Or.inl ⟨by rfl, ?_⟩) (by assumption) ?_
                rotate_left
                · intro w hSw
                  try dsimp only at hSw
                  obtain q0 := hSw
                  go_simp
                  all_goals with_reducible rfl
                try simp only [Act.put, List.setIfInBounds_toArray, List.set_cons_zero, List.set_cons_succ]
                refine wpAnyH_take (i := 4) (oi := { dst := some 97, op := Go.Op.fieldAddr 36 (Go.Operand.tmp 96) 0, type := 0, pos := "law.go:82", after := #[{ on := 3, ground := Go.Ground.data }], guard := none }) (v := ?_) rfl (by kernel_rfl) (by kernel_rfl) (by kernel_rfl) (fun _ _ _ h => h) (Or.inl ⟨by rfl, ?_⟩) (by assumption) ?_
                rotate_left
                · intro w hSw
                  try dsimp only at hSw
                  obtain q0 := hSw
                  go_simp
                  all_goals with_reducible rfl
                try simp only [Act.put, List.setIfInBounds_toArray, List.set_cons_zero, List.set_cons_succ]
                refine wpAnyH_take (i := 5) (oi := { dst := some 98, op := Go.Op.load 3 (Go.Operand.tmp 97), type := 3, pos := "law.go:82", after := #[{ on := 4, ground := Go.Ground.data }], guard := none }) (v := ?_) rfl (by kernel_rfl) (by kernel_rfl) (by kernel_rfl) (fun _ _ _ h => h) (Or.inl ⟨by rfl, ?_⟩) (by assumption) ?_
                rotate_left
                · intro w hSw
                  try dsimp only at hSw
                  obtain q0 := hSw
                  go_simp
                  all_goals with_reducible rfl
                try simp only [Act.put, List.setIfInBounds_toArray, List.set_cons_zero, List.set_cons_succ]
                refine wpAnyH_ready (rs := [1]) (by kernel_rfl) (by simp) ?_
                refine AllReadyH.cons (o := { dst := some 94, op := Go.Op.call { callee := Go.Callee.value (Go.Operand.func 21), args := #[Go.Operand.tmp 93], argTypes := #[28] }, type := 3, pos := "law.go:82", after := #[{ on := 0, ground := Go.Ground.data }], guard := none }) rfl (fun K hK => ?_) ?_
                · go_simp
                  refine (fat_any _ HTD.out.f.fd).mono ?_
                  rintro e y1 ⟨rfl, rfl⟩
                  go_wp2_with fail
                  refine hK.out _ _ ?_ (fun hH => ?_)
                  · exact z0
                  clear hK K
                  try simp only [Act.put, List.setIfInBounds_toArray, List.set_cons_zero, List.set_cons_succ]
                  refine wpAnyH_take (i := 6) (oi := { dst := some 99, op := Go.Op.binOp Go.BinOp.neq 3 (Go.Operand.tmp 94) (Go.Operand.tmp 98) 3, type := 4, pos := "law.go:82", after := #[{ on := 1, ground := Go.Ground.data }, { on := 5, ground := Go.Ground.data }], guard := none }) (v := ?_) rfl (by kernel_rfl) (by kernel_rfl) (by kernel_rfl) (fun _ _ _ h => h) (Or.inl ⟨by rfl, ?_⟩) (by assumption) ?_
                  rotate_left
                  · intro w hSw
                    try dsimp only at hSw
                    obtain q0 := hSw
                    go_simp
                    all_goals with_reducible rfl
                  try simp only [Act.put, List.setIfInBounds_toArray, List.set_cons_zero, List.set_cons_succ]
                  refine wpAnyH_take (i := 7) (oi := { dst := some 100, op := Go.Op.move (Go.Operand.tmp 99), type := 4, pos := "law.go:82", after := #[{ on := 6, ground := Go.Ground.data }, { on := 1, ground := Go.Ground.chain }], guard := none }) (v := ?_) rfl (by kernel_rfl) (by kernel_rfl) (by kernel_rfl) (fun _ _ _ h => h) (Or.inl ⟨by rfl, ?_⟩) (by assumption) ?_
                  rotate_left
                  · intro w hSw
                    try dsimp only at hSw
                    obtain q0 := hSw
                    go_simp
                    all_goals with_reducible rfl
                  try simp only [Act.put, List.setIfInBounds_toArray, List.set_cons_zero, List.set_cons_succ]
                  refine wpAnyH_take (i := 8) (oi := { dst := some 101, op := Go.Op.move (Go.Operand.tmp 6), type := 26, pos := "law.go:82", after := #[{ on := 7, ground := Go.Ground.guard }], guard := some (7, false) }) (v := ?_) rfl (by kernel_rfl) (by kernel_rfl) (by kernel_rfl) (fun _ _ _ h => h) (Or.inl ⟨by rfl, ?_⟩) (by assumption) ?_
                  rotate_left
                  · intro w hSw
                    try dsimp only at hSw
                    obtain q0 := hSw
                    go_simp
                    all_goals with_reducible rfl
                  try simp only [Act.put, List.setIfInBounds_toArray, List.set_cons_zero, List.set_cons_succ]
                  refine wpAnyH_take (i := 10) (oi := { dst := some 103, op := Go.Op.move (Go.Operand.tmp 9), type := 32, pos := "law.go:82", after := #[{ on := 7, ground := Go.Ground.guard }], guard := some (7, false) }) (v := ?_) rfl (by kernel_rfl) (by kernel_rfl) (by kernel_rfl) (fun _ _ _ h => h) (Or.inl ⟨by rfl, ?_⟩) (by assumption) ?_
                  rotate_left
                  · intro w hSw
                    try dsimp only at hSw
                    obtain q0 := hSw
                    go_simp
                    all_goals with_reducible rfl
                  try simp only [Act.put, List.setIfInBounds_toArray, List.set_cons_zero, List.set_cons_succ]
                  refine wpAnyH_ready (rs := [9]) (by kernel_rfl) (by simp) ?_
                  refine AllReadyH.cons (o := { dst := some 102, op := Go.Op.call { callee := Go.Callee.value (Go.Operand.func 23), args := #[Go.Operand.tmp 101], argTypes := #[26] }, type := 54, pos := "law.go:82", after := #[{ on := 8, ground := Go.Ground.data }, { on := 7, ground := Go.Ground.chain }, { on := 7, ground := Go.Ground.guard }], guard := some (7, false) }) rfl (fun K hK => ?_) ?_
                  · go_simp
                    refine (fj_frames rfl HNL.out _ HTD.out.f).mono ?_
                    rintro e y2 ⟨a2, c2, rfl, hr, hb⟩
                    have H5 := Lib.hid (HTD.out.next hb)
                    have HR5 := Lib.hid hr
                    have z2 := H5.out.g.fd.c0
                    clear hr hb HTD
                    go_wp2_with fail
                    refine hK.out _ _ ?_ (fun hH => ?_)
                    · exact z2
                    clear hK K
                    try simp only [Act.put, List.setIfInBounds_toArray, List.set_cons_zero, List.set_cons_succ]
                    refine wpAnyH_ready (rs := [11]) (by kernel_rfl) (by simp) ?_
                    refine AllReadyH.cons (o := { dst := some 104, op := Go.Op.call { callee := Go.Callee.value (Go.Operand.func 24), args := #[Go.Operand.tmp 103], argTypes := #[32] }, type := 54, pos := "law.go:82", after := #[{ on := 10, ground := Go.Ground.data }, { on := 9, ground := Go.Ground.chain }, { on := 7, ground := Go.Ground.guard }], guard := some (7, false) }) rfl (fun K hK => ?_) ?_
                    · go_simp
                      refine (dj_frames rfl HNL.out HKK.out _ H5.out.g).mono ?_
                      rintro e y3 ⟨a3, c3, rfl, hr, hb⟩
                      have H6 := Lib.hid (H5.out.next hb)
                      have HR6 := Lib.hid hr
                      have HS6 := Lib.hid (HR5.out.below hb)
                      have z3 := H6.out.g.fd.c0
                      clear hr hb H5 HR5
                      go_wp2_with fail
                      refine hK.out _ _ ?_ (fun hH => ?_)
                      · exact z3
                      clear hK K
                      try simp only [Act.put, List.setIfInBounds_toArray, List.set_cons_zero, List.set_cons_succ]
                      refine wpAnyH_ready (rs := [12]) (by kernel_rfl) (by simp) ?_
                      refine AllReadyH.cons (o := { dst := some 105, op := Go.Op.call { callee := Go.Callee.value (Go.Operand.func 22), args := #[Go.Operand.tmp 102, Go.Operand.tmp 104], argTypes := #[54, 54] }, type := 4, pos := "law.go:82", after := #[{ on := 9, ground := Go.Ground.data }, { on := 11, ground := Go.Ground.data }, { on := 11, ground := Go.Ground.chain }, { on := 7, ground := Go.Ground.guard }], guard := some (7, false) }) rfl (fun K hK => ?_) ?_
                      · go_simp
                        refine (Go.Proofs.YtjmkdgjdemndaaaDoor.K.samef_yes _ _ _ _ _ E.frames HNB.out _ (HS6.out.isF HNL.out.symm).1 (HR6.out.isF HNL.out.symm).1).mono ?_
                        rintro e y4 ⟨rfl, e1, e2, e3, e4⟩
                        have H7 := Lib.hid (H6.out.next (Go.Proofs.YtjmkdgjdemndaaaDoor.K.below_asit e1 e2 e3 e4))
                        have z4 := H7.out.g.fd.c0
                        clear e1 e2 e3 e4 H6 HR6 HS6
                        go_wp2_with fail
                        refine hK.out _ _ ?_ (fun hH => ?_)
                        · exact z4
                        clear hK K
                        try simp only [Act.put, List.setIfInBounds_toArray, List.set_cons_zero, List.set_cons_succ]
                        refine wpAnyH_take (i := 13) (oi := { dst := some 106, op := Go.Op.unOp Go.UnOp.not 4 (Go.Operand.tmp 105), type := 4, pos := "law.go:82", after := #[{ on := 12, ground := Go.Ground.data }, { on := 7, ground := Go.Ground.guard }], guard := some (7, false) }) (v := ?_) rfl (by kernel_rfl) (by kernel_rfl) (by kernel_rfl) (fun _ _ _ h => h) (Or.inl ⟨by rfl, ?_⟩) (by assumption) ?_
                        rotate_left
                        · intro w hSw
                          try dsimp only at hSw
                          obtain q0 := hSw
                          go_simp
                          all_goals with_reducible rfl
                        try simp only [Act.put, List.setIfInBounds_toArray, List.set_cons_zero, List.set_cons_succ]
                        refine wpAnyH_take (i := 14) (oi := { dst := some 107, op := Go.Op.pick (Go.Operand.tmp 100) (Go.Operand.const (Go.Value.bool true)) (Go.Operand.tmp 106), type := 4, pos := "law.go:82", after := #[{ on := 7, ground := Go.Ground.data }, { on := 13, ground := Go.Ground.data }], guard := none }) (v := ?_) rfl (by kernel_rfl) (by kernel_rfl) (by kernel_rfl) (fun _ _ _ h => h) (Or.inl ⟨by rfl, ?_⟩) (by assumption) ?_
                        rotate_left
                        · intro w hSw
                          try dsimp only at hSw
                          obtain q0 := hSw
                          go_simp
                          all_goals with_reducible rfl
                        try simp only [Act.put, List.setIfInBounds_toArray, List.set_cons_zero, List.set_cons_succ]
                        refine wpAnyH_done (by kernel_rfl) ?_ _
                        clear z0 z2 z3 z4
                        go_wp2
                        go_roundw
                        case rel => exact ⟨i + 1, by omega, by go_num, _, _, _, _, _, _, _, _, _, H7.out, HL1.out, HPL.out, HK1.out, HQ1.out⟩
                        case measure => simp [intOf]; omega
                      exact AllReadyH.nil
                    exact AllReadyH.nil
                  exact AllReadyH.nil
                exact AllReadyH.nil
              · obtain rfl : i = len := by omega
                have H := Lib.hid h
                clear h
                go_wp2
                go_ret
                exact ⟨rfl, H.out.f.bel⟩
      exact AllReadyH.nil
    exact AllReadyH.nil
  exact AllReadyH.nil
end Go.Proofs.YtjmkdgjdemndaaaDoor
