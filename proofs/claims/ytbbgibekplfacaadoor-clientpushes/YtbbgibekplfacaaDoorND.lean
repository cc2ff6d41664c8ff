/- made; a call on both (do). -/
import Derived.Test.YtbbgibekplfacaaDoorRH
import Derived.Test.YtbbgibekplfacaaDoorNC
namespace Go.Proofs.YtbbgibekplfacaaDoor
open Go Go.RowKit
set_option maxRecDepth 20000
/-- A client as it is made. -/
def Cs.new (x0 x1 x2 x3 : Int) : Cs := ⟨x0, x1, mostOf x2, lastOf x3, [], 0, [], []⟩
theorem new_ok (x0 x1 x2 x3 : Int) : (Cs.new x0 x1 x2 x3).Ok 0 := ⟨Nat.le_refl _, Nat.le_refl _, Nat.le_refl _, fun us h => (by cases h), fun r h => (by cases h), Sl.nil, Nat.zero_le _⟩
/-- A kit in a block of its own. -/
def Kb (w : World) (g cb db : Nat) : Prop := w.heap[g]? = some (.cells #[.pointer (some ⟨cb, 0, none⟩), .pointer (some ⟨db, 0, none⟩)] 27 (0, 0))
section
variable {w w' : World} {g cb db : Nat}
theorem Kb.c0 (h : Kb w g cb db) : w.cell? ⟨g, 0, none⟩ = some (.pointer (some ⟨cb, 0, none⟩)) := cell_at h 0 _ rfl
theorem Kb.c1 (h : Kb w g cb db) : w.cell? ⟨g, 1, none⟩ = some (.pointer (some ⟨db, 0, none⟩)) := cell_at h 1 _ rfl
theorem Kb.lt (h : Kb w g cb db) : g < w.heap.size := (Array.getElem?_eq_some_iff.1 h).1
theorem Kb.same (h : Kb w g cb db) (e : w'.heap[g]? = w.heap[g]?) : Kb w' g cb db := e.trans h
theorem Kb.next (h : Kb w g cb db) (hb : Below w.heap.size w w') : Kb w' g cb db := h.same (hb.block g h.lt)
end
theorem made_fin {w w1 w2 w3 w4 : World} {cb db jb jb2 : Nat} {D : Nat → Prop} {x0 x1 x2 x3 : Int} (hb1 : Below w.heap.size w w1) (h1 : Pk w.heap.size w2 cb (Pf cb (.slice none 0 0) (fun _ => False) (Jf jb (.slice none 0 0) fun _ => False) (.slice none 0 0)) (Cs.new x0 x1 x2 x3)) (hb2 : Below w1.heap.size w1 w2) (hb3 : Below w2.heap.size w2 w3) (hj : w2.heap.size ≤ jb2) (hb4 : Below w3.heap.size w3 w4) (h4 : Dk w.heap.size w4 db D (Cs.new x0 x1 x2 x3)) (hd : ∀ x, D x → x < w.heap.size ∨ Jf jb2 (.slice none 0 0) (fun _ => False) x ∨ w3.heap.size ≤ x) (e1 : w.heap.size + 2 ≤ jb) (e2 : w.heap.size + 2 ≤ w1.heap.size) (e3 : w1.heap.size ≤ cb) : ∃ P D, Kq w w4 cb db P D 0 (Cs.new x0 x1 x2 x3) ∧ ∀ x, P x ∨ D x → x < w.heap.size ∨ w.heap.size + 2 ≤ x := by
  have hs1 := hb2.size
  have hs2 := hb3.size
  refine ⟨_, D, ⟨Below.next (Below.next (Below.next hb1 hb2) hb3) hb4, (h1.next hb3).next hb4, h4, fun x hx hy => ?_, new_ok _ _ _ _⟩, fun x hx => ?_⟩
  have hf := h1.foot x hx
  have hs := hb3.size
  rcases hd x hy with hz | hz | hz
  · omega
  · rcases hz with hz | hz | hz
    · omega
    · cases hz
    · exact hz.elim
  · omega
  · rcases hx with hx | hx
    · rcases hx with hx | hx | hx
      · rcases hx with hx | hx | hx
        · omega
        · cases hx
        · exact hx.elim
      · rcases hx with hx | hx | hx
        · omega
        · cases hx
        · exact hx.elim
      · cases hx
    · rcases hd x hx with hz | hz | hz
      · omega
      · rcases hz with hz | hz | hz
        · omega
        · cases hz
        · exact hz.elim
      · omega
set_option maxHeartbeats 4000000 in
theorem made_any (x0 x1 x2 x3 : Int) (w : World) :
    Calls Tryd.prog 9 #[.agg #[.int .i64 x0, .int .i64 x1, .int .i64 x2, .int .i64 x3]] w fun e w' => ∃ cb db, e = .returned (.agg #[.pointer (some ⟨cb, 0, none⟩), .pointer (some ⟨db, 0, none⟩)]) ∧ ∃ P D, Kq w w' cb db P D 0 (Cs.new x0 x1 x2 x3) := by
  have hA := Joins.below_alloc2 w (.cells #[.int .i64 x0, .int .i64 x1, .int .i64 x2, .int .i64 x3] 22) (.cells #[.pointer none, .pointer none] 27)
  have hA0 := Joins.below_alloc1 w (.cells #[.int .i64 x0, .int .i64 x1, .int .i64 x2, .int .i64 x3] 22)
  have HX : Hid (∀ W, Below (w.alloc (.cells #[.int .i64 x0, .int .i64 x1, .int .i64 x2, .int .i64 x3] 22)).heap.size (w.alloc (.cells #[.int .i64 x0, .int .i64 x1, .int .i64 x2, .int .i64 x3] 22)) W → W.cell? ⟨w.heap.size, 0, none⟩ = some (.int .i64 x0) ∧ W.cell? ⟨w.heap.size, 1, none⟩ = some (.int .i64 x1) ∧ W.cell? ⟨w.heap.size, 2, none⟩ = some (.int .i64 x2) ∧ W.cell? ⟨w.heap.size, 3, none⟩ = some (.int .i64 x3)) := Lib.hid fun W hW => by
    have h : W.heap[w.heap.size]? = some (.cells #[.int .i64 x0, .int .i64 x1, .int .i64 x2, .int .i64 x3] 22 (0, 0)) := (hW.block _ (by simp)).trans (heap_alloc_new w _)
    exact ⟨cell_at h 0 _ rfl, cell_at h 1 _ rfl, cell_at h 2 _ rfl, cell_at h 3 _ rfl⟩
  have HZ : Hid (∀ W, Below ((w.alloc (.cells #[.int .i64 x0, .int .i64 x1, .int .i64 x2, .int .i64 x3] 22)).alloc (.cells #[.pointer none, .pointer none] 27)).heap.size ((w.alloc (.cells #[.int .i64 x0, .int .i64 x1, .int .i64 x2, .int .i64 x3] 22)).alloc (.cells #[.pointer none, .pointer none] 27)) W → W.cell? ⟨w.heap.size + 1, 0, none⟩ = some (.pointer none) ∧ W.cell? ⟨w.heap.size + 1, 1, none⟩ = some (.pointer none) ∧ W.frozen? ⟨w.heap.size + 1, 0, none⟩ = false ∧ W.frozen? ⟨w.heap.size + 1, 1, none⟩ = false ∧ W.heap[w.heap.size + 1]? = some (.cells #[.pointer none, .pointer none] 27 (0, 0))) := Lib.hid fun W hW => by
    have h : W.heap[w.heap.size + 1]? = some (.cells #[.pointer none, .pointer none] 27 (0, 0)) := (hW.block _ (by simp)).trans (by have := heap_alloc_new (w.alloc (.cells #[.int .i64 x0, .int .i64 x1, .int .i64 x2, .int .i64 x3] 22)) (.cells #[.pointer none, .pointer none] 27); rw [show (w.alloc (.cells #[.int .i64 x0, .int .i64 x1, .int .i64 x2, .int .i64 x3] 22)).heap.size = w.heap.size + 1 by simp] at this; exact this)
    exact ⟨cell_at h 0 _ rfl, cell_at h 1 _ rfl, by simp [World.frozen?, h], by simp [World.frozen?, h], h⟩
  obtain ⟨a0, a1, a2, a3⟩ := HX.out _ (Joins.below_alloc1 (w.alloc (.cells #[.int .i64 x0, .int .i64 x1, .int .i64 x2, .int .i64 x3] 22)) (.cells #[.pointer none, .pointer none] 27))
  have HA := Lib.hid hA
  have HA1 := Lib.hid (Joins.below_alloc1 (w.alloc (.cells #[.int .i64 x0, .int .i64 x1, .int .i64 x2, .int .i64 x3] 22)) (.cells #[.pointer none, .pointer none] 27))
  clear hA hA0
  go_enter Tryd.func9, Tryd.ntmps9
  go_wp2_with fail
  refine (jnew_any x0 x3 w.heap.size _ HA.out.size).mono ?_
  rintro e w1 ⟨rfl, hj, hb⟩
  have HB1 := Lib.hid (Below.next HA.out hb)
  have HZ1 := Lib.hid hb
  obtain ⟨c0, c1, c2, c3⟩ := HX.out _ (Below.next HA1.out hb)
  have HX1 := Lib.hid (Below.next HA1.out hb)
  have HJ := Lib.hid hj
  generalize hjb : ((w.alloc (.cells #[.int .i64 x0, .int .i64 x1, .int .i64 x2, .int .i64 x3] 22)).alloc (.cells #[.pointer none, .pointer none] 27)).heap.size = jb at HJ ⊢
  have HJB := Lib.hid hjb
  clear hjb
  clear hj hb a0 a1 a2 a3
  go_wp2_with fail
  refine wp_region_held_drew (S := fun w' => w'.cell? ⟨w.heap.size, 0, none⟩ = some (.int .i64 x0) ∧ w'.cell? ⟨w.heap.size, 1, none⟩ = some (.int .i64 x1) ∧ w'.cell? ⟨w.heap.size, 2, none⟩ = some (.int .i64 x2) ∧ w'.cell? ⟨w.heap.size, 3, none⟩ = some (.int .i64 x3)) (by kernel_rfl) ?_ (fun hH => ?_)
  · exact ⟨c0, c1, c2, c3⟩
  refine tkH 0 ?_ ?_ ?_
  rotate_left
  · intro w h; try dsimp only at h
    obtain ⟨q0, q1, q2, q3⟩ := h; go_simp; all_goals with_reducible rfl
  try simp only [pt]
  refine tkH 1 ?_ ?_ ?_
  rotate_left
  · intro w h; try dsimp only at h
    obtain ⟨q0, q1, q2, q3⟩ := h; go_simp; all_goals with_reducible rfl
  try simp only [pt]
  refine tkH 2 ?_ ?_ ?_
  rotate_left
  · intro w h; try dsimp only at h
    obtain ⟨q0, q1, q2, q3⟩ := h; go_simp; all_goals with_reducible rfl
  try simp only [pt]
  refine tkH 3 ?_ ?_ ?_
  rotate_left
  · intro w h; try dsimp only at h
    obtain ⟨q0, q1, q2, q3⟩ := h; go_simp; all_goals with_reducible rfl
  try simp only [pt]
  refine tkH 4 ?_ ?_ ?_
  rotate_left
  · intro w h; try dsimp only at h
    obtain ⟨q0, q1, q2, q3⟩ := h; go_simp; all_goals with_reducible rfl
  try simp only [pt]
  refine tkH 5 ?_ ?_ ?_
  rotate_left
  · intro w h; try dsimp only at h
    obtain ⟨q0, q1, q2, q3⟩ := h; go_simp; all_goals with_reducible rfl
  try simp only [pt]
  refine tkH 6 ?_ ?_ ?_
  rotate_left
  · intro w h; try dsimp only at h
    obtain ⟨q0, q1, q2, q3⟩ := h; go_simp; all_goals with_reducible rfl
  try simp only [pt]
  refine tkH 8 ?_ ?_ ?_
  rotate_left
  · intro w h; try dsimp only at h
    obtain ⟨q0, q1, q2, q3⟩ := h; go_simp; all_goals with_reducible rfl
  try simp only [pt]
  refine tkH 9 ?_ ?_ ?_
  rotate_left
  · intro w h; try dsimp only at h
    obtain ⟨q0, q1, q2, q3⟩ := h; go_simp; all_goals with_reducible rfl
  try simp only [pt]
  refine tkH 10 ?_ ?_ ?_
  rotate_left
  · intro w h; try dsimp only at h
    obtain ⟨q0, q1, q2, q3⟩ := h; go_simp; all_goals with_reducible rfl
  try simp only [pt]
  refine tkH 11 ?_ ?_ ?_
  rotate_left
  · intro w h; try dsimp only at h
    obtain ⟨q0, q1, q2, q3⟩ := h; go_simp; all_goals with_reducible rfl
  try simp only [pt]
  refine tkH 13 ?_ ?_ ?_
  rotate_left
  · intro w h; try dsimp only at h
    obtain ⟨q0, q1, q2, q3⟩ := h; go_simp; all_goals with_reducible rfl
  try simp only [pt]
  refine tkH 14 ?_ ?_ ?_
  rotate_left
  · intro w h; try dsimp only at h
    obtain ⟨q0, q1, q2, q3⟩ := h; go_simp; all_goals with_reducible rfl
  try simp only [pt]
  refine tkH 15 ?_ ?_ ?_
  rotate_left
  · intro w h; try dsimp only at h
    obtain ⟨q0, q1, q2, q3⟩ := h; go_simp; all_goals with_reducible rfl
  try simp only [pt]
  refine tkH 16 ?_ ?_ ?_
  rotate_left
  · intro w h; try dsimp only at h
    obtain ⟨q0, q1, q2, q3⟩ := h; go_simp; all_goals with_reducible rfl
  try simp only [pt]
  refine tkH 17 ?_ ?_ ?_
  rotate_left
  · intro w h; try dsimp only at h
    obtain ⟨q0, q1, q2, q3⟩ := h; go_simp; all_goals with_reducible rfl
  try simp only [pt]
  refine tkH 18 ?_ ?_ ?_
  rotate_left
  · intro w h; try dsimp only at h
    obtain ⟨q0, q1, q2, q3⟩ := h; go_simp; all_goals with_reducible rfl
  try simp only [pt]
  refine wpAnyH_ready (rs := [7]) (by kernel_rfl) (by simp) ?_
  refine rdH (fun K hK => ?_) ?_
  · go_simp
    refine (cnew_any x0 x1 x2 (lastOf x3) [] w.heap.size jb _ w1.drew HB1.out.size (HJ.out.asit rfl)).mono ?_
    rintro e w2 ⟨rfl, hb', hp⟩
    have hb : Below w1.heap.size w1 w2 := ⟨hb'.os, hb'.tape, hb'.output, hb'.size, hb'.block⟩
    have m2 := HX.out _ (Below.next HX1.out hb)
    have HB2 := Lib.hid hb
    have HP := Lib.hid hp
    clear hb hb' hp
    go_wp2_with fail
    refine hK.out _ _ ?_ (fun hH => ?_)
    · exact m2
    clear hK K
    try simp only [pt]
    refine wpAnyH_ready (rs := [12]) (by kernel_rfl) (by simp) ?_
    refine rdH (fun K hK => ?_) ?_
    · go_simp
      refine (dnew_any x0 x3 w.heap.size w2 (Nat.le_trans HB1.out.size HB2.out.size)).mono ?_
      rintro e w3 ⟨rfl, hj, hb⟩
      have m3 := HX.out _ (Below.next (Below.next HX1.out HB2.out) hb)
      have HB3 := Lib.hid hb
      have HJ2 := Lib.hid hj
      clear hb hj
      go_wp2_with fail
      refine hK.out _ _ ?_ (fun hH => ?_)
      · exact m3
      clear hK K
      try simp only [pt]
      refine wpAnyH_ready (rs := [19]) (by kernel_rfl) (by simp) ?_
      refine rdH (fun K hK => ?_) ?_
      · go_simp
        refine (ecnew_any x0 x1 x2 (lastOf x3) [] (by simp) w.heap.size w2.heap.size _ w3 (Nat.le_trans (Nat.le_trans HB1.out.size HB2.out.size) HB3.out.size) HJ2.out).mono ?_
        rintro e w4 ⟨db, D, rfl, _, hb, hd, hdx⟩
        have m4 := HX.out _ (Below.next (Below.next (Below.next HX1.out HB2.out) HB3.out) hb)
        have hz4 := Below.next (Below.next (Below.next HZ1.out HB2.out) HB3.out) hb
        obtain ⟨z0, z1, z2, z3, hz5⟩ := HZ.out _ hz4
        have HKB : Hid (Kb ((w4.setCell ⟨w.heap.size + 1, 0, none⟩ (.pointer (some ⟨w1.heap.size, 0, none⟩))).setCell ⟨w.heap.size + 1, 1, none⟩ (.pointer (some ⟨db, 0, none⟩))) (w.heap.size + 1) w1.heap.size db) := Lib.hid (by unfold Kb; simp [World.setCell, Array.getElem?_modify, hz5])
        have HFIN := Lib.hid (made_fin HB1.out HP.out HB2.out HB3.out (Nat.le_refl _) hb hd hdx (by rw [← HJB.out]; simp) (by have := HZ1.out.size; simp at this; omega) (Nat.le_refl _))
        have hb5 : Below (w.alloc (.cells #[.int .i64 x0, .int .i64 x1, .int .i64 x2, .int .i64 x3] 22)).heap.size (w.alloc (.cells #[.int .i64 x0, .int .i64 x1, .int .i64 x2, .int .i64 x3] 22)) ((w4.setCell ⟨w.heap.size + 1, 0, none⟩ (.pointer (some ⟨w1.heap.size, 0, none⟩))).setCell ⟨w.heap.size + 1, 1, none⟩ (.pointer (some ⟨db, 0, none⟩))) := ((Below.next (Below.next (Below.next HX1.out HB2.out) HB3.out) hb).setCell (show (w.alloc (.cells #[.int .i64 x0, .int .i64 x1, .int .i64 x2, .int .i64 x3] 22)).heap.size ≤ w.heap.size + 1 by simp) _).setCell (show (w.alloc (.cells #[.int .i64 x0, .int .i64 x1, .int .i64 x2, .int .i64 x3] 22)).heap.size ≤ w.heap.size + 1 by simp) _
        have m5 := HX.out _ hb5
        clear hb hd hdx hz4 hz5 hb5
        go_wp2_with fail
        refine hK.out _ _ ?_ (fun hH => ?_)
        · exact m4
        clear hK K
        try simp only [pt]
        refine tkH 20 ?_ ?_ ?_
        rotate_left
        · intro w h; try dsimp only at h
          obtain ⟨q0, q1, q2, q3⟩ := h; go_simp; all_goals with_reducible rfl
        try simp only [pt]
        refine wpAnyH_ready (rs := [21]) (by kernel_rfl) (by simp) ?_
        refine rdH (fun K hK => ?_) ?_
        · go_simp
          refine hK.out _ _ ?_ (fun hH => ?_)
          · exact m5
          clear hK K
          try simp only [pt]
          refine wpAnyH_done (by kernel_rfl) ?_ _
          have h9 : Kb ((w4.setCell ⟨w.heap.size + 1, 0, none⟩ (.pointer (some ⟨w1.heap.size, 0, none⟩))).setCell ⟨w.heap.size + 1, 1, none⟩ (.pointer (some ⟨db, 0, none⟩))) (w.heap.size + 1) w1.heap.size db := HKB.out
          have k0 := h9.c0
          have k1 := h9.c1
          clear m2 m3 m4 m5 c0 c1 c2 c3 z0 z1 z2 z3 h9
          go_wp2
          refine bodyPost_ret (v := .agg #[.pointer (some ⟨w1.heap.size, 0, none⟩), .pointer (some ⟨db, 0, none⟩)]) (by simp [results, Tryd.results9, go_sem, k0, k1]) rfl ?_
          obtain ⟨P, D', hk, hoff⟩ := HFIN.out
          exact ⟨w1.heap.size, db, rfl, P, D', hk.own (G := fun x => x = w.heap.size + 1) ((Lv.set (F := fun x => x = w.heap.size + 1) rfl _ _).trans (Lv.set (F := fun x => x = w.heap.size + 1) rfl _ _)) fun x hx => by
            subst hx
            refine ⟨by omega, fun hp => ?_, fun hd => ?_⟩
            · have := hoff _ (.inl hp); omega
            · have := hoff _ (.inr hd); omega⟩
        exact AllReadyH.nil
      exact AllReadyH.nil
    exact AllReadyH.nil
  exact AllReadyH.nil
end Go.Proofs.YtbbgibekplfacaaDoor
