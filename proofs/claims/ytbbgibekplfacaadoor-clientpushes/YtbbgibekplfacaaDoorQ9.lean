/- The document's Add, when it makes a round. -/
import Derived.Test.YtbbgibekplfacaaDoorRH
import Derived.Test.YtbbgibekplfacaaDoorQ8
namespace Go.Proofs.YtbbgibekplfacaaDoor
open Go Go.RowKit
set_option maxRecDepth 20000
section
variable {B b : Nat} {F : Nat → Prop} {o last : Int} {uss : List (List Up)}
set_option maxHeartbeats 32000000 in
theorem dadd_ok (hl : ¬ last ≤ (uss.length : Int)) (hn : uss.length ≤ 1000) (a : Option Addr) (len cap : Nat) (us : List Up) (he : mayR o ((uss.length + 1 : Nat) : Int) us = 0) (hsm : Sm us) (w : World) (hu : IsUs w a len us) (hlc : len ≤ cap) (hna : a = none → cap = 0) (h : Jx 64 B w b F o last uss) :
    Calls Tryd.prog 57 #[.pointer (some ⟨b, 0, none⟩), .slice a len cap] w fun e w' => ∃ r F', e = .returned (.tuple #[rv r, .int .i64 0]) ∧ Jx 64 B w' b F' o last (uss ++ [us]) ∧ Lv w w' (fun k => k = b) ∧ (∀ k, F' k → F k ∨ w.heap.size ≤ k) ∧ (Ru w' r ∧ ∀ g off, r.a = some ⟨g, off, none⟩ → w.heap.size ≤ g) ∧ r.o = o ∧ r.n = ((uss.length + 1 : Nat) : Int) ∧ r.us = us := by
  obtain ⟨v, S, rs, hj, ho, hs, rfl⟩ := h
  obtain ⟨ax, c, rfl, _⟩ := hj.is
  rw [← ho.len] at hl hn he ⊢
  obtain ⟨N, hN⟩ : ∃ N : Int, ((rs.length + 1 : Nat) : Int) = N := ⟨_, rfl⟩
  rw [hN] at he ⊢
  have hwr : IntKind.i64.wrap ((rs.length : Int) + 1) = N := by
    rw [show (rs.length : Int) + 1 = N by omega]
    exact i64_id (by omega) (by omega)
  obtain rfl := hu.size
  have hul : us.length ≤ 1000 := hsm.1
  have hA := Joins.below_alloc1 w (.cells #[.int .i64 0, .int .i64 0, .slice none 0 0] 35)
  have hj2 := hj.next hA
  have c0 := hj2.c0
  have c1 := hj2.c1
  have c2 := hj2.c2
  have q1 : decide (last ≤ (rs.length : Int)) = false := decide_eq_false hl
  have HM := fun a' c' w hu => Lib.hid (docmay_any o N a' us.length c' us w hu)
  rw [he] at HM
  have HU := Lib.hid hu
  have HJ := Lib.hid hj
  have HO := Lib.hid ho
  have HS := Lib.hid hs
  have HSM := Lib.hid hsm
  have HN := Lib.hid hN
  have HR := Lib.hid (Rb.new w 0 0 none 0 0)
  have HA := Lib.hid hA
  have HSZ : Hid ((w.alloc (.cells #[.int .i64 0, .int .i64 0, .slice none 0 0] 35)).heap.size = w.heap.size + 1) := Lib.hid (by simp)
  have HK : Hid (∀ W, Below w.heap.size w W → W.cell? ⟨b, 0, none⟩ = some (.int .i64 o) ∧ W.cell? ⟨b, 2, none⟩ = some (.slice ax rs.length c)) := Lib.hid fun W hW => ⟨(HJ.out.next hW).c0, (HJ.out.next hW).c2⟩
  clear hj hj2 ho hs hl hN hu hA he hsm
  go_enter Tryd.func57, Tryd.ntmps57
  go_wp2_with fail
  go_quiet (fail)
  revert nq
  intro n1
  go_upto_region 3 with fail
  generalize hX : (w.alloc (.cells #[.int .i64 0, .int .i64 0, .slice none 0 0] 35)).drewN n1 = X at *
  have HX0 : Hid (Below w.heap.size w X.drew) := by
    have := belN HA.out (n1 + 1)
    refine Lib.hid ?_
    rw [← hX]
    exact this
  have HXR : Hid (Rb X.drew w.heap.size 0 0 none 0 0) := by
    have := HR.out.drewN (n1 + 1)
    refine Lib.hid ?_
    rw [← hX]
    exact this
  have HXS : Hid (X.drew.heap.size = w.heap.size + 1) := by
    refine Lib.hid ?_
    rw [← hX]
    exact HSZ.out
  have hc := HK.out _ HX0.out
  clear HA HR HSZ c0 c1 c2
  go_cut [6] from 19 to 32 (fun v6 wx => ∃ (rb : Nat) (a' : Option Addr) (c' : Nat), v6 = .pointer (some ⟨rb, 0, none⟩) ∧ Rb wx rb o N a' us.length c' ∧ RowU w.heap.size wx (.slice a' us.length c') us ∧ Rb wx w.heap.size 0 0 none 0 0 ∧ Below w.heap.size w wx ∧ w.heap.size < rb)
  case first =>
    refine wp_region_held_drew (S := fun w' => w'.cell? ⟨b, 0, none⟩ = some (.int .i64 o) ∧ w'.cell? ⟨b, 2, none⟩ = some (.slice ax rs.length c)) (by kernel_rfl) ?_ (fun hH => ?_)
    · exact hc
    have HB0 := HX0
    have HR0 := HXR
    refine tkH 0 ?_ ?_ ?_
    rotate_left
    · intro w h; try dsimp only at h
      obtain ⟨q0, q2⟩ := h; go_simp; all_goals with_reducible rfl
    try simp only [pt]
    refine tkH 1 ?_ ?_ ?_
    rotate_left
    · intro w h; try dsimp only at h
      obtain ⟨q0, q2⟩ := h; go_simp; all_goals with_reducible rfl
    try simp only [pt]
    refine tkH 2 ?_ ?_ ?_
    rotate_left
    · intro w h; try dsimp only at h
      obtain ⟨q0, q2⟩ := h; go_simp; all_goals with_reducible rfl
    try simp only [pt]
    refine tkH 3 ?_ ?_ ?_
    rotate_left
    · intro w h; try dsimp only at h
      obtain ⟨q0, q2⟩ := h; go_simp; all_goals with_reducible rfl
    try simp only [pt]
    refine tkH 4 ?_ ?_ ?_
    rotate_left
    · intro w h; try dsimp only at h
      obtain ⟨q0, q2⟩ := h; go_simp; all_goals with_reducible rfl
    try simp only [pt]
    refine tkH 5 ?_ ?_ ?_
    rotate_left
    · intro w h; try dsimp only at h
      obtain ⟨q0, q2⟩ := h; go_simp; all_goals with_reducible rfl
    try simp only [pt]
    refine tkH 6 ?_ ?_ ?_
    rotate_left
    · intro w h; try dsimp only at h
      obtain ⟨q0, q2⟩ := h; go_simp; all_goals with_reducible rfl
    try simp only [pt]
    refine tkH 7 ?_ ?_ ?_
    rotate_left
    · intro w h; try dsimp only at h
      obtain ⟨q0, q2⟩ := h; go_simp; all_goals with_reducible rfl
    try simp only [pt]
    refine tkH 8 ?_ ?_ ?_
    rotate_left
    · intro w h; try dsimp only at h
      obtain ⟨q0, q2⟩ := h; go_simp; all_goals with_reducible rfl
    try simp only [pt]
    refine tkH 9 ?_ ?_ ?_
    rotate_left
    · intro w h; try dsimp only at h
      obtain ⟨q0, q2⟩ := h; go_simp; all_goals with_reducible rfl
    try simp only [pt]
    refine tkH 11 ?_ ?_ ?_
    rotate_left
    · intro w h; try dsimp only at h
      obtain ⟨q0, q2⟩ := h; go_simp; all_goals with_reducible rfl
    try simp only [pt]
    refine wpAnyH_ready (rs := [10, 14]) (by kernel_rfl) (by simp) ?_
    refine rdH (fun K hK => ?_) ?_
    · go_simp
      have HB1 : Hid (Below w.heap.size w (X.drew.alloc (.cells #[] 32))) := Lib.hid (Below.step HB0.out (.cells #[] 32) (Below.refl _ _))
      have HR1 := Lib.hid (HR0.out.alloc (.cells #[] 32))
      have hk1 := HK.out _ HB1.out
      have HROW : Hid (RowU w.heap.size (X.drew.alloc (.cells #[] 32)) (.slice (some ⟨X.heap.size, 0, none⟩) 0 0) []) := Lib.hid ((rowU_new X.drew).lower (by rw [HXS.out]; omega))
      refine hK.out _ _ ?_ (fun hH => ?_)
      · exact hk1
      clear hK K
      try simp only [pt]
      refine wpAnyH_ready (rs := [12, 14]) (by kernel_rfl) (by simp) ?_
      refine rdH (fun K hK => ?_) ?_
      · obtain ⟨a', c', w4, hrun, HRU, HB2, HKP, HGE⟩ := d3_app 33 HU.out HB1.out HROW.out hlc hna hul
        have HR2 : Hid (Rb w4 w.heap.size 0 0 none 0 0) := Lib.hid (rb_kept HR1.out HKP.out (by have := HXS.out; simp at this ⊢; omega))
        have hk2 := HK.out _ HB2.out
        refine step_append_run (by rfl) (.tmp 29) (.tmp 30) 33 rfl _ _ _ rfl rfl hrun ?_
        refine hK.out _ _ ?_ (fun hH => ?_)
        · exact hk2
        clear hK K
        try simp only [pt]
        refine tkH 13 ?_ ?_ ?_
        rotate_left
        · intro w h; try dsimp only at h
          obtain ⟨q0, q2⟩ := h; go_simp; all_goals with_reducible rfl
        try simp only [pt]
        refine wpAnyH_ready (rs := [14]) (by kernel_rfl) (by simp) ?_
        refine rdH (fun K hK => ?_) ?_
        · go_simp
          have HBW : Hid (Below w.heap.size w (w4.alloc (.cells #[.int .i64 o, .int .i64 N, .slice a' us.length c'] 35))) := Lib.hid (Below.step HB2.out (.cells #[.int .i64 o, .int .i64 N, .slice a' us.length c'] 35) (Below.refl _ _))
          have HB3z : Hid (Below w.heap.size w (w4.alloc (.cells #[.int .i64 0, .int .i64 0, .slice none 0 0] 35))) := Lib.hid (Below.step HB2.out (.cells #[.int .i64 0, .int .i64 0, .slice none 0 0] 35) (Below.refl _ _))
          have HRW := Lib.hid (HR2.out.alloc (.cells #[.int .i64 o, .int .i64 N, .slice a' us.length c'] 35))
          have HRBW := Lib.hid (Rb.new w4 o N a' us.length c')
          have HRUW : Hid (RowU w.heap.size (w4.alloc (.cells #[.int .i64 o, .int .i64 N, .slice a' us.length c'] 35)) (.slice a' us.length c') us) := Lib.hid (HRU.out.alloc _)
          have hk3 := HK.out _ HBW.out
          have HLR : Hid (w.heap.size < w4.heap.size) := Lib.hid HR2.out.lt
          have hk3z := HK.out _ HB3z.out
          refine hK.out _ _ ?_ (fun hH => ?_)
          · exact hk3z
          clear hK K
          try simp only [pt]
          refine wpAnyH_ready (rs := [15]) (by kernel_rfl) (by simp) ?_
          refine rdH (fun K hK => ?_) ?_
          · go_simp
            refine hK.out _ _ ?_ (fun hH => ?_)
            · exact hk3
            clear hK K
            try simp only [pt]
            refine wpAnyH_done (by kernel_rfl) ?_ _
            go_wp2_with fail
            go_meet
            case rel => exact ⟨_, a', c', rfl, HRBW.out, HRUW.out, HRW.out, HBW.out, HLR.out⟩
          exact AllReadyH.nil
        exact AllReadyH.nil
      refine rdH (fun K hK => ?_) ?_
      · go_simp
        have HB2 : Hid (Below w.heap.size w ((X.drew.alloc (.cells #[] 32)).alloc (.cells #[.int .i64 0, .int .i64 0, .slice none 0 0] 35))) := Lib.hid (Below.step HB1.out (.cells #[.int .i64 0, .int .i64 0, .slice none 0 0] 35) (Below.refl _ _))
        have HR2 := Lib.hid (HR1.out.alloc (.cells #[.int .i64 0, .int .i64 0, .slice none 0 0] 35))
        have hk2 := HK.out _ HB2.out
        have HROW : Hid (RowU w.heap.size ((X.drew.alloc (.cells #[] 32)).alloc (.cells #[.int .i64 0, .int .i64 0, .slice none 0 0] 35)) (.slice (some ⟨X.heap.size, 0, none⟩) 0 0) []) := Lib.hid (HROW.out.alloc _)
        have HQ2 : Hid (Rb ((X.drew.alloc (.cells #[] 32)).alloc (.cells #[.int .i64 0, .int .i64 0, .slice none 0 0] 35)) (X.heap.size + 1) 0 0 none 0 0) := Lib.hid (by have := Rb.new (X.drew.alloc (.cells #[] 32)) 0 0 none 0 0; simpa using this)
        refine hK.out _ _ ?_ (fun hH => ?_)
        · exact hk2
        clear hK K
        try simp only [pt]
        refine wpAnyH_ready (rs := [12]) (by kernel_rfl) (by simp) ?_
        refine rdH (fun K hK => ?_) ?_
        · obtain ⟨a', c', w4, hrun, HRU, HB3, HKP, HGE⟩ := d3_app 33 HU.out HB2.out HROW.out hlc hna hul
          have HR3 : Hid (Rb w4 w.heap.size 0 0 none 0 0) := Lib.hid (rb_kept HR2.out HKP.out (by have := HXS.out; simp at this ⊢; omega))
          have hk3 := HK.out _ HB3.out
          have HQ4 : Hid (Rb w4 (X.heap.size + 1) 0 0 none 0 0) := Lib.hid (rb_kept HQ2.out HKP.out (by simp))
          refine step_append_run (by rfl) (.tmp 29) (.tmp 30) 33 rfl _ _ _ rfl rfl hrun ?_
          refine hK.out _ _ ?_ (fun hH => ?_)
          · exact hk3
          clear hK K
          try simp only [pt]
          refine tkH 13 ?_ ?_ ?_
          rotate_left
          · intro w h; try dsimp only at h
            obtain ⟨q0, q2⟩ := h; go_simp; all_goals with_reducible rfl
          try simp only [pt]
          refine wpAnyH_ready (rs := [15]) (by kernel_rfl) (by simp) ?_
          refine rdH (fun K hK => ?_) ?_
          · have e0 := HQ4.out.c0
            have e1 := HQ4.out.c1
            have e2 := HQ4.out.c2
            have g0 := HQ4.out.f0 0
            have g1 := HQ4.out.f0 1
            have g2 := HQ4.out.f0 2
            have HLR : Hid (w.heap.size < (X.heap.size + 1)) := Lib.hid (by have := HXS.out; simp at this ⊢; omega)
            have HBW : Hid (Below w.heap.size w (((w4.setCell ⟨(X.heap.size + 1), 0, none⟩ (.int .i64 o)).setCell ⟨(X.heap.size + 1), 1, none⟩ (.int .i64 N)).setCell ⟨(X.heap.size + 1), 2, none⟩ (.slice a' us.length c'))) := Lib.hid (below_set3 HB3.out (Nat.le_of_lt HLR.out) _ _ _)
            have HRBW : Hid (Rb (((w4.setCell ⟨(X.heap.size + 1), 0, none⟩ (.int .i64 o)).setCell ⟨(X.heap.size + 1), 1, none⟩ (.int .i64 N)).setCell ⟨(X.heap.size + 1), 2, none⟩ (.slice a' us.length c')) ((X.heap.size + 1)) o N a' us.length c') := Lib.hid (((HQ4.out.set0 o).set1 N).set2 a' us.length c')
            have hne : w.heap.size ≠ (X.heap.size + 1) := Nat.ne_of_lt HLR.out
            have HRW : Hid (Rb (((w4.setCell ⟨(X.heap.size + 1), 0, none⟩ (.int .i64 o)).setCell ⟨(X.heap.size + 1), 1, none⟩ (.int .i64 N)).setCell ⟨(X.heap.size + 1), 2, none⟩ (.slice a' us.length c')) w.heap.size 0 0 none 0 0) := Lib.hid (((HR3.out.setnew hne _ _).setnew hne _ _).setnew hne _ _)
            have HRUW : Hid (RowU w.heap.size (((w4.setCell ⟨(X.heap.size + 1), 0, none⟩ (.int .i64 o)).setCell ⟨(X.heap.size + 1), 1, none⟩ (.int .i64 N)).setCell ⟨(X.heap.size + 1), 2, none⟩ (.slice a' us.length c')) (.slice a' us.length c') us) := Lib.hid (HRU.out.set3 HQ4.out _ _ _)
            have hkw := HK.out _ HBW.out
            clear hne
            go_simp
            refine hK.out _ _ ?_ (fun hH => ?_)
            · exact hkw
            clear hK K
            try simp only [pt]
            refine wpAnyH_done (by kernel_rfl) ?_ _
            go_wp2_with fail
            go_meet
            case rel => exact ⟨_, a', c', rfl, HRBW.out, HRUW.out, HRW.out, HBW.out, HLR.out⟩
          exact AllReadyH.nil
        exact AllReadyH.nil
      exact AllReadyH.nil
    refine rdH (fun K hK => ?_) ?_
    · go_simp
      have HB1 : Hid (Below w.heap.size w (X.drew.alloc (.cells #[.int .i64 0, .int .i64 0, .slice none 0 0] 35))) := Lib.hid (Below.step HB0.out (.cells #[.int .i64 0, .int .i64 0, .slice none 0 0] 35) (Below.refl _ _))
      have HR1 := Lib.hid (HR0.out.alloc (.cells #[.int .i64 0, .int .i64 0, .slice none 0 0] 35))
      have hk1 := HK.out _ HB1.out
      have HQ1 : Hid (Rb (X.drew.alloc (.cells #[.int .i64 0, .int .i64 0, .slice none 0 0] 35)) X.heap.size 0 0 none 0 0) := Lib.hid (Rb.new X.drew 0 0 none 0 0)
      refine hK.out _ _ ?_ (fun hH => ?_)
      · exact hk1
      clear hK K
      try simp only [pt]
      refine wpAnyH_ready (rs := [10]) (by kernel_rfl) (by simp) ?_
      refine rdH (fun K hK => ?_) ?_
      · go_simp
        have HB2 : Hid (Below w.heap.size w ((X.drew.alloc (.cells #[.int .i64 0, .int .i64 0, .slice none 0 0] 35)).alloc (.cells #[] 32))) := Lib.hid (Below.step HB1.out (.cells #[] 32) (Below.refl _ _))
        have HR2 := Lib.hid (HR1.out.alloc (.cells #[] 32))
        have hk2 := HK.out _ HB2.out
        have HROW : Hid (RowU w.heap.size ((X.drew.alloc (.cells #[.int .i64 0, .int .i64 0, .slice none 0 0] 35)).alloc (.cells #[] 32)) (.slice (some ⟨X.heap.size + 1, 0, none⟩) 0 0) []) := Lib.hid (by
          have := (rowU_new (X.drew.alloc (.cells #[.int .i64 0, .int .i64 0, .slice none 0 0] 35))).lower (show w.heap.size ≤ (X.drew.alloc (.cells #[.int .i64 0, .int .i64 0, .slice none 0 0] 35)).heap.size by have := HXS.out; simp at this ⊢; omega)
          rw [show (X.drew.alloc (.cells #[.int .i64 0, .int .i64 0, .slice none 0 0] 35)).heap.size = X.heap.size + 1 by simp] at this
          exact this)
        have HQ2 := Lib.hid (HQ1.out.alloc (.cells #[] 32))
        refine hK.out _ _ ?_ (fun hH => ?_)
        · exact hk2
        clear hK K
        try simp only [pt]
        refine wpAnyH_ready (rs := [12]) (by kernel_rfl) (by simp) ?_
        refine rdH (fun K hK => ?_) ?_
        · obtain ⟨a', c', w4, hrun, HRU, HB3, HKP, HGE⟩ := d3_app 33 HU.out HB2.out HROW.out hlc hna hul
          have HR3 : Hid (Rb w4 w.heap.size 0 0 none 0 0) := Lib.hid (rb_kept HR2.out HKP.out (by have := HXS.out; simp at this ⊢; omega))
          have hk3 := HK.out _ HB3.out
          have HQ4 : Hid (Rb w4 (X.heap.size) 0 0 none 0 0) := Lib.hid (rb_kept HQ2.out HKP.out (by simp))
          refine step_append_run (by rfl) (.tmp 29) (.tmp 30) 33 rfl _ _ _ rfl rfl hrun ?_
          refine hK.out _ _ ?_ (fun hH => ?_)
          · exact hk3
          clear hK K
          try simp only [pt]
          refine tkH 13 ?_ ?_ ?_
          rotate_left
          · intro w h; try dsimp only at h
            obtain ⟨q0, q2⟩ := h; go_simp; all_goals with_reducible rfl
          try simp only [pt]
          refine wpAnyH_ready (rs := [15]) (by kernel_rfl) (by simp) ?_
          refine rdH (fun K hK => ?_) ?_
          · have e0 := HQ4.out.c0
            have e1 := HQ4.out.c1
            have e2 := HQ4.out.c2
            have g0 := HQ4.out.f0 0
            have g1 := HQ4.out.f0 1
            have g2 := HQ4.out.f0 2
            have HLR : Hid (w.heap.size < X.heap.size) := Lib.hid (by have := HXS.out; simp at this ⊢; omega)
            have HBW : Hid (Below w.heap.size w (((w4.setCell ⟨X.heap.size, 0, none⟩ (.int .i64 o)).setCell ⟨X.heap.size, 1, none⟩ (.int .i64 N)).setCell ⟨X.heap.size, 2, none⟩ (.slice a' us.length c'))) := Lib.hid (below_set3 HB3.out (Nat.le_of_lt HLR.out) _ _ _)
            have HRBW : Hid (Rb (((w4.setCell ⟨X.heap.size, 0, none⟩ (.int .i64 o)).setCell ⟨X.heap.size, 1, none⟩ (.int .i64 N)).setCell ⟨X.heap.size, 2, none⟩ (.slice a' us.length c')) (X.heap.size) o N a' us.length c') := Lib.hid (((HQ4.out.set0 o).set1 N).set2 a' us.length c')
            have hne : w.heap.size ≠ X.heap.size := Nat.ne_of_lt HLR.out
            have HRW : Hid (Rb (((w4.setCell ⟨X.heap.size, 0, none⟩ (.int .i64 o)).setCell ⟨X.heap.size, 1, none⟩ (.int .i64 N)).setCell ⟨X.heap.size, 2, none⟩ (.slice a' us.length c')) w.heap.size 0 0 none 0 0) := Lib.hid (((HR3.out.setnew hne _ _).setnew hne _ _).setnew hne _ _)
            have HRUW : Hid (RowU w.heap.size (((w4.setCell ⟨X.heap.size, 0, none⟩ (.int .i64 o)).setCell ⟨X.heap.size, 1, none⟩ (.int .i64 N)).setCell ⟨X.heap.size, 2, none⟩ (.slice a' us.length c')) (.slice a' us.length c') us) := Lib.hid (HRU.out.set3 HQ4.out _ _ _)
            have hkw := HK.out _ HBW.out
            clear hne
            go_simp
            refine hK.out _ _ ?_ (fun hH => ?_)
            · exact hkw
            clear hK K
            try simp only [pt]
            refine wpAnyH_done (by kernel_rfl) ?_ _
            go_wp2_with fail
            go_meet
            case rel => exact ⟨_, a', c', rfl, HRBW.out, HRUW.out, HRW.out, HBW.out, HLR.out⟩
          exact AllReadyH.nil
        exact AllReadyH.nil
      exact AllReadyH.nil
    exact AllReadyH.nil
  case rest =>
    obtain ⟨rb, a', c', rfl, hrb, hru, hr, hb, hlt⟩ := hcut
    have HRBW := Lib.hid hrb
    have HRUW := Lib.hid hru
    have HRW := Lib.hid hr
    have HBW := Lib.hid hb
    have HLR := Lib.hid hlt
    clear hrb hru hr hb hlt hc hX
    have d0 := HRBW.out.c0
    have d1 := HRBW.out.c1
    have d2 := HRBW.out.c2
    have HRB0 : Hid (w.heap.size ≠ b) := Lib.hid (by have := HJ.out.lt; omega)
    have HRBb : Hid (rb ≠ b) := Lib.hid (by have := HJ.out.lt; have := HLR.out; omega)
    clear HK
    go_wp2_with fail
    refine (HM _ _ _ (HRUW.out.isU rfl).1).out.mono ?_
    rintro e w2 ⟨rfl, hb⟩
    have HA2 := Lib.hid (Below.next HBW.out hb)
    have HR2 := Lib.hid (HRW.out.next hb)
    have HRB2 := Lib.hid (HRBW.out.next hb)
    have HRU2 := Lib.hid (HRUW.out.below hb)
    have HLT := Lib.hid HR2.out.lt
    have HJ2 := Lib.hid (HJ.out.next HA2.out)
    have HK7 : Hid (∀ W, Below w2.heap.size w2 W → (W.cell? ⟨rb, 0, none⟩ = some (.int .i64 o) ∧ W.cell? ⟨rb, 1, none⟩ = some (.int .i64 N) ∧ W.cell? ⟨rb, 2, none⟩ = some (.slice a' us.length c')) ∧ W.cell? ⟨b, 2, none⟩ = some (.slice ax rs.length c)) := Lib.hid fun W hW => ⟨⟨(HRB2.out.next hW).c0, (HRB2.out.next hW).c1, (HRB2.out.next hW).c2⟩, (HJ2.out.next hW).c2⟩
    have HB0 : Hid (Below w2.heap.size w2 w2.drew) := Lib.hid (Below.refl w2.heap.size w2).drew
    obtain ⟨hk0, ck0⟩ := HK7.out _ HB0.out
    clear hb d0 d1 d2 HBW HRW HRBW HRUW
    go_wp2_with fail
    refine wp_region_held_drew (S := fun w' => w'.cell? ⟨rb, 0, none⟩ = some (.int .i64 o) ∧ w'.cell? ⟨rb, 1, none⟩ = some (.int .i64 N) ∧ w'.cell? ⟨rb, 2, none⟩ = some (.slice a' us.length c')) (by kernel_rfl) ?_ (fun hH => ?_)
    · exact hk0
    refine tkH 0 ?_ ?_ ?_
    rotate_left
    · intro w h; try dsimp only at h
      obtain ⟨q0, q1, q2⟩ := h; go_simp; all_goals with_reducible rfl
    try simp only [pt]
    refine tkH 2 ?_ ?_ ?_
    rotate_left
    · intro w h; try dsimp only at h
      obtain ⟨q0, q1, q2⟩ := h; go_simp; all_goals with_reducible rfl
    try simp only [pt]
    refine tkH 3 ?_ ?_ ?_
    rotate_left
    · intro w h; try dsimp only at h
      obtain ⟨q0, q1, q2⟩ := h; go_simp; all_goals with_reducible rfl
    try simp only [pt]
    refine tkH 4 ?_ ?_ ?_
    rotate_left
    · intro w h; try dsimp only at h
      obtain ⟨q0, q1, q2⟩ := h; go_simp; all_goals with_reducible rfl
    try simp only [pt]
    refine tkH 7 ?_ ?_ ?_
    rotate_left
    · intro w h; try dsimp only at h
      obtain ⟨q0, q1, q2⟩ := h; go_simp; all_goals with_reducible rfl
    try simp only [pt]
    refine wpAnyH_ready (rs := [1, 5, 8]) (by kernel_rfl) (by simp) ?_
    refine rdH (fun K hK => ?_) ?_
    · go_simp
      have HB1 : Hid (Below w2.heap.size w2 (w2.drew.alloc (.cells #[] 35))) := Lib.hid (Below.step HB0.out (.cells #[] 35) (Below.refl _ _))
      obtain ⟨hk1, ck1'⟩ := HK7.out _ HB1.out
      have ck1 : (w2.alloc (.cells #[] 35)).cell? ⟨b, 2, none⟩ = some (.slice ax rs.length c) := ck1'
      clear ck1'
      have HROW : Hid (RowR w2.heap.size (w2.drew.alloc (.cells #[] 35)) (.slice (some ⟨w2.heap.size, 0, none⟩) 0 0) []) := Lib.hid (by
        have := (rowR_new w2.drew).lower (show w2.heap.size ≤ w2.drew.heap.size by simp)
        rw [show w2.drew.heap.size = w2.heap.size by simp] at this
        exact this)
      refine hK.out _ _ ?_ (fun hH => ?_)
      · exact hk1
      clear hK K
      try simp only [pt]
      refine wpAnyH_ready (rs := [5, 8]) (by kernel_rfl) (by simp) ?_
      refine rdH (fun K hK => ?_) ?_
      · go_simp
        refine hK.out _ _ ?_ (fun hH => ?_)
        · exact hk1
        clear hK K
        try simp only [pt]
        refine wpAnyH_ready (rs := [6, 8]) (by kernel_rfl) (by simp) ?_
        refine rdH (fun K hK => ?_) ?_
        · obtain ⟨a1, c1', w6, hrun, HROW1, HB2, HKP6⟩ := d7_app0 40 HJ2.out HB1.out HROW.out hn
          obtain ⟨hk2, ck2'⟩ := HK7.out _ HB2.out
          have ck2 : w6.cell? ⟨b, 2, none⟩ = some (.slice ax rs.length c) := ck2'
          clear ck2'
          refine step_append_run (by rfl) (.tmp 40) (.tmp 44) 40 rfl _ _ _ rfl rfl hrun ?_
          refine hK.out _ _ ?_ (fun hH => ?_)
          · exact hk2
          clear hK K
          try simp only [pt]
          refine wpAnyH_ready (rs := [8]) (by kernel_rfl) (by simp) ?_
          refine rdH (fun K hK => ?_) ?_
          · go_simp
            have HB3 : Hid (Below w2.heap.size w2 (w6.alloc (.cells #[.int .i64 o, .int .i64 N, .slice a' us.length c'] 35))) := Lib.hid (Below.step HB2.out (.cells #[.int .i64 o, .int .i64 N, .slice a' us.length c'] 35) (Below.refl _ _))
            obtain ⟨hk3, ck3'⟩ := HK7.out _ HB3.out
            have ck3 : (w6.alloc (.cells #[.int .i64 o, .int .i64 N, .slice a' us.length c'] 35)).cell? ⟨b, 2, none⟩ = some (.slice ax rs.length c) := ck3'
            clear ck3'
            have HONE : Hid (RsAt (w6.alloc (.cells #[.int .i64 o, .int .i64 N, .slice a' us.length c'] 35)) (some ⟨w6.heap.size, 0, none⟩) 1 [⟨o, N, a', us.length, c', us⟩]) := Lib.hid (by
              have := rsAt_one w6 ⟨o, N, a', us.length, c', us⟩
              exact this)
            have HROW1 := Lib.hid (HROW1.out.alloc (.cells #[.int .i64 o, .int .i64 N, .slice a' us.length c'] 35))
            refine hK.out _ _ ?_ (fun hH => ?_)
            · exact hk3
            clear hK K
            try simp only [pt]
            refine wpAnyH_ready (rs := [9]) (by kernel_rfl) (by simp) ?_
            refine rdH (fun K hK => ?_) ?_
            · obtain ⟨a2, c2, w8, hrun9, HROW2, HB8⟩ := d7_app1 40 HB3.out HROW1.out HONE.out hn
              obtain ⟨hk9, ck9⟩ := HK7.out _ HB8.out
              refine step_append_run (by rfl) (.tmp 45) (.tmp 47) 40 rfl _ _ _ rfl rfl hrun9 ?_
              refine hK.out _ _ ?_ (fun hH => ?_)
              · exact hk9
              clear hK K
              try simp only [pt]
              refine tkH 10 ?_ ?_ ?_
              rotate_left
              · intro w h; try dsimp only at h
                obtain ⟨q0, q1, q2⟩ := h; go_simp; all_goals with_reducible rfl
              try simp only [pt]
              refine tkH 11 ?_ ?_ ?_
              rotate_left
              · intro w h; try dsimp only at h
                obtain ⟨q0, q1, q2⟩ := h; go_simp; all_goals with_reducible rfl
              try simp only [pt]
              refine wpAnyH_ready (rs := [12]) (by kernel_rfl) (by simp) ?_
              refine rdH (fun K hK => ?_) ?_
              · have hrb9 := (HRB2.out.next HB8.out).setnew HRBb.out 2 (.slice a2 (rs.length + 1) c2)
                have hs9 : (w8.setCell ⟨b, 2, none⟩ (.slice a2 (rs.length + 1) c2)).cell? ⟨rb, 0, none⟩ = some (.int .i64 o) ∧ (w8.setCell ⟨b, 2, none⟩ (.slice a2 (rs.length + 1) c2)).cell? ⟨rb, 1, none⟩ = some (.int .i64 N) ∧ (w8.setCell ⟨b, 2, none⟩ (.slice a2 (rs.length + 1) c2)).cell? ⟨rb, 2, none⟩ = some (.slice a' us.length c') := ⟨hrb9.c0, hrb9.c1, hrb9.c2⟩
                have gb := (HJ2.out.next HB8.out).f0 2
                clear hrb9
                go_simp
                refine hK.out _ _ ?_ (fun hH => ?_)
                · exact hs9
                clear hK K
                try simp only [pt]
                refine wpAnyH_done (by kernel_rfl) ?_ _
                obtain ⟨d0, d1, d2⟩ := hs9
                have hr9 := (HR2.out.next HB8.out).setnew HRB0.out 2 (.slice a2 (rs.length + 1) c2)
                have g0' := hr9.c0
                have g1' := hr9.c1
                have g2' := hr9.c2
                have f0 := hr9.f0 0
                have f1 := hr9.f0 1
                have f2 := hr9.f0 2
                have h0' := ((hr9.set0 o).set1 N).set2 a' us.length c'
                have k0' := h0'.c0
                have k1' := h0'.c1
                have k2' := h0'.c2
                obtain ⟨F', x1, x2, x3, x4⟩ := d_done (x0 := .int .i64 o) (x1 := .int .i64 N) (x2 := .slice a' us.length c') HJ.out HO.out HS.out HSM.out (by decide) (by decide) HA2.out HLT.out ⟨_, HR2.out⟩ HRU2.out (by rw [← HN.out, HO.out.len]) HB8.out HROW2.out
                have HX := Lib.hid (And.intro x1 (And.intro x2 (And.intro x3 x4)))
                clear hr9 h0' x1 x2 x3 x4 HK7
                go_wp2
                refine bodyPost_ret (v := .tuple #[.agg #[.int .i64 o, .int .i64 N, .slice a' us.length c'], .int .i64 0]) (by simp [results, Tryd.results57, go_sem, k0', k1', k2']) rfl ⟨⟨o, N, a', us.length, c', us⟩, F', rfl, HX.out.1, HX.out.2.1, HX.out.2.2.1, HX.out.2.2.2, rfl, rfl, rfl⟩
              exact AllReadyH.nil
            exact AllReadyH.nil
          exact AllReadyH.nil
        refine rdH (fun K hK => ?_) ?_
        · go_simp
          have HB2 : Hid (Below w2.heap.size w2 ((w2.drew.alloc (.cells #[] 35)).alloc (.cells #[.int .i64 o, .int .i64 N, .slice a' us.length c'] 35))) := Lib.hid (Below.step HB1.out (.cells #[.int .i64 o, .int .i64 N, .slice a' us.length c'] 35) (Below.refl _ _))
          obtain ⟨hk2, ck2'⟩ := HK7.out _ HB2.out
          have ck2 : ((w2.alloc (.cells #[] 35)).alloc (.cells #[.int .i64 o, .int .i64 N, .slice a' us.length c'] 35)).cell? ⟨b, 2, none⟩ = some (.slice ax rs.length c) := ck2'
          clear ck2'
          have HONE : Hid (RsAt ((w2.drew.alloc (.cells #[] 35)).alloc (.cells #[.int .i64 o, .int .i64 N, .slice a' us.length c'] 35)) (some ⟨w2.heap.size + 1, 0, none⟩) 1 [⟨o, N, a', us.length, c', us⟩]) := Lib.hid (by
            have := rsAt_one (w2.drew.alloc (.cells #[] 35)) ⟨o, N, a', us.length, c', us⟩
            rw [show (w2.drew.alloc (.cells #[] 35)).heap.size = w2.heap.size + 1 by simp] at this
            exact this)
          have HROW := Lib.hid (HROW.out.alloc (.cells #[.int .i64 o, .int .i64 N, .slice a' us.length c'] 35))
          refine hK.out _ _ ?_ (fun hH => ?_)
          · exact hk2
          clear hK K
          try simp only [pt]
          refine wpAnyH_ready (rs := [6]) (by kernel_rfl) (by simp) ?_
          refine rdH (fun K hK => ?_) ?_
          · obtain ⟨a1, c1', w6, hrun, HROW1, HB3, HKP6⟩ := d7_app0 40 HJ2.out HB2.out HROW.out hn
            obtain ⟨hk3, ck3'⟩ := HK7.out _ HB3.out
            have ck3 : w6.cell? ⟨b, 2, none⟩ = some (.slice ax rs.length c) := ck3'
            clear ck3'
            have HONE := Lib.hid (rsOne_kept HONE.out HKP6.out (by omega))
            refine step_append_run (by rfl) (.tmp 40) (.tmp 44) 40 rfl _ _ _ rfl rfl hrun ?_
            refine hK.out _ _ ?_ (fun hH => ?_)
            · exact hk3
            clear hK K
            try simp only [pt]
            refine wpAnyH_ready (rs := [9]) (by kernel_rfl) (by simp) ?_
            refine rdH (fun K hK => ?_) ?_
            · obtain ⟨a2, c2, w8, hrun9, HROW2, HB8⟩ := d7_app1 40 HB3.out HROW1.out HONE.out hn
              obtain ⟨hk9, ck9⟩ := HK7.out _ HB8.out
              refine step_append_run (by rfl) (.tmp 45) (.tmp 47) 40 rfl _ _ _ rfl rfl hrun9 ?_
              refine hK.out _ _ ?_ (fun hH => ?_)
              · exact hk9
              clear hK K
              try simp only [pt]
              refine tkH 10 ?_ ?_ ?_
              rotate_left
              · intro w h; try dsimp only at h
                obtain ⟨q0, q1, q2⟩ := h; go_simp; all_goals with_reducible rfl
              try simp only [pt]
              refine tkH 11 ?_ ?_ ?_
              rotate_left
              · intro w h; try dsimp only at h
                obtain ⟨q0, q1, q2⟩ := h; go_simp; all_goals with_reducible rfl
              try simp only [pt]
              refine wpAnyH_ready (rs := [12]) (by kernel_rfl) (by simp) ?_
              refine rdH (fun K hK => ?_) ?_
              · have hrb9 := (HRB2.out.next HB8.out).setnew HRBb.out 2 (.slice a2 (rs.length + 1) c2)
                have hs9 : (w8.setCell ⟨b, 2, none⟩ (.slice a2 (rs.length + 1) c2)).cell? ⟨rb, 0, none⟩ = some (.int .i64 o) ∧ (w8.setCell ⟨b, 2, none⟩ (.slice a2 (rs.length + 1) c2)).cell? ⟨rb, 1, none⟩ = some (.int .i64 N) ∧ (w8.setCell ⟨b, 2, none⟩ (.slice a2 (rs.length + 1) c2)).cell? ⟨rb, 2, none⟩ = some (.slice a' us.length c') := ⟨hrb9.c0, hrb9.c1, hrb9.c2⟩
                have gb := (HJ2.out.next HB8.out).f0 2
                clear hrb9
                go_simp
                refine hK.out _ _ ?_ (fun hH => ?_)
                · exact hs9
                clear hK K
                try simp only [pt]
                refine wpAnyH_done (by kernel_rfl) ?_ _
                obtain ⟨d0, d1, d2⟩ := hs9
                have hr9 := (HR2.out.next HB8.out).setnew HRB0.out 2 (.slice a2 (rs.length + 1) c2)
                have g0' := hr9.c0
                have g1' := hr9.c1
                have g2' := hr9.c2
                have f0 := hr9.f0 0
                have f1 := hr9.f0 1
                have f2 := hr9.f0 2
                have h0' := ((hr9.set0 o).set1 N).set2 a' us.length c'
                have k0' := h0'.c0
                have k1' := h0'.c1
                have k2' := h0'.c2
                obtain ⟨F', x1, x2, x3, x4⟩ := d_done (x0 := .int .i64 o) (x1 := .int .i64 N) (x2 := .slice a' us.length c') HJ.out HO.out HS.out HSM.out (by decide) (by decide) HA2.out HLT.out ⟨_, HR2.out⟩ HRU2.out (by rw [← HN.out, HO.out.len]) HB8.out HROW2.out
                have HX := Lib.hid (And.intro x1 (And.intro x2 (And.intro x3 x4)))
                clear hr9 h0' x1 x2 x3 x4 HK7
                go_wp2
                refine bodyPost_ret (v := .tuple #[.agg #[.int .i64 o, .int .i64 N, .slice a' us.length c'], .int .i64 0]) (by simp [results, Tryd.results57, go_sem, k0', k1', k2']) rfl ⟨⟨o, N, a', us.length, c', us⟩, F', rfl, HX.out.1, HX.out.2.1, HX.out.2.2.1, HX.out.2.2.2, rfl, rfl, rfl⟩
              exact AllReadyH.nil
            exact AllReadyH.nil
          exact AllReadyH.nil
        exact AllReadyH.nil
      refine rdH (fun K hK => ?_) ?_
      · go_simp
        have HB2 : Hid (Below w2.heap.size w2 ((w2.drew.alloc (.cells #[] 35)).alloc (.cells #[.int .i64 o, .int .i64 N, .slice a' us.length c'] 35))) := Lib.hid (Below.step HB1.out (.cells #[.int .i64 o, .int .i64 N, .slice a' us.length c'] 35) (Below.refl _ _))
        obtain ⟨hk2, ck2'⟩ := HK7.out _ HB2.out
        have ck2 : ((w2.alloc (.cells #[] 35)).alloc (.cells #[.int .i64 o, .int .i64 N, .slice a' us.length c'] 35)).cell? ⟨b, 2, none⟩ = some (.slice ax rs.length c) := ck2'
        clear ck2'
        have HONE : Hid (RsAt ((w2.drew.alloc (.cells #[] 35)).alloc (.cells #[.int .i64 o, .int .i64 N, .slice a' us.length c'] 35)) (some ⟨w2.heap.size + 1, 0, none⟩) 1 [⟨o, N, a', us.length, c', us⟩]) := Lib.hid (by
          have := rsAt_one (w2.drew.alloc (.cells #[] 35)) ⟨o, N, a', us.length, c', us⟩
          rw [show (w2.drew.alloc (.cells #[] 35)).heap.size = w2.heap.size + 1 by simp] at this
          exact this)
        have HROW := Lib.hid (HROW.out.alloc (.cells #[.int .i64 o, .int .i64 N, .slice a' us.length c'] 35))
        refine hK.out _ _ ?_ (fun hH => ?_)
        · exact hk2
        clear hK K
        try simp only [pt]
        refine wpAnyH_ready (rs := [5]) (by kernel_rfl) (by simp) ?_
        refine rdH (fun K hK => ?_) ?_
        · go_simp
          refine hK.out _ _ ?_ (fun hH => ?_)
          · exact hk2
          clear hK K
          try simp only [pt]
          refine wpAnyH_ready (rs := [6]) (by kernel_rfl) (by simp) ?_
          refine rdH (fun K hK => ?_) ?_
          · obtain ⟨a1, c1', w6, hrun, HROW1, HB3, HKP6⟩ := d7_app0 40 HJ2.out HB2.out HROW.out hn
            obtain ⟨hk3, ck3'⟩ := HK7.out _ HB3.out
            have ck3 : w6.cell? ⟨b, 2, none⟩ = some (.slice ax rs.length c) := ck3'
            clear ck3'
            have HONE := Lib.hid (rsOne_kept HONE.out HKP6.out (by omega))
            refine step_append_run (by rfl) (.tmp 40) (.tmp 44) 40 rfl _ _ _ rfl rfl hrun ?_
            refine hK.out _ _ ?_ (fun hH => ?_)
            · exact hk3
            clear hK K
            try simp only [pt]
            refine wpAnyH_ready (rs := [9]) (by kernel_rfl) (by simp) ?_
            refine rdH (fun K hK => ?_) ?_
            · obtain ⟨a2, c2, w8, hrun9, HROW2, HB8⟩ := d7_app1 40 HB3.out HROW1.out HONE.out hn
              obtain ⟨hk9, ck9⟩ := HK7.out _ HB8.out
              refine step_append_run (by rfl) (.tmp 45) (.tmp 47) 40 rfl _ _ _ rfl rfl hrun9 ?_
              refine hK.out _ _ ?_ (fun hH => ?_)
              · exact hk9
              clear hK K
              try simp only [pt]
              refine tkH 10 ?_ ?_ ?_
              rotate_left
              · intro w h; try dsimp only at h
                obtain ⟨q0, q1, q2⟩ := h; go_simp; all_goals with_reducible rfl
              try simp only [pt]
              refine tkH 11 ?_ ?_ ?_
              rotate_left
              · intro w h; try dsimp only at h
                obtain ⟨q0, q1, q2⟩ := h; go_simp; all_goals with_reducible rfl
              try simp only [pt]
              refine wpAnyH_ready (rs := [12]) (by kernel_rfl) (by simp) ?_
              refine rdH (fun K hK => ?_) ?_
              · have hrb9 := (HRB2.out.next HB8.out).setnew HRBb.out 2 (.slice a2 (rs.length + 1) c2)
                have hs9 : (w8.setCell ⟨b, 2, none⟩ (.slice a2 (rs.length + 1) c2)).cell? ⟨rb, 0, none⟩ = some (.int .i64 o) ∧ (w8.setCell ⟨b, 2, none⟩ (.slice a2 (rs.length + 1) c2)).cell? ⟨rb, 1, none⟩ = some (.int .i64 N) ∧ (w8.setCell ⟨b, 2, none⟩ (.slice a2 (rs.length + 1) c2)).cell? ⟨rb, 2, none⟩ = some (.slice a' us.length c') := ⟨hrb9.c0, hrb9.c1, hrb9.c2⟩
                have gb := (HJ2.out.next HB8.out).f0 2
                clear hrb9
                go_simp
                refine hK.out _ _ ?_ (fun hH => ?_)
                · exact hs9
                clear hK K
                try simp only [pt]
                refine wpAnyH_done (by kernel_rfl) ?_ _
                obtain ⟨d0, d1, d2⟩ := hs9
                have hr9 := (HR2.out.next HB8.out).setnew HRB0.out 2 (.slice a2 (rs.length + 1) c2)
                have g0' := hr9.c0
                have g1' := hr9.c1
                have g2' := hr9.c2
                have f0 := hr9.f0 0
                have f1 := hr9.f0 1
                have f2 := hr9.f0 2
                have h0' := ((hr9.set0 o).set1 N).set2 a' us.length c'
                have k0' := h0'.c0
                have k1' := h0'.c1
                have k2' := h0'.c2
                obtain ⟨F', x1, x2, x3, x4⟩ := d_done (x0 := .int .i64 o) (x1 := .int .i64 N) (x2 := .slice a' us.length c') HJ.out HO.out HS.out HSM.out (by decide) (by decide) HA2.out HLT.out ⟨_, HR2.out⟩ HRU2.out (by rw [← HN.out, HO.out.len]) HB8.out HROW2.out
                have HX := Lib.hid (And.intro x1 (And.intro x2 (And.intro x3 x4)))
                clear hr9 h0' x1 x2 x3 x4 HK7
                go_wp2
                refine bodyPost_ret (v := .tuple #[.agg #[.int .i64 o, .int .i64 N, .slice a' us.length c'], .int .i64 0]) (by simp [results, Tryd.results57, go_sem, k0', k1', k2']) rfl ⟨⟨o, N, a', us.length, c', us⟩, F', rfl, HX.out.1, HX.out.2.1, HX.out.2.2.1, HX.out.2.2.2, rfl, rfl, rfl⟩
              exact AllReadyH.nil
            exact AllReadyH.nil
          exact AllReadyH.nil
        exact AllReadyH.nil
      exact AllReadyH.nil
    refine rdH (fun K hK => ?_) ?_
    · go_simp
      refine hK.out _ _ ?_ (fun hH => ?_)
      · exact hk0
      clear hK K
      try simp only [pt]
      refine wpAnyH_ready (rs := [1, 8]) (by kernel_rfl) (by simp) ?_
      refine rdH (fun K hK => ?_) ?_
      · go_simp
        have HB1 : Hid (Below w2.heap.size w2 (w2.drew.alloc (.cells #[] 35))) := Lib.hid (Below.step HB0.out (.cells #[] 35) (Below.refl _ _))
        obtain ⟨hk1, ck1'⟩ := HK7.out _ HB1.out
        have ck1 : (w2.alloc (.cells #[] 35)).cell? ⟨b, 2, none⟩ = some (.slice ax rs.length c) := ck1'
        clear ck1'
        have HROW : Hid (RowR w2.heap.size (w2.drew.alloc (.cells #[] 35)) (.slice (some ⟨w2.heap.size, 0, none⟩) 0 0) []) := Lib.hid (by
          have := (rowR_new w2.drew).lower (show w2.heap.size ≤ w2.drew.heap.size by simp)
          rw [show w2.drew.heap.size = w2.heap.size by simp] at this
          exact this)
        refine hK.out _ _ ?_ (fun hH => ?_)
        · exact hk1
        clear hK K
        try simp only [pt]
        refine wpAnyH_ready (rs := [6, 8]) (by kernel_rfl) (by simp) ?_
        refine rdH (fun K hK => ?_) ?_
        · obtain ⟨a1, c1', w6, hrun, HROW1, HB2, HKP6⟩ := d7_app0 40 HJ2.out HB1.out HROW.out hn
          obtain ⟨hk2, ck2'⟩ := HK7.out _ HB2.out
          have ck2 : w6.cell? ⟨b, 2, none⟩ = some (.slice ax rs.length c) := ck2'
          clear ck2'
          refine step_append_run (by rfl) (.tmp 40) (.tmp 44) 40 rfl _ _ _ rfl rfl hrun ?_
          refine hK.out _ _ ?_ (fun hH => ?_)
          · exact hk2
          clear hK K
          try simp only [pt]
          refine wpAnyH_ready (rs := [8]) (by kernel_rfl) (by simp) ?_
          refine rdH (fun K hK => ?_) ?_
          · go_simp
            have HB3 : Hid (Below w2.heap.size w2 (w6.alloc (.cells #[.int .i64 o, .int .i64 N, .slice a' us.length c'] 35))) := Lib.hid (Below.step HB2.out (.cells #[.int .i64 o, .int .i64 N, .slice a' us.length c'] 35) (Below.refl _ _))
            obtain ⟨hk3, ck3'⟩ := HK7.out _ HB3.out
            have ck3 : (w6.alloc (.cells #[.int .i64 o, .int .i64 N, .slice a' us.length c'] 35)).cell? ⟨b, 2, none⟩ = some (.slice ax rs.length c) := ck3'
            clear ck3'
            have HONE : Hid (RsAt (w6.alloc (.cells #[.int .i64 o, .int .i64 N, .slice a' us.length c'] 35)) (some ⟨w6.heap.size, 0, none⟩) 1 [⟨o, N, a', us.length, c', us⟩]) := Lib.hid (by
              have := rsAt_one w6 ⟨o, N, a', us.length, c', us⟩
              exact this)
            have HROW1 := Lib.hid (HROW1.out.alloc (.cells #[.int .i64 o, .int .i64 N, .slice a' us.length c'] 35))
            refine hK.out _ _ ?_ (fun hH => ?_)
            · exact hk3
            clear hK K
            try simp only [pt]
            refine wpAnyH_ready (rs := [9]) (by kernel_rfl) (by simp) ?_
            refine rdH (fun K hK => ?_) ?_
            · obtain ⟨a2, c2, w8, hrun9, HROW2, HB8⟩ := d7_app1 40 HB3.out HROW1.out HONE.out hn
              obtain ⟨hk9, ck9⟩ := HK7.out _ HB8.out
              refine step_append_run (by rfl) (.tmp 45) (.tmp 47) 40 rfl _ _ _ rfl rfl hrun9 ?_
              refine hK.out _ _ ?_ (fun hH => ?_)
              · exact hk9
              clear hK K
              try simp only [pt]
              refine tkH 10 ?_ ?_ ?_
              rotate_left
              · intro w h; try dsimp only at h
                obtain ⟨q0, q1, q2⟩ := h; go_simp; all_goals with_reducible rfl
              try simp only [pt]
              refine tkH 11 ?_ ?_ ?_
              rotate_left
              · intro w h; try dsimp only at h
                obtain ⟨q0, q1, q2⟩ := h; go_simp; all_goals with_reducible rfl
              try simp only [pt]
              refine wpAnyH_ready (rs := [12]) (by kernel_rfl) (by simp) ?_
              refine rdH (fun K hK => ?_) ?_
              · have hrb9 := (HRB2.out.next HB8.out).setnew HRBb.out 2 (.slice a2 (rs.length + 1) c2)
                have hs9 : (w8.setCell ⟨b, 2, none⟩ (.slice a2 (rs.length + 1) c2)).cell? ⟨rb, 0, none⟩ = some (.int .i64 o) ∧ (w8.setCell ⟨b, 2, none⟩ (.slice a2 (rs.length + 1) c2)).cell? ⟨rb, 1, none⟩ = some (.int .i64 N) ∧ (w8.setCell ⟨b, 2, none⟩ (.slice a2 (rs.length + 1) c2)).cell? ⟨rb, 2, none⟩ = some (.slice a' us.length c') := ⟨hrb9.c0, hrb9.c1, hrb9.c2⟩
                have gb := (HJ2.out.next HB8.out).f0 2
                clear hrb9
                go_simp
                refine hK.out _ _ ?_ (fun hH => ?_)
                · exact hs9
                clear hK K
                try simp only [pt]
                refine wpAnyH_done (by kernel_rfl) ?_ _
                obtain ⟨d0, d1, d2⟩ := hs9
                have hr9 := (HR2.out.next HB8.out).setnew HRB0.out 2 (.slice a2 (rs.length + 1) c2)
                have g0' := hr9.c0
                have g1' := hr9.c1
                have g2' := hr9.c2
                have f0 := hr9.f0 0
                have f1 := hr9.f0 1
                have f2 := hr9.f0 2
                have h0' := ((hr9.set0 o).set1 N).set2 a' us.length c'
                have k0' := h0'.c0
                have k1' := h0'.c1
                have k2' := h0'.c2
                obtain ⟨F', x1, x2, x3, x4⟩ := d_done (x0 := .int .i64 o) (x1 := .int .i64 N) (x2 := .slice a' us.length c') HJ.out HO.out HS.out HSM.out (by decide) (by decide) HA2.out HLT.out ⟨_, HR2.out⟩ HRU2.out (by rw [← HN.out, HO.out.len]) HB8.out HROW2.out
                have HX := Lib.hid (And.intro x1 (And.intro x2 (And.intro x3 x4)))
                clear hr9 h0' x1 x2 x3 x4 HK7
                go_wp2
                refine bodyPost_ret (v := .tuple #[.agg #[.int .i64 o, .int .i64 N, .slice a' us.length c'], .int .i64 0]) (by simp [results, Tryd.results57, go_sem, k0', k1', k2']) rfl ⟨⟨o, N, a', us.length, c', us⟩, F', rfl, HX.out.1, HX.out.2.1, HX.out.2.2.1, HX.out.2.2.2, rfl, rfl, rfl⟩
              exact AllReadyH.nil
            exact AllReadyH.nil
          exact AllReadyH.nil
        refine rdH (fun K hK => ?_) ?_
        · go_simp
          have HB2 : Hid (Below w2.heap.size w2 ((w2.drew.alloc (.cells #[] 35)).alloc (.cells #[.int .i64 o, .int .i64 N, .slice a' us.length c'] 35))) := Lib.hid (Below.step HB1.out (.cells #[.int .i64 o, .int .i64 N, .slice a' us.length c'] 35) (Below.refl _ _))
          obtain ⟨hk2, ck2'⟩ := HK7.out _ HB2.out
          have ck2 : ((w2.alloc (.cells #[] 35)).alloc (.cells #[.int .i64 o, .int .i64 N, .slice a' us.length c'] 35)).cell? ⟨b, 2, none⟩ = some (.slice ax rs.length c) := ck2'
          clear ck2'
          have HONE : Hid (RsAt ((w2.drew.alloc (.cells #[] 35)).alloc (.cells #[.int .i64 o, .int .i64 N, .slice a' us.length c'] 35)) (some ⟨w2.heap.size + 1, 0, none⟩) 1 [⟨o, N, a', us.length, c', us⟩]) := Lib.hid (by
            have := rsAt_one (w2.drew.alloc (.cells #[] 35)) ⟨o, N, a', us.length, c', us⟩
            rw [show (w2.drew.alloc (.cells #[] 35)).heap.size = w2.heap.size + 1 by simp] at this
            exact this)
          have HROW := Lib.hid (HROW.out.alloc (.cells #[.int .i64 o, .int .i64 N, .slice a' us.length c'] 35))
          refine hK.out _ _ ?_ (fun hH => ?_)
          · exact hk2
          clear hK K
          try simp only [pt]
          refine wpAnyH_ready (rs := [6]) (by kernel_rfl) (by simp) ?_
          refine rdH (fun K hK => ?_) ?_
          · obtain ⟨a1, c1', w6, hrun, HROW1, HB3, HKP6⟩ := d7_app0 40 HJ2.out HB2.out HROW.out hn
            obtain ⟨hk3, ck3'⟩ := HK7.out _ HB3.out
            have ck3 : w6.cell? ⟨b, 2, none⟩ = some (.slice ax rs.length c) := ck3'
            clear ck3'
            have HONE := Lib.hid (rsOne_kept HONE.out HKP6.out (by omega))
            refine step_append_run (by rfl) (.tmp 40) (.tmp 44) 40 rfl _ _ _ rfl rfl hrun ?_
            refine hK.out _ _ ?_ (fun hH => ?_)
            · exact hk3
            clear hK K
            try simp only [pt]
            refine wpAnyH_ready (rs := [9]) (by kernel_rfl) (by simp) ?_
            refine rdH (fun K hK => ?_) ?_
            · obtain ⟨a2, c2, w8, hrun9, HROW2, HB8⟩ := d7_app1 40 HB3.out HROW1.out HONE.out hn
              obtain ⟨hk9, ck9⟩ := HK7.out _ HB8.out
              refine step_append_run (by rfl) (.tmp 45) (.tmp 47) 40 rfl _ _ _ rfl rfl hrun9 ?_
              refine hK.out _ _ ?_ (fun hH => ?_)
              · exact hk9
              clear hK K
              try simp only [pt]
              refine tkH 10 ?_ ?_ ?_
              rotate_left
              · intro w h; try dsimp only at h
                obtain ⟨q0, q1, q2⟩ := h; go_simp; all_goals with_reducible rfl
              try simp only [pt]
              refine tkH 11 ?_ ?_ ?_
              rotate_left
              · intro w h; try dsimp only at h
                obtain ⟨q0, q1, q2⟩ := h; go_simp; all_goals with_reducible rfl
              try simp only [pt]
              refine wpAnyH_ready (rs := [12]) (by kernel_rfl) (by simp) ?_
              refine rdH (fun K hK => ?_) ?_
              · have hrb9 := (HRB2.out.next HB8.out).setnew HRBb.out 2 (.slice a2 (rs.length + 1) c2)
                have hs9 : (w8.setCell ⟨b, 2, none⟩ (.slice a2 (rs.length + 1) c2)).cell? ⟨rb, 0, none⟩ = some (.int .i64 o) ∧ (w8.setCell ⟨b, 2, none⟩ (.slice a2 (rs.length + 1) c2)).cell? ⟨rb, 1, none⟩ = some (.int .i64 N) ∧ (w8.setCell ⟨b, 2, none⟩ (.slice a2 (rs.length + 1) c2)).cell? ⟨rb, 2, none⟩ = some (.slice a' us.length c') := ⟨hrb9.c0, hrb9.c1, hrb9.c2⟩
                have gb := (HJ2.out.next HB8.out).f0 2
                clear hrb9
                go_simp
                refine hK.out _ _ ?_ (fun hH => ?_)
                · exact hs9
                clear hK K
                try simp only [pt]
                refine wpAnyH_done (by kernel_rfl) ?_ _
                obtain ⟨d0, d1, d2⟩ := hs9
                have hr9 := (HR2.out.next HB8.out).setnew HRB0.out 2 (.slice a2 (rs.length + 1) c2)
                have g0' := hr9.c0
                have g1' := hr9.c1
                have g2' := hr9.c2
                have f0 := hr9.f0 0
                have f1 := hr9.f0 1
                have f2 := hr9.f0 2
                have h0' := ((hr9.set0 o).set1 N).set2 a' us.length c'
                have k0' := h0'.c0
                have k1' := h0'.c1
                have k2' := h0'.c2
                obtain ⟨F', x1, x2, x3, x4⟩ := d_done (x0 := .int .i64 o) (x1 := .int .i64 N) (x2 := .slice a' us.length c') HJ.out HO.out HS.out HSM.out (by decide) (by decide) HA2.out HLT.out ⟨_, HR2.out⟩ HRU2.out (by rw [← HN.out, HO.out.len]) HB8.out HROW2.out
                have HX := Lib.hid (And.intro x1 (And.intro x2 (And.intro x3 x4)))
                clear hr9 h0' x1 x2 x3 x4 HK7
                go_wp2
                refine bodyPost_ret (v := .tuple #[.agg #[.int .i64 o, .int .i64 N, .slice a' us.length c'], .int .i64 0]) (by simp [results, Tryd.results57, go_sem, k0', k1', k2']) rfl ⟨⟨o, N, a', us.length, c', us⟩, F', rfl, HX.out.1, HX.out.2.1, HX.out.2.2.1, HX.out.2.2.2, rfl, rfl, rfl⟩
              exact AllReadyH.nil
            exact AllReadyH.nil
          exact AllReadyH.nil
        exact AllReadyH.nil
      refine rdH (fun K hK => ?_) ?_
      · go_simp
        have HB1 : Hid (Below w2.heap.size w2 (w2.drew.alloc (.cells #[.int .i64 o, .int .i64 N, .slice a' us.length c'] 35))) := Lib.hid (Below.step HB0.out (.cells #[.int .i64 o, .int .i64 N, .slice a' us.length c'] 35) (Below.refl _ _))
        obtain ⟨hk1, ck1'⟩ := HK7.out _ HB1.out
        have ck1 : (w2.alloc (.cells #[.int .i64 o, .int .i64 N, .slice a' us.length c'] 35)).cell? ⟨b, 2, none⟩ = some (.slice ax rs.length c) := ck1'
        clear ck1'
        have HONE : Hid (RsAt (w2.drew.alloc (.cells #[.int .i64 o, .int .i64 N, .slice a' us.length c'] 35)) (some ⟨w2.heap.size, 0, none⟩) 1 [⟨o, N, a', us.length, c', us⟩]) := Lib.hid (by
          have := rsAt_one w2.drew ⟨o, N, a', us.length, c', us⟩
          rw [show w2.drew.heap.size = w2.heap.size by simp] at this
          exact this)
        refine hK.out _ _ ?_ (fun hH => ?_)
        · exact hk1
        clear hK K
        try simp only [pt]
        refine wpAnyH_ready (rs := [1]) (by kernel_rfl) (by simp) ?_
        refine rdH (fun K hK => ?_) ?_
        · go_simp
          have HB2 : Hid (Below w2.heap.size w2 ((w2.drew.alloc (.cells #[.int .i64 o, .int .i64 N, .slice a' us.length c'] 35)).alloc (.cells #[] 35))) := Lib.hid (Below.step HB1.out (.cells #[] 35) (Below.refl _ _))
          obtain ⟨hk2, ck2'⟩ := HK7.out _ HB2.out
          have ck2 : ((w2.alloc (.cells #[.int .i64 o, .int .i64 N, .slice a' us.length c'] 35)).alloc (.cells #[] 35)).cell? ⟨b, 2, none⟩ = some (.slice ax rs.length c) := ck2'
          clear ck2'
          have HROW : Hid (RowR w2.heap.size ((w2.drew.alloc (.cells #[.int .i64 o, .int .i64 N, .slice a' us.length c'] 35)).alloc (.cells #[] 35)) (.slice (some ⟨w2.heap.size + 1, 0, none⟩) 0 0) []) := Lib.hid (by
            have := (rowR_new (w2.drew.alloc (.cells #[.int .i64 o, .int .i64 N, .slice a' us.length c'] 35))).lower (show w2.heap.size ≤ (w2.drew.alloc (.cells #[.int .i64 o, .int .i64 N, .slice a' us.length c'] 35)).heap.size by simp)
            rw [show (w2.drew.alloc (.cells #[.int .i64 o, .int .i64 N, .slice a' us.length c'] 35)).heap.size = w2.heap.size + 1 by simp] at this
            exact this)
          have HONE := Lib.hid (rsOne_kept (q := w2.heap.size + 1) (w5 := ((w2.drew.alloc (.cells #[.int .i64 o, .int .i64 N, .slice a' us.length c'] 35)).alloc (.cells #[] 35))) HONE.out (fun k hk _ => Below.heap_alloc _ _ _ hk) (by omega))
          refine hK.out _ _ ?_ (fun hH => ?_)
          · exact hk2
          clear hK K
          try simp only [pt]
          refine wpAnyH_ready (rs := [6]) (by kernel_rfl) (by simp) ?_
          refine rdH (fun K hK => ?_) ?_
          · obtain ⟨a1, c1', w6, hrun, HROW1, HB3, HKP6⟩ := d7_app0 40 HJ2.out HB2.out HROW.out hn
            obtain ⟨hk3, ck3'⟩ := HK7.out _ HB3.out
            have ck3 : w6.cell? ⟨b, 2, none⟩ = some (.slice ax rs.length c) := ck3'
            clear ck3'
            have HONE := Lib.hid (rsOne_kept HONE.out HKP6.out (by omega))
            refine step_append_run (by rfl) (.tmp 40) (.tmp 44) 40 rfl _ _ _ rfl rfl hrun ?_
            refine hK.out _ _ ?_ (fun hH => ?_)
            · exact hk3
            clear hK K
            try simp only [pt]
            refine wpAnyH_ready (rs := [9]) (by kernel_rfl) (by simp) ?_
            refine rdH (fun K hK => ?_) ?_
            · obtain ⟨a2, c2, w8, hrun9, HROW2, HB8⟩ := d7_app1 40 HB3.out HROW1.out HONE.out hn
              obtain ⟨hk9, ck9⟩ := HK7.out _ HB8.out
              refine step_append_run (by rfl) (.tmp 45) (.tmp 47) 40 rfl _ _ _ rfl rfl hrun9 ?_
              refine hK.out _ _ ?_ (fun hH => ?_)
              · exact hk9
              clear hK K
              try simp only [pt]
              refine tkH 10 ?_ ?_ ?_
              rotate_left
              · intro w h; try dsimp only at h
                obtain ⟨q0, q1, q2⟩ := h; go_simp; all_goals with_reducible rfl
              try simp only [pt]
              refine tkH 11 ?_ ?_ ?_
              rotate_left
              · intro w h; try dsimp only at h
                obtain ⟨q0, q1, q2⟩ := h; go_simp; all_goals with_reducible rfl
              try simp only [pt]
              refine wpAnyH_ready (rs := [12]) (by kernel_rfl) (by simp) ?_
              refine rdH (fun K hK => ?_) ?_
              · have hrb9 := (HRB2.out.next HB8.out).setnew HRBb.out 2 (.slice a2 (rs.length + 1) c2)
                have hs9 : (w8.setCell ⟨b, 2, none⟩ (.slice a2 (rs.length + 1) c2)).cell? ⟨rb, 0, none⟩ = some (.int .i64 o) ∧ (w8.setCell ⟨b, 2, none⟩ (.slice a2 (rs.length + 1) c2)).cell? ⟨rb, 1, none⟩ = some (.int .i64 N) ∧ (w8.setCell ⟨b, 2, none⟩ (.slice a2 (rs.length + 1) c2)).cell? ⟨rb, 2, none⟩ = some (.slice a' us.length c') := ⟨hrb9.c0, hrb9.c1, hrb9.c2⟩
                have gb := (HJ2.out.next HB8.out).f0 2
                clear hrb9
                go_simp
                refine hK.out _ _ ?_ (fun hH => ?_)
                · exact hs9
                clear hK K
                try simp only [pt]
                refine wpAnyH_done (by kernel_rfl) ?_ _
                obtain ⟨d0, d1, d2⟩ := hs9
                have hr9 := (HR2.out.next HB8.out).setnew HRB0.out 2 (.slice a2 (rs.length + 1) c2)
                have g0' := hr9.c0
                have g1' := hr9.c1
                have g2' := hr9.c2
                have f0 := hr9.f0 0
                have f1 := hr9.f0 1
                have f2 := hr9.f0 2
                have h0' := ((hr9.set0 o).set1 N).set2 a' us.length c'
                have k0' := h0'.c0
                have k1' := h0'.c1
                have k2' := h0'.c2
                obtain ⟨F', x1, x2, x3, x4⟩ := d_done (x0 := .int .i64 o) (x1 := .int .i64 N) (x2 := .slice a' us.length c') HJ.out HO.out HS.out HSM.out (by decide) (by decide) HA2.out HLT.out ⟨_, HR2.out⟩ HRU2.out (by rw [← HN.out, HO.out.len]) HB8.out HROW2.out
                have HX := Lib.hid (And.intro x1 (And.intro x2 (And.intro x3 x4)))
                clear hr9 h0' x1 x2 x3 x4 HK7
                go_wp2
                refine bodyPost_ret (v := .tuple #[.agg #[.int .i64 o, .int .i64 N, .slice a' us.length c'], .int .i64 0]) (by simp [results, Tryd.results57, go_sem, k0', k1', k2']) rfl ⟨⟨o, N, a', us.length, c', us⟩, F', rfl, HX.out.1, HX.out.2.1, HX.out.2.2.1, HX.out.2.2.2, rfl, rfl, rfl⟩
              exact AllReadyH.nil
            exact AllReadyH.nil
          exact AllReadyH.nil
        exact AllReadyH.nil
      exact AllReadyH.nil
    refine rdH (fun K hK => ?_) ?_
    · go_simp
      have HB1 : Hid (Below w2.heap.size w2 (w2.drew.alloc (.cells #[.int .i64 o, .int .i64 N, .slice a' us.length c'] 35))) := Lib.hid (Below.step HB0.out (.cells #[.int .i64 o, .int .i64 N, .slice a' us.length c'] 35) (Below.refl _ _))
      obtain ⟨hk1, ck1'⟩ := HK7.out _ HB1.out
      have ck1 : (w2.alloc (.cells #[.int .i64 o, .int .i64 N, .slice a' us.length c'] 35)).cell? ⟨b, 2, none⟩ = some (.slice ax rs.length c) := ck1'
      clear ck1'
      have HONE : Hid (RsAt (w2.drew.alloc (.cells #[.int .i64 o, .int .i64 N, .slice a' us.length c'] 35)) (some ⟨w2.heap.size, 0, none⟩) 1 [⟨o, N, a', us.length, c', us⟩]) := Lib.hid (by
        have := rsAt_one w2.drew ⟨o, N, a', us.length, c', us⟩
        rw [show w2.drew.heap.size = w2.heap.size by simp] at this
        exact this)
      refine hK.out _ _ ?_ (fun hH => ?_)
      · exact hk1
      clear hK K
      try simp only [pt]
      refine wpAnyH_ready (rs := [1, 5]) (by kernel_rfl) (by simp) ?_
      refine rdH (fun K hK => ?_) ?_
      · go_simp
        have HB2 : Hid (Below w2.heap.size w2 ((w2.drew.alloc (.cells #[.int .i64 o, .int .i64 N, .slice a' us.length c'] 35)).alloc (.cells #[] 35))) := Lib.hid (Below.step HB1.out (.cells #[] 35) (Below.refl _ _))
        obtain ⟨hk2, ck2'⟩ := HK7.out _ HB2.out
        have ck2 : ((w2.alloc (.cells #[.int .i64 o, .int .i64 N, .slice a' us.length c'] 35)).alloc (.cells #[] 35)).cell? ⟨b, 2, none⟩ = some (.slice ax rs.length c) := ck2'
        clear ck2'
        have HROW : Hid (RowR w2.heap.size ((w2.drew.alloc (.cells #[.int .i64 o, .int .i64 N, .slice a' us.length c'] 35)).alloc (.cells #[] 35)) (.slice (some ⟨w2.heap.size + 1, 0, none⟩) 0 0) []) := Lib.hid (by
          have := (rowR_new (w2.drew.alloc (.cells #[.int .i64 o, .int .i64 N, .slice a' us.length c'] 35))).lower (show w2.heap.size ≤ (w2.drew.alloc (.cells #[.int .i64 o, .int .i64 N, .slice a' us.length c'] 35)).heap.size by simp)
          rw [show (w2.drew.alloc (.cells #[.int .i64 o, .int .i64 N, .slice a' us.length c'] 35)).heap.size = w2.heap.size + 1 by simp] at this
          exact this)
        have HONE := Lib.hid (rsOne_kept (q := w2.heap.size + 1) (w5 := ((w2.drew.alloc (.cells #[.int .i64 o, .int .i64 N, .slice a' us.length c'] 35)).alloc (.cells #[] 35))) HONE.out (fun k hk _ => Below.heap_alloc _ _ _ hk) (by omega))
        refine hK.out _ _ ?_ (fun hH => ?_)
        · exact hk2
        clear hK K
        try simp only [pt]
        refine wpAnyH_ready (rs := [5]) (by kernel_rfl) (by simp) ?_
        refine rdH (fun K hK => ?_) ?_
        · go_simp
          refine hK.out _ _ ?_ (fun hH => ?_)
          · exact hk2
          clear hK K
          try simp only [pt]
          refine wpAnyH_ready (rs := [6]) (by kernel_rfl) (by simp) ?_
          refine rdH (fun K hK => ?_) ?_
          · obtain ⟨a1, c1', w6, hrun, HROW1, HB3, HKP6⟩ := d7_app0 40 HJ2.out HB2.out HROW.out hn
            obtain ⟨hk3, ck3'⟩ := HK7.out _ HB3.out
            have ck3 : w6.cell? ⟨b, 2, none⟩ = some (.slice ax rs.length c) := ck3'
            clear ck3'
            have HONE := Lib.hid (rsOne_kept HONE.out HKP6.out (by omega))
            refine step_append_run (by rfl) (.tmp 40) (.tmp 44) 40 rfl _ _ _ rfl rfl hrun ?_
            refine hK.out _ _ ?_ (fun hH => ?_)
            · exact hk3
            clear hK K
            try simp only [pt]
            refine wpAnyH_ready (rs := [9]) (by kernel_rfl) (by simp) ?_
            refine rdH (fun K hK => ?_) ?_
            · obtain ⟨a2, c2, w8, hrun9, HROW2, HB8⟩ := d7_app1 40 HB3.out HROW1.out HONE.out hn
              obtain ⟨hk9, ck9⟩ := HK7.out _ HB8.out
              refine step_append_run (by rfl) (.tmp 45) (.tmp 47) 40 rfl _ _ _ rfl rfl hrun9 ?_
              refine hK.out _ _ ?_ (fun hH => ?_)
              · exact hk9
              clear hK K
              try simp only [pt]
              refine tkH 10 ?_ ?_ ?_
              rotate_left
              · intro w h; try dsimp only at h
                obtain ⟨q0, q1, q2⟩ := h; go_simp; all_goals with_reducible rfl
              try simp only [pt]
              refine tkH 11 ?_ ?_ ?_
              rotate_left
              · intro w h; try dsimp only at h
                obtain ⟨q0, q1, q2⟩ := h; go_simp; all_goals with_reducible rfl
              try simp only [pt]
              refine wpAnyH_ready (rs := [12]) (by kernel_rfl) (by simp) ?_
              refine rdH (fun K hK => ?_) ?_
              · have hrb9 := (HRB2.out.next HB8.out).setnew HRBb.out 2 (.slice a2 (rs.length + 1) c2)
                have hs9 : (w8.setCell ⟨b, 2, none⟩ (.slice a2 (rs.length + 1) c2)).cell? ⟨rb, 0, none⟩ = some (.int .i64 o) ∧ (w8.setCell ⟨b, 2, none⟩ (.slice a2 (rs.length + 1) c2)).cell? ⟨rb, 1, none⟩ = some (.int .i64 N) ∧ (w8.setCell ⟨b, 2, none⟩ (.slice a2 (rs.length + 1) c2)).cell? ⟨rb, 2, none⟩ = some (.slice a' us.length c') := ⟨hrb9.c0, hrb9.c1, hrb9.c2⟩
                have gb := (HJ2.out.next HB8.out).f0 2
                clear hrb9
                go_simp
                refine hK.out _ _ ?_ (fun hH => ?_)
                · exact hs9
                clear hK K
                try simp only [pt]
                refine wpAnyH_done (by kernel_rfl) ?_ _
                obtain ⟨d0, d1, d2⟩ := hs9
                have hr9 := (HR2.out.next HB8.out).setnew HRB0.out 2 (.slice a2 (rs.length + 1) c2)
                have g0' := hr9.c0
                have g1' := hr9.c1
                have g2' := hr9.c2
                have f0 := hr9.f0 0
                have f1 := hr9.f0 1
                have f2 := hr9.f0 2
                have h0' := ((hr9.set0 o).set1 N).set2 a' us.length c'
                have k0' := h0'.c0
                have k1' := h0'.c1
                have k2' := h0'.c2
                obtain ⟨F', x1, x2, x3, x4⟩ := d_done (x0 := .int .i64 o) (x1 := .int .i64 N) (x2 := .slice a' us.length c') HJ.out HO.out HS.out HSM.out (by decide) (by decide) HA2.out HLT.out ⟨_, HR2.out⟩ HRU2.out (by rw [← HN.out, HO.out.len]) HB8.out HROW2.out
                have HX := Lib.hid (And.intro x1 (And.intro x2 (And.intro x3 x4)))
                clear hr9 h0' x1 x2 x3 x4 HK7
                go_wp2
                refine bodyPost_ret (v := .tuple #[.agg #[.int .i64 o, .int .i64 N, .slice a' us.length c'], .int .i64 0]) (by simp [results, Tryd.results57, go_sem, k0', k1', k2']) rfl ⟨⟨o, N, a', us.length, c', us⟩, F', rfl, HX.out.1, HX.out.2.1, HX.out.2.2.1, HX.out.2.2.2, rfl, rfl, rfl⟩
              exact AllReadyH.nil
            exact AllReadyH.nil
          exact AllReadyH.nil
        exact AllReadyH.nil
      refine rdH (fun K hK => ?_) ?_
      · go_simp
        refine hK.out _ _ ?_ (fun hH => ?_)
        · exact hk1
        clear hK K
        try simp only [pt]
        refine wpAnyH_ready (rs := [1]) (by kernel_rfl) (by simp) ?_
        refine rdH (fun K hK => ?_) ?_
        · go_simp
          have HB2 : Hid (Below w2.heap.size w2 ((w2.drew.alloc (.cells #[.int .i64 o, .int .i64 N, .slice a' us.length c'] 35)).alloc (.cells #[] 35))) := Lib.hid (Below.step HB1.out (.cells #[] 35) (Below.refl _ _))
          obtain ⟨hk2, ck2'⟩ := HK7.out _ HB2.out
          have ck2 : ((w2.alloc (.cells #[.int .i64 o, .int .i64 N, .slice a' us.length c'] 35)).alloc (.cells #[] 35)).cell? ⟨b, 2, none⟩ = some (.slice ax rs.length c) := ck2'
          clear ck2'
          have HROW : Hid (RowR w2.heap.size ((w2.drew.alloc (.cells #[.int .i64 o, .int .i64 N, .slice a' us.length c'] 35)).alloc (.cells #[] 35)) (.slice (some ⟨w2.heap.size + 1, 0, none⟩) 0 0) []) := Lib.hid (by
            have := (rowR_new (w2.drew.alloc (.cells #[.int .i64 o, .int .i64 N, .slice a' us.length c'] 35))).lower (show w2.heap.size ≤ (w2.drew.alloc (.cells #[.int .i64 o, .int .i64 N, .slice a' us.length c'] 35)).heap.size by simp)
            rw [show (w2.drew.alloc (.cells #[.int .i64 o, .int .i64 N, .slice a' us.length c'] 35)).heap.size = w2.heap.size + 1 by simp] at this
            exact this)
          have HONE := Lib.hid (rsOne_kept (q := w2.heap.size + 1) (w5 := ((w2.drew.alloc (.cells #[.int .i64 o, .int .i64 N, .slice a' us.length c'] 35)).alloc (.cells #[] 35))) HONE.out (fun k hk _ => Below.heap_alloc _ _ _ hk) (by omega))
          refine hK.out _ _ ?_ (fun hH => ?_)
          · exact hk2
          clear hK K
          try simp only [pt]
          refine wpAnyH_ready (rs := [6]) (by kernel_rfl) (by simp) ?_
          refine rdH (fun K hK => ?_) ?_
          · obtain ⟨a1, c1', w6, hrun, HROW1, HB3, HKP6⟩ := d7_app0 40 HJ2.out HB2.out HROW.out hn
            obtain ⟨hk3, ck3'⟩ := HK7.out _ HB3.out
            have ck3 : w6.cell? ⟨b, 2, none⟩ = some (.slice ax rs.length c) := ck3'
            clear ck3'
            have HONE := Lib.hid (rsOne_kept HONE.out HKP6.out (by omega))
            refine step_append_run (by rfl) (.tmp 40) (.tmp 44) 40 rfl _ _ _ rfl rfl hrun ?_
            refine hK.out _ _ ?_ (fun hH => ?_)
            · exact hk3
            clear hK K
            try simp only [pt]
            refine wpAnyH_ready (rs := [9]) (by kernel_rfl) (by simp) ?_
            refine rdH (fun K hK => ?_) ?_
            · obtain ⟨a2, c2, w8, hrun9, HROW2, HB8⟩ := d7_app1 40 HB3.out HROW1.out HONE.out hn
              obtain ⟨hk9, ck9⟩ := HK7.out _ HB8.out
              refine step_append_run (by rfl) (.tmp 45) (.tmp 47) 40 rfl _ _ _ rfl rfl hrun9 ?_
              refine hK.out _ _ ?_ (fun hH => ?_)
              · exact hk9
              clear hK K
              try simp only [pt]
              refine tkH 10 ?_ ?_ ?_
              rotate_left
              · intro w h; try dsimp only at h
                obtain ⟨q0, q1, q2⟩ := h; go_simp; all_goals with_reducible rfl
              try simp only [pt]
              refine tkH 11 ?_ ?_ ?_
              rotate_left
              · intro w h; try dsimp only at h
                obtain ⟨q0, q1, q2⟩ := h; go_simp; all_goals with_reducible rfl
              try simp only [pt]
              refine wpAnyH_ready (rs := [12]) (by kernel_rfl) (by simp) ?_
              refine rdH (fun K hK => ?_) ?_
              · have hrb9 := (HRB2.out.next HB8.out).setnew HRBb.out 2 (.slice a2 (rs.length + 1) c2)
                have hs9 : (w8.setCell ⟨b, 2, none⟩ (.slice a2 (rs.length + 1) c2)).cell? ⟨rb, 0, none⟩ = some (.int .i64 o) ∧ (w8.setCell ⟨b, 2, none⟩ (.slice a2 (rs.length + 1) c2)).cell? ⟨rb, 1, none⟩ = some (.int .i64 N) ∧ (w8.setCell ⟨b, 2, none⟩ (.slice a2 (rs.length + 1) c2)).cell? ⟨rb, 2, none⟩ = some (.slice a' us.length c') := ⟨hrb9.c0, hrb9.c1, hrb9.c2⟩
                have gb := (HJ2.out.next HB8.out).f0 2
                clear hrb9
                go_simp
                refine hK.out _ _ ?_ (fun hH => ?_)
                · exact hs9
                clear hK K
                try simp only [pt]
                refine wpAnyH_done (by kernel_rfl) ?_ _
                obtain ⟨d0, d1, d2⟩ := hs9
                have hr9 := (HR2.out.next HB8.out).setnew HRB0.out 2 (.slice a2 (rs.length + 1) c2)
                have g0' := hr9.c0
                have g1' := hr9.c1
                have g2' := hr9.c2
                have f0 := hr9.f0 0
                have f1 := hr9.f0 1
                have f2 := hr9.f0 2
                have h0' := ((hr9.set0 o).set1 N).set2 a' us.length c'
                have k0' := h0'.c0
                have k1' := h0'.c1
                have k2' := h0'.c2
                obtain ⟨F', x1, x2, x3, x4⟩ := d_done (x0 := .int .i64 o) (x1 := .int .i64 N) (x2 := .slice a' us.length c') HJ.out HO.out HS.out HSM.out (by decide) (by decide) HA2.out HLT.out ⟨_, HR2.out⟩ HRU2.out (by rw [← HN.out, HO.out.len]) HB8.out HROW2.out
                have HX := Lib.hid (And.intro x1 (And.intro x2 (And.intro x3 x4)))
                clear hr9 h0' x1 x2 x3 x4 HK7
                go_wp2
                refine bodyPost_ret (v := .tuple #[.agg #[.int .i64 o, .int .i64 N, .slice a' us.length c'], .int .i64 0]) (by simp [results, Tryd.results57, go_sem, k0', k1', k2']) rfl ⟨⟨o, N, a', us.length, c', us⟩, F', rfl, HX.out.1, HX.out.2.1, HX.out.2.2.1, HX.out.2.2.2, rfl, rfl, rfl⟩
              exact AllReadyH.nil
            exact AllReadyH.nil
          exact AllReadyH.nil
        exact AllReadyH.nil
      exact AllReadyH.nil
    exact AllReadyH.nil
end
end Go.Proofs.YtbbgibekplfacaaDoor
