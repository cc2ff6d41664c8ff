/- The program's Take. -/
import Derived.Test.YtbbgibekplfacaaDoorRH
import Derived.Test.YtbbgibekplfacaaDoorN6
namespace Go.Proofs.YtbbgibekplfacaaDoor
open Go Go.RowKit
set_option maxRecDepth 20000
theorem jat_any {B b : Nat} {F : Nat → Prop} {o last : Int} {uss : List (List Up)} (k : Nat) (w : World) (h : Jx 94 B w b F o last uss) :
    Calls Tryd.prog 53 #[.pointer (some ⟨b, 0, none⟩), .int .i64 (k : Int)] w fun e w' => ∃ r, e = .returned (.tuple #[rv r, .bool (decide (k < uss.length))]) ∧ (k < uss.length → r.n = ((k + 1 : Nat) : Int)) ∧ Below w.heap.size w w' := by
  by_cases hk : k < uss.length
  · rw [decide_eq_true hk]
    exact (jat_in k hk w h).mono fun e w' ⟨r, h1, _, _, h2, _, h3⟩ => ⟨r, h1, fun _ => h2, h3⟩
  · rw [decide_eq_false hk]
    exact (jat_out (k : Int) (.inr (by omega)) w h).mono fun e w' ⟨h1, h2⟩ => ⟨rn0, h1, fun h => absurd h hk, h2⟩
/-- How it stands when Take returns: W ahead of the copy, w3 behind it, w5 behind the append. -/
theorem take_done {B b jb : Nat} {W w3 w5 : World} {FJ S : Nat → Prop} {vo : Value} {ax a' : Option Addr} {cp c' : Nat} {rs : List Rn} {s : Cs} {o n : Int} {us : List Up} {O : Obj}
    (h : Pq B W b jb FJ (.slice ax rs.length cp) S rs vo s) (hb3 : Below W.heap.size W w3) (hrw : Rw w3 (W.heap.size + 2) us)
    (hrow : RowR B w5 (.slice a' (rs.length + 1) c') (rs ++ [⟨o, n, some ⟨W.heap.size + 2, 0, none⟩, us.length, us.length, us⟩])) (hgr : (w3.alloc O).grownBy w5 (Value.slice ax rs.length cp).ownBlock) (hown : (Value.slice a' (rs.length + 1) c').ownBlock = (Value.slice ax rs.length cp).ownBlock ∨ ∃ j, (Value.slice a' (rs.length + 1) c').ownBlock = some j ∧ W.heap.size ≤ j) :
    ∃ F', Pk B (w5.setCell ⟨b, 4, none⟩ (.slice a' (rs.length + 1) c')) b F' { s with kn := s.kn ++ [(o, n, us)] } ∧ Lv W (w5.setCell ⟨b, 4, none⟩ (.slice a' (rs.length + 1) c')) (Pf b (.slice ax rs.length cp) S FJ vo) ∧ ∀ x, F' x → Pf b (.slice ax rs.length cp) S FJ vo x ∨ W.heap.size ≤ x := by
  have hlo : B ≤ W.heap.size + 2 := by have := h.kn.lo; have := h.lt; omega
  have hf := com_fin h.kn hb3 (r := ⟨o, n, some ⟨W.heap.size + 2, 0, none⟩, us.length, us.length, us⟩) ⟨hrw.is, Nat.le_refl _, fun e => by cases e⟩ rfl hlo ⟨_, hrw⟩ (by decide) (by decide) O 4 hrow hgr
  have hl : Lv W (w5.setCell ⟨b, 4, none⟩ (.slice a' (rs.length + 1) c')) (Jf b (.slice ax rs.length cp) S) := com_left hb3 hgr
  have hft : ∀ x, Jf b (.slice a' (rs.length + 1) c') (fun k => S k ∨ k = W.heap.size + 2) x → Jf b (.slice ax rs.length cp) S x ∨ W.heap.size ≤ x := fun x hx => com_foot (Nat.le_add_right _ 2) hown x hx
  refine ⟨_, ⟨jb, FJ, _, _, _, vo, ⟨hf, ?_, h.jx.other hl fun x hx hj => h.ap x hj hx, h.op.keep fun x hx => hl.block x (h.foot x (.inr (.inr hx))).2 (h.ao x hx).1, fun x hx hj => ?_, fun x hx => ⟨fun hj => ?_, (h.ao x hx).2⟩⟩, rfl⟩, ⟨hl.os, hl.tape, hl.output, hl.size, fun x hx hn => hl.block x hx fun hj => hn (.inl hj)⟩, fun x hx => ?_⟩
  · rw [List.map_append, h.mp]
    rfl
  · rcases hft x hx with hy | hy
    · exact h.ap x hy hj
    · have := (h.jx.foot x hj).2
      omega
  · rcases hft x hj with hy | hy
    · exact (h.ao x hx).1 hy
    · have := (h.foot x (.inr (.inr hx))).2
      omega
  · rcases hx with hx | hx | hx
    · rcases hft x hx with hy | hy
      · exact .inl (.inl hy)
      · exact .inr hy
    · exact .inl (.inr (.inl hx))
    · exact .inl (.inr (.inr hx))
theorem pq_taken {B b jb : Nat} {w : World} {FJ S : Nat → Prop} {v vo : Value} {rs : List Rn} {s : Cs} (h : Pq B w b jb FJ v S rs vo s) (k' : Nat) : Pq B (w.setCell ⟨b, 5, none⟩ (.int .i64 (k' : Int))) b jb FJ v S rs vo { s with k := k' } :=
  ⟨h.kn.set (by decide) (by decide) 5 _, h.mp, h.jx.setnew (h.ap b (.inl rfl)) _ _, h.op.keep fun x hx => Below.heap_setCell _ _ _ _ fun e => (h.ao x hx).1 (e ▸ .inl rfl), h.ap, h.ao⟩
theorem take_no {s : Cs} {r : Cr} (h : ¬ s.takeE r = 0) : s.take r = s := by
  unfold Cs.take
  rw [if_neg h]
theorem no_us {B b jb off len : Nat} {w : World} {FJ S : Nat → Prop} {ax : Option Addr} {lx cx : Nat} {vo : Value} {rs : List Rn} {s : Cs} {us : List Up} (h : Pq B w b jb FJ (.slice ax lx cx) S rs vo s) (hu : IsUs w (some ⟨b, off, none⟩) len us) (h0 : 0 < len) : False := by
  obtain ⟨a, c, rfl, _⟩ := h.op.is
  obtain ⟨b', off', e, hf⟩ := hu.lies h0
  cases e
  have hk := hf.key 0 (by rw [hu.size]; exact h0)
  have hb := h.kn.blk
  simp only [World.cell?, hb, Nat.zero_mul, Nat.add_zero, pcs] at hk
  rcases (show off = 0 ∨ off = 1 ∨ off = 2 ∨ off = 3 ∨ off = 4 ∨ off = 5 ∨ off = 6 ∨ 7 ≤ off by omega) with rfl | rfl | rfl | rfl | rfl | rfl | rfl | h3
  all_goals first
    | (simp at hk; done)
    | (rw [Array.getElem?_eq_none (by simpa using h3)] at hk; simp at hk)
theorem take_rb {b : Nat} {W w3 w5 : World} {S : Nat → Prop} {v x : Value} {O : Obj} {i k l c : Nat} {o n : Int} {a : Option Addr} (hb3 : Below W.heap.size W w3) (hgr : (w3.alloc O).grownBy w5 v.ownBlock) (hr : Rb W k o n a l c) (hk : ¬ Jf b v S k) (hkb : k ≠ b) :
    Rb w3 k o n a l c ∧ Rb (w3.alloc O) k o n a l c ∧ Rb w5 k o n a l c ∧ Rb (w5.setCell ⟨b, i, none⟩ x) k o n a l c := by
  have h3 := hr.next hb3
  have h4 := h3.alloc O
  have h5 := h4.kept hgr fun e => hk (.inr (.inl e.symm))
  exact ⟨h3, h4, h5, h5.setnew hkb _ _⟩
section
variable {B b : Nat} {F : Nat → Prop} {s : Cs}
set_option maxHeartbeats 8000000 in
theorem ctake_other (hn : s.kn.length ≤ 1000) (o n : Int) (a : Option Addr) (cap : Nat) (us : List Up) (hsm : Sm us) (ho : ¬ o = s.o) (w : World) (hu : IsUs w a us.length us) (h : Pk B w b F s) :
    Calls Tryd.prog 26 #[.pointer (some ⟨b, 0, none⟩), .agg #[.int .i64 o, .int .i64 n, .slice a us.length cap]] w fun e w' => e = .returned (.int .i64 0) ∧ ∃ F', PkW B w w' b F F' { s with kn := s.kn ++ [(o, n, us)] } := by
  have hA := Joins.below_alloc1 w (.cells #[.int .i64 o, .int .i64 n, .slice a us.length cap] 35)
  have hr := Rb.new w o n a us.length cap
  have d0 := hr.c0
  have d1 := hr.c1
  have d2 := hr.c2
  obtain ⟨jb, FJ, v, S, rs, vo, hq, rfl⟩ := h
  obtain ⟨ax, cp, rfl, _⟩ := hq.kn.is
  have c1 := (hq.next hA).c1
  have HA := Lib.hid hA
  have HQ := Lib.hid hq
  have HU := Lib.hid hu
  have HR := Lib.hid hr
  have HLT := Lib.hid hq.lt
  have HSZ : Hid ((w.alloc (.cells #[.int .i64 o, .int .i64 n, .slice a us.length cap] 35)).heap.size = w.heap.size + 1) := Lib.hid (by simp)
  have HC := fun W hu' => Lib.hid (rndcopy_any o n a us.length cap us (by have := hsm.1; omega) (fun j hj => hsm.2 j hj) W hu')
  have HRL1 : Hid (rs.length ≤ 1000) := Lib.hid (by rw [← hq.mp, List.length_map] at hn; exact hn)
  have q1 : (o == s.o) = false := beq_false_of_ne ho
  clear hq hA hr hu ho hn hsm
  go_enter Tryd.func26, Tryd.ntmps26
  go_wp2_with fail
  go_quiet (fail)
  revert nq
  intro n1
  go_upto_region 6 with fail
  generalize hX : (w.alloc (.cells #[.int .i64 o, .int .i64 n, .slice a us.length cap] 35)).drewN n1 = X at *
  have HX0 : Hid (Below w.heap.size w X) := by
    have := belN HA.out n1
    refine Lib.hid ?_
    rw [← hX]
    exact this
  have HXR : Hid (Rb X w.heap.size o n a us.length cap) := by
    have := HR.out.drewN n1
    refine Lib.hid ?_
    rw [← hX]
    exact this
  have HXS : Hid (X.heap.size = w.heap.size + 1) := by
    refine Lib.hid ?_
    rw [← hX]
    exact HSZ.out
  clear HA HR HSZ hX c1 d0 d1 d2
  have HQ6 := Lib.hid (HQ.out.next HX0.out)
  have HR6 := HXR
  have HU6 := Lib.hid (isUs_below HU.out HX0.out)
  have HL6 : Hid (Lv w X (Pf b (.slice ax rs.length cp) S FJ vo)) := Lib.hid (Lv.ofBelow HX0.out _)
  have HNF : Hid (¬ Jf b (.slice ax rs.length cp) S w.heap.size) := Lib.hid fun e => by have := (HQ.out.kn.foot _ e).2; omega
  have HNB : Hid (w.heap.size ≠ b) := Lib.hid (by have := HLT.out; omega)
  clear HQ HU HX0 HXR HXS
  generalize X = W at *
  have hrb6 := HR6.out
  have d0 := hrb6.c0
  have d1 := hrb6.c1
  have d2 := hrb6.c2
  have c4 := HQ6.out.c4
  have f4 := HQ6.out.f0 4
  clear hrb6
  go_wp2_with fail
  refine wp_region_held_drew (S := fun w' => w'.cell? ⟨w.heap.size, 0, none⟩ = some (.int .i64 o) ∧ w'.cell? ⟨w.heap.size, 1, none⟩ = some (.int .i64 n) ∧ w'.cell? ⟨w.heap.size, 2, none⟩ = some (.slice a us.length cap)) (by kernel_rfl) ?_ (fun hH => ?_)
  · exact ⟨d0, d1, d2⟩
  refine tkH 0 ?_ ?_ ?_
  rotate_left
  · intro w h; try dsimp only at h
    obtain ⟨q0, q1, q2⟩ := h; go_simp; all_goals with_reducible rfl
  try simp only [pt]
  refine tkH 1 ?_ ?_ ?_
  rotate_left
  · intro w h; try dsimp only at h
    obtain ⟨q0, q1, q2⟩ := h; go_simp; all_goals with_reducible rfl
  try simp only [pt]
  refine tkH 2 ?_ ?_ ?_
  rotate_left
  · intro w h; try dsimp only at h
    obtain ⟨q0, q1, q2⟩ := h; go_simp; all_goals with_reducible rfl
  try simp only [pt]
  refine tkH 3 ?_ ?_ ?_
  rotate_left
  · intro w h; try dsimp only at h
    obtain ⟨q0, q1, q2⟩ := h; go_simp; all_goals with_reducible rfl
  try simp only [pt]
  refine tkH 5 ?_ ?_ ?_
  rotate_left
  · intro w h; try dsimp only at h
    obtain ⟨q0, q1, q2⟩ := h; go_simp; all_goals with_reducible rfl
  try simp only [pt]
  refine wpAnyH_ready (rs := [4, 6]) (by kernel_rfl) (by simp) ?_
  refine rdH (fun K hK => ?_) ?_
  · go_simp
    refine hK.out _ _ ?_ (fun hH => ?_)
    · exact ⟨d0, d1, d2⟩
    clear hK K
    try simp only [pt]
    refine wpAnyH_ready (rs := [6]) (by kernel_rfl) (by simp) ?_
    refine rdH (fun K hK => ?_) ?_
    · go_simp
      refine (HC W.drew (isUs_same HU6.out fun _ _ _ => rfl)).out.mono ?_
      rintro e w3 ⟨rfl, hrw, hb3'⟩
      have hb3 : Below W.heap.size W w3 := ⟨hb3'.os, hb3'.tape, hb3'.output, hb3'.size, hb3'.block⟩
      obtain ⟨a', c', w5, hrun, HROW, HGR, HOWN, e5, g5, e3, e4, HKP⟩ := com_app HQ6.out.kn (Below.refl W.heap.size W) hb3 ⟨o, n, some ⟨W.heap.size + 2, 0, none⟩, us.length, us.length, us⟩ (by decide) HRL1.out 40 4 rfl
      obtain ⟨y3, y4, y5, y6⟩ := (show Rb w3 w.heap.size o n a us.length cap ∧ Rb (w3.alloc (.cells #[.int .i64 o, .int .i64 n, .slice (some ⟨W.heap.size + 2, 0, none⟩) us.length us.length] 35)) w.heap.size o n a us.length cap ∧ Rb w5 w.heap.size o n a us.length cap ∧ Rb (w5.setCell ⟨b, 4, none⟩ (.slice a' (rs.length + 1) c')) w.heap.size o n a us.length cap from take_rb hb3 HGR.out HR6.out HNF.out HNB.out)
      have z3 : w3.cell? ⟨w.heap.size, 0, none⟩ = some (.int .i64 o) ∧ w3.cell? ⟨w.heap.size, 1, none⟩ = some (.int .i64 n) ∧ w3.cell? ⟨w.heap.size, 2, none⟩ = some (.slice a us.length cap) := ⟨y3.c0, y3.c1, y3.c2⟩
      have z4 : (w3.alloc (.cells #[.int .i64 o, .int .i64 n, .slice (some ⟨W.heap.size + 2, 0, none⟩) us.length us.length] 35)).cell? ⟨w.heap.size, 0, none⟩ = some (.int .i64 o) ∧ (w3.alloc (.cells #[.int .i64 o, .int .i64 n, .slice (some ⟨W.heap.size + 2, 0, none⟩) us.length us.length] 35)).cell? ⟨w.heap.size, 1, none⟩ = some (.int .i64 n) ∧ (w3.alloc (.cells #[.int .i64 o, .int .i64 n, .slice (some ⟨W.heap.size + 2, 0, none⟩) us.length us.length] 35)).cell? ⟨w.heap.size, 2, none⟩ = some (.slice a us.length cap) := ⟨y4.c0, y4.c1, y4.c2⟩
      have z5 : w5.cell? ⟨w.heap.size, 0, none⟩ = some (.int .i64 o) ∧ w5.cell? ⟨w.heap.size, 1, none⟩ = some (.int .i64 n) ∧ w5.cell? ⟨w.heap.size, 2, none⟩ = some (.slice a us.length cap) := ⟨y5.c0, y5.c1, y5.c2⟩
      have z6 : (w5.setCell ⟨b, 4, none⟩ (.slice a' (rs.length + 1) c')).cell? ⟨w.heap.size, 0, none⟩ = some (.int .i64 o) ∧ (w5.setCell ⟨b, 4, none⟩ (.slice a' (rs.length + 1) c')).cell? ⟨w.heap.size, 1, none⟩ = some (.int .i64 n) ∧ (w5.setCell ⟨b, 4, none⟩ (.slice a' (rs.length + 1) c')).cell? ⟨w.heap.size, 2, none⟩ = some (.slice a us.length cap) := ⟨y6.c0, y6.c1, y6.c2⟩
      have HRW : Hid (Rw w3 (W.heap.size + 2) us) := Lib.hid hrw
      have HB3 := Lib.hid hb3
      clear hb3 hb3' hrw y3 y4 y5 y6
      go_wp2_with fail
      refine hK.out _ _ ?_ (fun hH => ?_)
      · exact z3
      clear hK K
      try simp only [pt]
      refine wpAnyH_ready (rs := [7]) (by kernel_rfl) (by simp) ?_
      refine rdH (fun K hK => ?_) ?_
      · go_simp
        refine hK.out _ _ ?_ (fun hH => ?_)
        · exact z4
        clear hK K
        try simp only [pt]
        refine wpAnyH_ready (rs := [8]) (by kernel_rfl) (by simp) ?_
        refine rdH (fun K hK => ?_) ?_
        · refine step_append_run (by rfl) (.tmp 44) (.tmp 47) 40 rfl _ _ _ rfl rfl hrun ?_
          refine hK.out _ _ ?_ (fun hH => ?_)
          · exact z5
          clear hK K
          try simp only [pt]
          refine tkH 9 ?_ ?_ ?_
          rotate_left
          · intro w h; try dsimp only at h
            obtain ⟨q0, q1, q2⟩ := h; go_simp; all_goals with_reducible rfl
          try simp only [pt]
          refine tkH 10 ?_ ?_ ?_
          rotate_left
          · intro w h; try dsimp only at h
            obtain ⟨q0, q1, q2⟩ := h; go_simp; all_goals with_reducible rfl
          try simp only [pt]
          refine wpAnyH_ready (rs := [11]) (by kernel_rfl) (by simp) ?_
          refine rdH (fun K hK => ?_) ?_
          · go_simp
            refine hK.out _ _ ?_ (fun hH => ?_)
            · exact z6
            clear hK K
            try simp only [pt]
            refine wpAnyH_done (by kernel_rfl) ?_ _
            obtain ⟨F', x1, x2, x3⟩ := take_done HQ6.out HB3.out HRW.out HROW.out HGR.out HOWN.out
            have HX := Lib.hid (And.intro x1 (And.intro x2 x3))
            clear z3 z4 z5 z6 e3 e4 e5 g5 hrun HKP x1 x2 x3
            go_wp2
            go_ret
            exact ⟨rfl, F', HX.out.1, HL6.out.trans HX.out.2.1, fun x hx => by
              rcases HX.out.2.2 x hx with hy | hy
              · exact .inl hy
              · exact .inr (by have := HL6.out.size; omega)⟩
          exact AllReadyH.nil
        exact AllReadyH.nil
      exact AllReadyH.nil
    exact AllReadyH.nil
  refine rdH (fun K hK => ?_) ?_
  · go_simp
    refine (HC W.drew (isUs_same HU6.out fun _ _ _ => rfl)).out.mono ?_
    rintro e w3 ⟨rfl, hrw, hb3'⟩
    have hb3 : Below W.heap.size W w3 := ⟨hb3'.os, hb3'.tape, hb3'.output, hb3'.size, hb3'.block⟩
    obtain ⟨a', c', w5, hrun, HROW, HGR, HOWN, e5, g5, e3, e4, HKP⟩ := com_app HQ6.out.kn (Below.refl W.heap.size W) hb3 ⟨o, n, some ⟨W.heap.size + 2, 0, none⟩, us.length, us.length, us⟩ (by decide) HRL1.out 40 4 rfl
    obtain ⟨y3, y4, y5, y6⟩ := (show Rb w3 w.heap.size o n a us.length cap ∧ Rb (w3.alloc (.cells #[.int .i64 o, .int .i64 n, .slice (some ⟨W.heap.size + 2, 0, none⟩) us.length us.length] 35)) w.heap.size o n a us.length cap ∧ Rb w5 w.heap.size o n a us.length cap ∧ Rb (w5.setCell ⟨b, 4, none⟩ (.slice a' (rs.length + 1) c')) w.heap.size o n a us.length cap from take_rb hb3 HGR.out HR6.out HNF.out HNB.out)
    have z3 : w3.cell? ⟨w.heap.size, 0, none⟩ = some (.int .i64 o) ∧ w3.cell? ⟨w.heap.size, 1, none⟩ = some (.int .i64 n) ∧ w3.cell? ⟨w.heap.size, 2, none⟩ = some (.slice a us.length cap) := ⟨y3.c0, y3.c1, y3.c2⟩
    have z4 : (w3.alloc (.cells #[.int .i64 o, .int .i64 n, .slice (some ⟨W.heap.size + 2, 0, none⟩) us.length us.length] 35)).cell? ⟨w.heap.size, 0, none⟩ = some (.int .i64 o) ∧ (w3.alloc (.cells #[.int .i64 o, .int .i64 n, .slice (some ⟨W.heap.size + 2, 0, none⟩) us.length us.length] 35)).cell? ⟨w.heap.size, 1, none⟩ = some (.int .i64 n) ∧ (w3.alloc (.cells #[.int .i64 o, .int .i64 n, .slice (some ⟨W.heap.size + 2, 0, none⟩) us.length us.length] 35)).cell? ⟨w.heap.size, 2, none⟩ = some (.slice a us.length cap) := ⟨y4.c0, y4.c1, y4.c2⟩
    have z5 : w5.cell? ⟨w.heap.size, 0, none⟩ = some (.int .i64 o) ∧ w5.cell? ⟨w.heap.size, 1, none⟩ = some (.int .i64 n) ∧ w5.cell? ⟨w.heap.size, 2, none⟩ = some (.slice a us.length cap) := ⟨y5.c0, y5.c1, y5.c2⟩
    have z6 : (w5.setCell ⟨b, 4, none⟩ (.slice a' (rs.length + 1) c')).cell? ⟨w.heap.size, 0, none⟩ = some (.int .i64 o) ∧ (w5.setCell ⟨b, 4, none⟩ (.slice a' (rs.length + 1) c')).cell? ⟨w.heap.size, 1, none⟩ = some (.int .i64 n) ∧ (w5.setCell ⟨b, 4, none⟩ (.slice a' (rs.length + 1) c')).cell? ⟨w.heap.size, 2, none⟩ = some (.slice a us.length cap) := ⟨y6.c0, y6.c1, y6.c2⟩
    have HRW : Hid (Rw w3 (W.heap.size + 2) us) := Lib.hid hrw
    have HB3 := Lib.hid hb3
    clear hb3 hb3' hrw y3 y4 y5 y6
    go_wp2_with fail
    refine hK.out _ _ ?_ (fun hH => ?_)
    · exact z3
    clear hK K
    try simp only [pt]
    refine wpAnyH_ready (rs := [4, 7]) (by kernel_rfl) (by simp) ?_
    refine rdH (fun K hK => ?_) ?_
    · go_simp
      refine hK.out _ _ ?_ (fun hH => ?_)
      · exact z3
      clear hK K
      try simp only [pt]
      refine wpAnyH_ready (rs := [7]) (by kernel_rfl) (by simp) ?_
      refine rdH (fun K hK => ?_) ?_
      · go_simp
        refine hK.out _ _ ?_ (fun hH => ?_)
        · exact z4
        clear hK K
        try simp only [pt]
        refine wpAnyH_ready (rs := [8]) (by kernel_rfl) (by simp) ?_
        refine rdH (fun K hK => ?_) ?_
        · refine step_append_run (by rfl) (.tmp 44) (.tmp 47) 40 rfl _ _ _ rfl rfl hrun ?_
          refine hK.out _ _ ?_ (fun hH => ?_)
          · exact z5
          clear hK K
          try simp only [pt]
          refine tkH 9 ?_ ?_ ?_
          rotate_left
          · intro w h; try dsimp only at h
            obtain ⟨q0, q1, q2⟩ := h; go_simp; all_goals with_reducible rfl
          try simp only [pt]
          refine tkH 10 ?_ ?_ ?_
          rotate_left
          · intro w h; try dsimp only at h
            obtain ⟨q0, q1, q2⟩ := h; go_simp; all_goals with_reducible rfl
          try simp only [pt]
          refine wpAnyH_ready (rs := [11]) (by kernel_rfl) (by simp) ?_
          refine rdH (fun K hK => ?_) ?_
          · go_simp
            refine hK.out _ _ ?_ (fun hH => ?_)
            · exact z6
            clear hK K
            try simp only [pt]
            refine wpAnyH_done (by kernel_rfl) ?_ _
            obtain ⟨F', x1, x2, x3⟩ := take_done HQ6.out HB3.out HRW.out HROW.out HGR.out HOWN.out
            have HX := Lib.hid (And.intro x1 (And.intro x2 x3))
            clear z3 z4 z5 z6 e3 e4 e5 g5 hrun HKP x1 x2 x3
            go_wp2
            go_ret
            exact ⟨rfl, F', HX.out.1, HL6.out.trans HX.out.2.1, fun x hx => by
              rcases HX.out.2.2 x hx with hy | hy
              · exact .inl hy
              · exact .inr (by have := HL6.out.size; omega)⟩
          exact AllReadyH.nil
        exact AllReadyH.nil
      exact AllReadyH.nil
    refine rdH (fun K hK => ?_) ?_
    · go_simp
      refine hK.out _ _ ?_ (fun hH => ?_)
      · exact z4
      clear hK K
      try simp only [pt]
      refine wpAnyH_ready (rs := [4]) (by kernel_rfl) (by simp) ?_
      refine rdH (fun K hK => ?_) ?_
      · go_simp
        refine hK.out _ _ ?_ (fun hH => ?_)
        · exact z4
        clear hK K
        try simp only [pt]
        refine wpAnyH_ready (rs := [8]) (by kernel_rfl) (by simp) ?_
        refine rdH (fun K hK => ?_) ?_
        · refine step_append_run (by rfl) (.tmp 44) (.tmp 47) 40 rfl _ _ _ rfl rfl hrun ?_
          refine hK.out _ _ ?_ (fun hH => ?_)
          · exact z5
          clear hK K
          try simp only [pt]
          refine tkH 9 ?_ ?_ ?_
          rotate_left
          · intro w h; try dsimp only at h
            obtain ⟨q0, q1, q2⟩ := h; go_simp; all_goals with_reducible rfl
          try simp only [pt]
          refine tkH 10 ?_ ?_ ?_
          rotate_left
          · intro w h; try dsimp only at h
            obtain ⟨q0, q1, q2⟩ := h; go_simp; all_goals with_reducible rfl
          try simp only [pt]
          refine wpAnyH_ready (rs := [11]) (by kernel_rfl) (by simp) ?_
          refine rdH (fun K hK => ?_) ?_
          · go_simp
            refine hK.out _ _ ?_ (fun hH => ?_)
            · exact z6
            clear hK K
            try simp only [pt]
            refine wpAnyH_done (by kernel_rfl) ?_ _
            obtain ⟨F', x1, x2, x3⟩ := take_done HQ6.out HB3.out HRW.out HROW.out HGR.out HOWN.out
            have HX := Lib.hid (And.intro x1 (And.intro x2 x3))
            clear z3 z4 z5 z6 e3 e4 e5 g5 hrun HKP x1 x2 x3
            go_wp2
            go_ret
            exact ⟨rfl, F', HX.out.1, HL6.out.trans HX.out.2.1, fun x hx => by
              rcases HX.out.2.2 x hx with hy | hy
              · exact .inl hy
              · exact .inr (by have := HL6.out.size; omega)⟩
          exact AllReadyH.nil
        exact AllReadyH.nil
      exact AllReadyH.nil
    exact AllReadyH.nil
  exact AllReadyH.nil
set_option maxHeartbeats 8000000 in
theorem ctake_none (o n : Int) (a : Option Addr) (cap : Nat) (us : List Up) (ho : o = s.o) (hk : ¬ s.k < s.uss.length) (w : World) (hu : IsUs w a us.length us) (h : Pk B w b F s) :
    Calls Tryd.prog 26 #[.pointer (some ⟨b, 0, none⟩), .agg #[.int .i64 o, .int .i64 n, .slice a us.length cap]] w fun e w' => e = .returned (.int .i64 10) ∧ Below w.heap.size w w' := by
  have hA := Joins.below_alloc1 w (.cells #[.int .i64 o, .int .i64 n, .slice a us.length cap] 35)
  have hr := Rb.new w o n a us.length cap
  have d0 := hr.c0
  have d1 := hr.c1
  have d2 := hr.c2
  obtain ⟨jb, FJ, v, S, rs, vo, hq, rfl⟩ := h
  obtain ⟨ax, cp, rfl, _⟩ := hq.kn.is
  have c1 := (hq.next hA).c1
  have HA := Lib.hid hA
  have HQ := Lib.hid hq
  have HU := Lib.hid hu
  have HR := Lib.hid hr
  have HLT := Lib.hid hq.lt
  have HSZ : Hid ((w.alloc (.cells #[.int .i64 o, .int .i64 n, .slice a us.length cap] 35)).heap.size = w.heap.size + 1) := Lib.hid (by simp)
  have q1 : (o == s.o) = true := beq_iff_eq.2 ho
  have HKF := Lib.hid hk
  clear hq hA hr hu ho hk
  go_enter Tryd.func26, Tryd.ntmps26
  go_wp2_with fail
  go_quiet (fail)
  revert nq
  intro n1
  go_upto_region 2 with fail
  generalize hX : (w.alloc (.cells #[.int .i64 o, .int .i64 n, .slice a us.length cap] 35)).drewN n1 = X at *
  have HX0 : Hid (Below w.heap.size w X) := by
    have := belN HA.out n1
    refine Lib.hid ?_
    rw [← hX]
    exact this
  have HXR : Hid (Rb X w.heap.size o n a us.length cap) := by
    have := HR.out.drewN n1
    refine Lib.hid ?_
    rw [← hX]
    exact this
  have HXS : Hid (X.heap.size = w.heap.size + 1) := by
    refine Lib.hid ?_
    rw [← hX]
    exact HSZ.out
  clear HA HR HSZ hX c1 d0 d1 d2
  have e0 : X.drew.cell? ⟨b, 0, none⟩ = some (.pointer (some ⟨jb, 0, none⟩)) := (HQ.out.next HX0.out).c0
  have e5 : X.drew.cell? ⟨b, 5, none⟩ = some (.int .i64 (s.k : Int)) := (HQ.out.next HX0.out).c5
  have HB0 : Hid (Below w.heap.size w X.drew) := Lib.hid HX0.out.drew
  have HRB0 := HXR
  go_wp2_with fail
  go_cut [5, 6] from 14 to 26 (fun v5 v6 wx => ∃ (rb : Nat) (r : Rn), v5 = .pointer (some ⟨rb, 0, none⟩) ∧ v6 = .bool (decide (s.k < s.uss.length)) ∧ Rb wx rb r.o r.n r.a r.len r.cap ∧ (s.k < s.uss.length → r.n = ((s.k + 1 : Nat) : Int)) ∧ Rb wx w.heap.size o n a us.length cap ∧ w.heap.size < rb ∧ Below w.heap.size w wx)
  case first =>
    refine wp_region_held_drew (S := fun w' => w'.cell? ⟨b, 0, none⟩ = some (.pointer (some ⟨jb, 0, none⟩)) ∧ w'.cell? ⟨b, 5, none⟩ = some (.int .i64 (s.k : Int))) (by kernel_rfl) ?_ (fun hH => ?_)
    · exact ⟨e0, e5⟩
    refine tkH 0 ?_ ?_ ?_
    rotate_left
    · intro w h; try dsimp only at h
      obtain ⟨q0, q5⟩ := h; go_simp; all_goals with_reducible rfl
    try simp only [pt]
    refine tkH 1 ?_ ?_ ?_
    rotate_left
    · intro w h; try dsimp only at h
      obtain ⟨q0, q5⟩ := h; go_simp; all_goals with_reducible rfl
    try simp only [pt]
    refine tkH 2 ?_ ?_ ?_
    rotate_left
    · intro w h; try dsimp only at h
      obtain ⟨q0, q5⟩ := h; go_simp; all_goals with_reducible rfl
    try simp only [pt]
    refine tkH 3 ?_ ?_ ?_
    rotate_left
    · intro w h; try dsimp only at h
      obtain ⟨q0, q5⟩ := h; go_simp; all_goals with_reducible rfl
    try simp only [pt]
    refine tkH 4 ?_ ?_ ?_
    rotate_left
    · intro w h; try dsimp only at h
      obtain ⟨q0, q5⟩ := h; go_simp; all_goals with_reducible rfl
    try simp only [pt]
    refine tkH 5 ?_ ?_ ?_
    rotate_left
    · intro w h; try dsimp only at h
      obtain ⟨q0, q5⟩ := h; go_simp; all_goals with_reducible rfl
    try simp only [pt]
    refine tkH 6 ?_ ?_ ?_
    rotate_left
    · intro w h; try dsimp only at h
      obtain ⟨q0, q5⟩ := h; go_simp; all_goals with_reducible rfl
    try simp only [pt]
    refine tkH 7 ?_ ?_ ?_
    rotate_left
    · intro w h; try dsimp only at h
      obtain ⟨q0, q5⟩ := h; go_simp; all_goals with_reducible rfl
    try simp only [pt]
    refine wpAnyH_ready (rs := [8, 12]) (by kernel_rfl) (by simp) ?_
    refine rdH (fun K hK => ?_) ?_
    · go_simp
      have hbW : Below w.heap.size w (X).drew := HB0.out
      refine (jat_any s.k (X).drew (HQ.out.next hbW).jx).mono ?_
      rintro e w2 ⟨r, rfl, hrn, hb'⟩
      have hb : Below (X).heap.size (X) w2 := ⟨hb'.os, hb'.tape, hb'.output, hb'.size, hb'.block⟩
      have hb2 := Below.next (HX0.out) hb
      have y0 := (HQ.out.next hb2).c0
      have y5 := (HQ.out.next hb2).c5
      have hrx2 := HRB0.out.next hb
      have HRX2 := Lib.hid hrx2
      have HB2 := Lib.hid hb2
      have HRN := Lib.hid hrn
      clear hb hb' hb2 hrx2 hrn hbW
      simp only [rv]
      go_wp2_with fail
      refine hK.out _ _ ?_ (fun hH => ?_)
      · exact ⟨y0, y5⟩
      clear hK K
      try simp only [pt]
      refine tkH 9 ?_ ?_ ?_
      rotate_left
      · intro w h; try dsimp only at h
        obtain ⟨q0, q5⟩ := h; go_simp; all_goals with_reducible rfl
      try simp only [pt]
      refine tkH 10 ?_ ?_ ?_
      rotate_left
      · intro w h; try dsimp only at h
        obtain ⟨q0, q5⟩ := h; go_simp; all_goals with_reducible rfl
      try simp only [pt]
      refine tkH 11 ?_ ?_ ?_
      rotate_left
      · intro w h; try dsimp only at h
        obtain ⟨q0, q5⟩ := h; go_simp; all_goals with_reducible rfl
      try simp only [pt]
      refine wpAnyH_ready (rs := [12]) (by kernel_rfl) (by simp) ?_
      refine rdH (fun K hK => ?_) ?_
      · have hb3 := Below.next HB2.out (Joins.below_alloc1 w2 (.cells #[.int .i64 0, .int .i64 0, .slice none 0 0] 35))
        have v0 := (HQ.out.next hb3).c0
        have v5 := (HQ.out.next hb3).c5
        have hb4 := Below.next HB2.out (Joins.below_alloc1 w2 (.cells #[.int .i64 r.o, .int .i64 r.n, .slice r.a r.len r.cap] 35))
        have u0 := (HQ.out.next hb4).c0
        have u5 := (HQ.out.next hb4).c5
        have HBX := Lib.hid hb4
        have HRV := Lib.hid (Rb.new w2 r.o r.n r.a r.len r.cap)
        have HRX := Lib.hid (HRX2.out.alloc (.cells #[.int .i64 r.o, .int .i64 r.n, .slice r.a r.len r.cap] 35))
        have HRL := Lib.hid HRX2.out.lt
        clear hb3 hb4
        go_simp
        refine hK.out _ _ ?_ (fun hH => ?_)
        · exact ⟨v0, v5⟩
        clear hK K
        try simp only [pt]
        refine wpAnyH_ready (rs := [13]) (by kernel_rfl) (by simp) ?_
        refine rdH (fun K hK => ?_) ?_
        · go_simp
          refine hK.out _ _ ?_ (fun hH => ?_)
          · exact ⟨u0, u5⟩
          clear hK K
          try simp only [pt]
          refine tkH 14 ?_ ?_ ?_
          rotate_left
          · intro w h; try dsimp only at h
            obtain ⟨q0, q5⟩ := h; go_simp; all_goals with_reducible rfl
          try simp only [pt]
          refine wpAnyH_done (by kernel_rfl) ?_ _
          clear u0 u5 v0 v5 y0 y5 e0 e5
          go_wp2_with fail
          go_meet
          case rel => exact ⟨_, r, rfl, rfl, HRV.out, HRN.out, HRX.out, HRL.out, HBX.out⟩
        exact AllReadyH.nil
      exact AllReadyH.nil
    refine rdH (fun K hK => ?_) ?_
    · have HB1 : Hid (Below w.heap.size w (X.alloc (.cells #[.int .i64 0, .int .i64 0, .slice none 0 0] 35))) := Lib.hid (Below.step (w1 := X) HX0.out (.cells #[.int .i64 0, .int .i64 0, .slice none 0 0] 35) (Below.refl _ _))
      have v0 := (HQ.out.next HB1.out).c0
      have v5 := (HQ.out.next HB1.out).c5
      have HRB1 : Hid (Rb (X.alloc (.cells #[.int .i64 0, .int .i64 0, .slice none 0 0] 35)) w.heap.size o n a us.length cap) := Lib.hid (Rb.alloc HXR.out (.cells #[.int .i64 0, .int .i64 0, .slice none 0 0] 35))
      have HRV1 : Hid (Rb (X.alloc (.cells #[.int .i64 0, .int .i64 0, .slice none 0 0] 35)) X.heap.size 0 0 none 0 0) := Lib.hid (Rb.new X 0 0 none 0 0)
      go_simp
      refine hK.out _ _ ?_ (fun hH => ?_)
      · exact ⟨v0, v5⟩
      clear hK K
      try simp only [pt]
      refine wpAnyH_ready (rs := [8]) (by kernel_rfl) (by simp) ?_
      refine rdH (fun K hK => ?_) ?_
      · go_simp
        have hbW : Below w.heap.size w (X.alloc (.cells #[.int .i64 0, .int .i64 0, .slice none 0 0] 35)).drew := HB1.out.drew
        refine (jat_any s.k (X.alloc (.cells #[.int .i64 0, .int .i64 0, .slice none 0 0] 35)).drew (HQ.out.next hbW).jx).mono ?_
        rintro e w2 ⟨r, rfl, hrn, hb'⟩
        have hb : Below (X.alloc (.cells #[.int .i64 0, .int .i64 0, .slice none 0 0] 35)).heap.size (X.alloc (.cells #[.int .i64 0, .int .i64 0, .slice none 0 0] 35)) w2 := ⟨hb'.os, hb'.tape, hb'.output, hb'.size, hb'.block⟩
        have hb2 := Below.next (HB1.out) hb
        have y0 := (HQ.out.next hb2).c0
        have y5 := (HQ.out.next hb2).c5
        have hrx2 := HRB1.out.next hb
        have HRX2 := Lib.hid hrx2
        have HB2 := Lib.hid hb2
        have HRN := Lib.hid hrn
        have hrv2 := HRV1.out.next hb
        have x0 := hrv2.c0
        have x1 := hrv2.c1
        have x2 := hrv2.c2
        have x3 := hrv2.f0 0
        have x4 := hrv2.f0 1
        have x5 := hrv2.f0 2
        have HRV := Lib.hid (((hrv2.set0 r.o).set1 r.n).set2 r.a r.len r.cap)
        have hxne : w.heap.size ≠ X.heap.size := by have := HXS.out; omega
        have HRX := Lib.hid (((hrx2.setnew hxne 0 (.int .i64 r.o)).setnew hxne 1 (.int .i64 r.n)).setnew hxne 2 (.slice r.a r.len r.cap))
        have HRL : Hid (w.heap.size < X.heap.size) := Lib.hid (by have := HXS.out; omega)
        have HBX := Lib.hid (below_set3 hb2 (show w.heap.size ≤ X.heap.size by have := HXS.out; omega) (.int .i64 r.o) (.int .i64 r.n) (.slice r.a r.len r.cap))
        have u0 := (HQ.out.next HBX.out).c0
        have u5 := (HQ.out.next HBX.out).c5
        clear hrv2 hxne
        clear hb hb' hb2 hrx2 hrn hbW
        simp only [rv]
        go_wp2_with fail
        refine hK.out _ _ ?_ (fun hH => ?_)
        · exact ⟨y0, y5⟩
        clear hK K
        try simp only [pt]
        refine tkH 9 ?_ ?_ ?_
        rotate_left
        · intro w h; try dsimp only at h
          obtain ⟨q0, q5⟩ := h; go_simp; all_goals with_reducible rfl
        try simp only [pt]
        refine tkH 10 ?_ ?_ ?_
        rotate_left
        · intro w h; try dsimp only at h
          obtain ⟨q0, q5⟩ := h; go_simp; all_goals with_reducible rfl
        try simp only [pt]
        refine tkH 11 ?_ ?_ ?_
        rotate_left
        · intro w h; try dsimp only at h
          obtain ⟨q0, q5⟩ := h; go_simp; all_goals with_reducible rfl
        try simp only [pt]
        refine wpAnyH_ready (rs := [13]) (by kernel_rfl) (by simp) ?_
        refine rdH (fun K hK => ?_) ?_
        · go_simp
          refine hK.out _ _ ?_ (fun hH => ?_)
          · exact ⟨u0, u5⟩
          clear hK K
          try simp only [pt]
          refine tkH 14 ?_ ?_ ?_
          rotate_left
          · intro w h; try dsimp only at h
            obtain ⟨q0, q5⟩ := h; go_simp; all_goals with_reducible rfl
          try simp only [pt]
          refine wpAnyH_done (by kernel_rfl) ?_ _
          clear u0 u5 v0 v5 y0 y5 e0 e5 x0 x1 x2 x3 x4 x5
          go_wp2_with fail
          go_meet
          case rel => exact ⟨_, r, rfl, rfl, HRV.out, HRN.out, HRX.out, HRL.out, HBX.out⟩
        exact AllReadyH.nil
      exact AllReadyH.nil
    exact AllReadyH.nil
  case rest =>
    obtain ⟨rb, ⟨ro, rn, ra, rl, rc, rus⟩, rfl, rfl, hrv, hrn, hrx, hrl, hbx⟩ := hcut
    simp only at hrv hrn
    have h0 := hrv.c0
    have h1 := hrv.c1
    have h2 := hrv.c2
    have g0 := hrx.c0
    have g1 := hrx.c1
    have g2 := hrx.c2
    have HRX := Lib.hid hrx
    have HBX := Lib.hid hbx
    rw [decide_eq_false HKF.out]
    clear hrv hrx hrl hbx e0 e5
    go_wp2
    go_ret
    exact ⟨rfl, HBX.out⟩
set_option maxHeartbeats 8000000 in
theorem ctake_bad (o n : Int) (a : Option Addr) (cap : Nat) (us : List Up) (ho : o = s.o) (hk : s.k < s.uss.length) (hb : ¬ n = ((s.k + 1 : Nat) : Int)) (w : World) (hu : IsUs w a us.length us) (h : Pk B w b F s) :
    Calls Tryd.prog 26 #[.pointer (some ⟨b, 0, none⟩), .agg #[.int .i64 o, .int .i64 n, .slice a us.length cap]] w fun e w' => e = .returned (.int .i64 10) ∧ Below w.heap.size w w' := by
  have hA := Joins.below_alloc1 w (.cells #[.int .i64 o, .int .i64 n, .slice a us.length cap] 35)
  have hr := Rb.new w o n a us.length cap
  have d0 := hr.c0
  have d1 := hr.c1
  have d2 := hr.c2
  obtain ⟨jb, FJ, v, S, rs, vo, hq, rfl⟩ := h
  obtain ⟨ax, cp, rfl, _⟩ := hq.kn.is
  have c1 := (hq.next hA).c1
  have HA := Lib.hid hA
  have HQ := Lib.hid hq
  have HU := Lib.hid hu
  have HR := Lib.hid hr
  have HLT := Lib.hid hq.lt
  have HSZ : Hid ((w.alloc (.cells #[.int .i64 o, .int .i64 n, .slice a us.length cap] 35)).heap.size = w.heap.size + 1) := Lib.hid (by simp)
  have q1 : (o == s.o) = true := beq_iff_eq.2 ho
  have HKF := Lib.hid hk
  obtain ⟨N, hN⟩ : ∃ N : Int, ((s.k + 1 : Nat) : Int) = N := ⟨_, rfl⟩
  have HN := Lib.hid hN
  have q3 : (N != n) = true := by rw [bne_iff_ne, ← hN]; exact fun e => hb e.symm
  clear hq hA hr hu ho hk hb hN
  go_enter Tryd.func26, Tryd.ntmps26
  go_wp2_with fail
  go_quiet (fail)
  revert nq
  intro n1
  go_upto_region 2 with fail
  generalize hX : (w.alloc (.cells #[.int .i64 o, .int .i64 n, .slice a us.length cap] 35)).drewN n1 = X at *
  have HX0 : Hid (Below w.heap.size w X) := by
    have := belN HA.out n1
    refine Lib.hid ?_
    rw [← hX]
    exact this
  have HXR : Hid (Rb X w.heap.size o n a us.length cap) := by
    have := HR.out.drewN n1
    refine Lib.hid ?_
    rw [← hX]
    exact this
  have HXS : Hid (X.heap.size = w.heap.size + 1) := by
    refine Lib.hid ?_
    rw [← hX]
    exact HSZ.out
  clear HA HR HSZ hX c1 d0 d1 d2
  have e0 : X.drew.cell? ⟨b, 0, none⟩ = some (.pointer (some ⟨jb, 0, none⟩)) := (HQ.out.next HX0.out).c0
  have e5 : X.drew.cell? ⟨b, 5, none⟩ = some (.int .i64 (s.k : Int)) := (HQ.out.next HX0.out).c5
  have HB0 : Hid (Below w.heap.size w X.drew) := Lib.hid HX0.out.drew
  have HRB0 := HXR
  go_wp2_with fail
  go_cut [5, 6] from 14 to 26 (fun v5 v6 wx => ∃ (rb : Nat) (r : Rn), v5 = .pointer (some ⟨rb, 0, none⟩) ∧ v6 = .bool (decide (s.k < s.uss.length)) ∧ Rb wx rb r.o r.n r.a r.len r.cap ∧ (s.k < s.uss.length → r.n = ((s.k + 1 : Nat) : Int)) ∧ Rb wx w.heap.size o n a us.length cap ∧ w.heap.size < rb ∧ Below w.heap.size w wx)
  case first =>
    refine wp_region_held_drew (S := fun w' => w'.cell? ⟨b, 0, none⟩ = some (.pointer (some ⟨jb, 0, none⟩)) ∧ w'.cell? ⟨b, 5, none⟩ = some (.int .i64 (s.k : Int))) (by kernel_rfl) ?_ (fun hH => ?_)
    · exact ⟨e0, e5⟩
    refine tkH 0 ?_ ?_ ?_
    rotate_left
    · intro w h; try dsimp only at h
      obtain ⟨q0, q5⟩ := h; go_simp; all_goals with_reducible rfl
    try simp only [pt]
    refine tkH 1 ?_ ?_ ?_
    rotate_left
    · intro w h; try dsimp only at h
      obtain ⟨q0, q5⟩ := h; go_simp; all_goals with_reducible rfl
    try simp only [pt]
    refine tkH 2 ?_ ?_ ?_
    rotate_left
    · intro w h; try dsimp only at h
      obtain ⟨q0, q5⟩ := h; go_simp; all_goals with_reducible rfl
    try simp only [pt]
    refine tkH 3 ?_ ?_ ?_
    rotate_left
    · intro w h; try dsimp only at h
      obtain ⟨q0, q5⟩ := h; go_simp; all_goals with_reducible rfl
    try simp only [pt]
    refine tkH 4 ?_ ?_ ?_
    rotate_left
    · intro w h; try dsimp only at h
      obtain ⟨q0, q5⟩ := h; go_simp; all_goals with_reducible rfl
    try simp only [pt]
    refine tkH 5 ?_ ?_ ?_
    rotate_left
    · intro w h; try dsimp only at h
      obtain ⟨q0, q5⟩ := h; go_simp; all_goals with_reducible rfl
    try simp only [pt]
    refine tkH 6 ?_ ?_ ?_
    rotate_left
    · intro w h; try dsimp only at h
      obtain ⟨q0, q5⟩ := h; go_simp; all_goals with_reducible rfl
    try simp only [pt]
    refine tkH 7 ?_ ?_ ?_
    rotate_left
    · intro w h; try dsimp only at h
      obtain ⟨q0, q5⟩ := h; go_simp; all_goals with_reducible rfl
    try simp only [pt]
    refine wpAnyH_ready (rs := [8, 12]) (by kernel_rfl) (by simp) ?_
    refine rdH (fun K hK => ?_) ?_
    · go_simp
      have hbW : Below w.heap.size w (X).drew := HB0.out
      refine (jat_any s.k (X).drew (HQ.out.next hbW).jx).mono ?_
      rintro e w2 ⟨r, rfl, hrn, hb'⟩
      have hb : Below (X).heap.size (X) w2 := ⟨hb'.os, hb'.tape, hb'.output, hb'.size, hb'.block⟩
      have hb2 := Below.next (HX0.out) hb
      have y0 := (HQ.out.next hb2).c0
      have y5 := (HQ.out.next hb2).c5
      have hrx2 := HRB0.out.next hb
      have HRX2 := Lib.hid hrx2
      have HB2 := Lib.hid hb2
      have HRN := Lib.hid hrn
      clear hb hb' hb2 hrx2 hrn hbW
      simp only [rv]
      go_wp2_with fail
      refine hK.out _ _ ?_ (fun hH => ?_)
      · exact ⟨y0, y5⟩
      clear hK K
      try simp only [pt]
      refine tkH 9 ?_ ?_ ?_
      rotate_left
      · intro w h; try dsimp only at h
        obtain ⟨q0, q5⟩ := h; go_simp; all_goals with_reducible rfl
      try simp only [pt]
      refine tkH 10 ?_ ?_ ?_
      rotate_left
      · intro w h; try dsimp only at h
        obtain ⟨q0, q5⟩ := h; go_simp; all_goals with_reducible rfl
      try simp only [pt]
      refine tkH 11 ?_ ?_ ?_
      rotate_left
      · intro w h; try dsimp only at h
        obtain ⟨q0, q5⟩ := h; go_simp; all_goals with_reducible rfl
      try simp only [pt]
      refine wpAnyH_ready (rs := [12]) (by kernel_rfl) (by simp) ?_
      refine rdH (fun K hK => ?_) ?_
      · have hb3 := Below.next HB2.out (Joins.below_alloc1 w2 (.cells #[.int .i64 0, .int .i64 0, .slice none 0 0] 35))
        have v0 := (HQ.out.next hb3).c0
        have v5 := (HQ.out.next hb3).c5
        have hb4 := Below.next HB2.out (Joins.below_alloc1 w2 (.cells #[.int .i64 r.o, .int .i64 r.n, .slice r.a r.len r.cap] 35))
        have u0 := (HQ.out.next hb4).c0
        have u5 := (HQ.out.next hb4).c5
        have HBX := Lib.hid hb4
        have HRV := Lib.hid (Rb.new w2 r.o r.n r.a r.len r.cap)
        have HRX := Lib.hid (HRX2.out.alloc (.cells #[.int .i64 r.o, .int .i64 r.n, .slice r.a r.len r.cap] 35))
        have HRL := Lib.hid HRX2.out.lt
        clear hb3 hb4
        go_simp
        refine hK.out _ _ ?_ (fun hH => ?_)
        · exact ⟨v0, v5⟩
        clear hK K
        try simp only [pt]
        refine wpAnyH_ready (rs := [13]) (by kernel_rfl) (by simp) ?_
        refine rdH (fun K hK => ?_) ?_
        · go_simp
          refine hK.out _ _ ?_ (fun hH => ?_)
          · exact ⟨u0, u5⟩
          clear hK K
          try simp only [pt]
          refine tkH 14 ?_ ?_ ?_
          rotate_left
          · intro w h; try dsimp only at h
            obtain ⟨q0, q5⟩ := h; go_simp; all_goals with_reducible rfl
          try simp only [pt]
          refine wpAnyH_done (by kernel_rfl) ?_ _
          clear u0 u5 v0 v5 y0 y5 e0 e5
          go_wp2_with fail
          go_meet
          case rel => exact ⟨_, r, rfl, rfl, HRV.out, HRN.out, HRX.out, HRL.out, HBX.out⟩
        exact AllReadyH.nil
      exact AllReadyH.nil
    refine rdH (fun K hK => ?_) ?_
    · have HB1 : Hid (Below w.heap.size w (X.alloc (.cells #[.int .i64 0, .int .i64 0, .slice none 0 0] 35))) := Lib.hid (Below.step (w1 := X) HX0.out (.cells #[.int .i64 0, .int .i64 0, .slice none 0 0] 35) (Below.refl _ _))
      have v0 := (HQ.out.next HB1.out).c0
      have v5 := (HQ.out.next HB1.out).c5
      have HRB1 : Hid (Rb (X.alloc (.cells #[.int .i64 0, .int .i64 0, .slice none 0 0] 35)) w.heap.size o n a us.length cap) := Lib.hid (Rb.alloc HXR.out (.cells #[.int .i64 0, .int .i64 0, .slice none 0 0] 35))
      have HRV1 : Hid (Rb (X.alloc (.cells #[.int .i64 0, .int .i64 0, .slice none 0 0] 35)) X.heap.size 0 0 none 0 0) := Lib.hid (Rb.new X 0 0 none 0 0)
      go_simp
      refine hK.out _ _ ?_ (fun hH => ?_)
      · exact ⟨v0, v5⟩
      clear hK K
      try simp only [pt]
      refine wpAnyH_ready (rs := [8]) (by kernel_rfl) (by simp) ?_
      refine rdH (fun K hK => ?_) ?_
      · go_simp
        have hbW : Below w.heap.size w (X.alloc (.cells #[.int .i64 0, .int .i64 0, .slice none 0 0] 35)).drew := HB1.out.drew
        refine (jat_any s.k (X.alloc (.cells #[.int .i64 0, .int .i64 0, .slice none 0 0] 35)).drew (HQ.out.next hbW).jx).mono ?_
        rintro e w2 ⟨r, rfl, hrn, hb'⟩
        have hb : Below (X.alloc (.cells #[.int .i64 0, .int .i64 0, .slice none 0 0] 35)).heap.size (X.alloc (.cells #[.int .i64 0, .int .i64 0, .slice none 0 0] 35)) w2 := ⟨hb'.os, hb'.tape, hb'.output, hb'.size, hb'.block⟩
        have hb2 := Below.next (HB1.out) hb
        have y0 := (HQ.out.next hb2).c0
        have y5 := (HQ.out.next hb2).c5
        have hrx2 := HRB1.out.next hb
        have HRX2 := Lib.hid hrx2
        have HB2 := Lib.hid hb2
        have HRN := Lib.hid hrn
        have hrv2 := HRV1.out.next hb
        have x0 := hrv2.c0
        have x1 := hrv2.c1
        have x2 := hrv2.c2
        have x3 := hrv2.f0 0
        have x4 := hrv2.f0 1
        have x5 := hrv2.f0 2
        have HRV := Lib.hid (((hrv2.set0 r.o).set1 r.n).set2 r.a r.len r.cap)
        have hxne : w.heap.size ≠ X.heap.size := by have := HXS.out; omega
        have HRX := Lib.hid (((hrx2.setnew hxne 0 (.int .i64 r.o)).setnew hxne 1 (.int .i64 r.n)).setnew hxne 2 (.slice r.a r.len r.cap))
        have HRL : Hid (w.heap.size < X.heap.size) := Lib.hid (by have := HXS.out; omega)
        have HBX := Lib.hid (below_set3 hb2 (show w.heap.size ≤ X.heap.size by have := HXS.out; omega) (.int .i64 r.o) (.int .i64 r.n) (.slice r.a r.len r.cap))
        have u0 := (HQ.out.next HBX.out).c0
        have u5 := (HQ.out.next HBX.out).c5
        clear hrv2 hxne
        clear hb hb' hb2 hrx2 hrn hbW
        simp only [rv]
        go_wp2_with fail
        refine hK.out _ _ ?_ (fun hH => ?_)
        · exact ⟨y0, y5⟩
        clear hK K
        try simp only [pt]
        refine tkH 9 ?_ ?_ ?_
        rotate_left
        · intro w h; try dsimp only at h
          obtain ⟨q0, q5⟩ := h; go_simp; all_goals with_reducible rfl
        try simp only [pt]
        refine tkH 10 ?_ ?_ ?_
        rotate_left
        · intro w h; try dsimp only at h
          obtain ⟨q0, q5⟩ := h; go_simp; all_goals with_reducible rfl
        try simp only [pt]
        refine tkH 11 ?_ ?_ ?_
        rotate_left
        · intro w h; try dsimp only at h
          obtain ⟨q0, q5⟩ := h; go_simp; all_goals with_reducible rfl
        try simp only [pt]
        refine wpAnyH_ready (rs := [13]) (by kernel_rfl) (by simp) ?_
        refine rdH (fun K hK => ?_) ?_
        · go_simp
          refine hK.out _ _ ?_ (fun hH => ?_)
          · exact ⟨u0, u5⟩
          clear hK K
          try simp only [pt]
          refine tkH 14 ?_ ?_ ?_
          rotate_left
          · intro w h; try dsimp only at h
            obtain ⟨q0, q5⟩ := h; go_simp; all_goals with_reducible rfl
          try simp only [pt]
          refine wpAnyH_done (by kernel_rfl) ?_ _
          clear u0 u5 v0 v5 y0 y5 e0 e5 x0 x1 x2 x3 x4 x5
          go_wp2_with fail
          go_meet
          case rel => exact ⟨_, r, rfl, rfl, HRV.out, HRN.out, HRX.out, HRL.out, HBX.out⟩
        exact AllReadyH.nil
      exact AllReadyH.nil
    exact AllReadyH.nil
  case rest =>
    obtain ⟨rb, ⟨ro, rn, ra, rl, rc, rus⟩, rfl, rfl, hrv, hrn, hrx, hrl, hbx⟩ := hcut
    simp only at hrv hrn
    have h0 := hrv.c0
    have h1 := hrv.c1
    have h2 := hrv.c2
    have g0 := hrx.c0
    have g1 := hrx.c1
    have g2 := hrx.c2
    have HRX := Lib.hid hrx
    have HBX := Lib.hid hbx
    rw [decide_eq_true HKF.out]
    obtain rfl : rn = N := (hrn HKF.out).trans HN.out
    clear hrv hrx hrl hbx e0 e5
    go_wp2
    go_ret
    exact ⟨rfl, HBX.out⟩
set_option maxHeartbeats 8000000 in
theorem ctake_own (hn : s.kn.length ≤ 1000) (o n : Int) (a : Option Addr) (cap : Nat) (us : List Up) (ho : o = s.o) (hk : s.k < s.uss.length) (hb : n = ((s.k + 1 : Nat) : Int)) (hsm : Sm us) (w : World) (hu : IsUs w a us.length us) (h : Pk B w b F s) :
    Calls Tryd.prog 26 #[.pointer (some ⟨b, 0, none⟩), .agg #[.int .i64 o, .int .i64 n, .slice a us.length cap]] w fun e w' => e = .returned (.int .i64 0) ∧ ∃ F', PkW B w w' b F F' { s with kn := s.kn ++ [(o, n, us)], k := s.k + 1 } := by
  have hA := Joins.below_alloc1 w (.cells #[.int .i64 o, .int .i64 n, .slice a us.length cap] 35)
  have hr := Rb.new w o n a us.length cap
  have d0 := hr.c0
  have d1 := hr.c1
  have d2 := hr.c2
  obtain ⟨jb, FJ, v, S, rs, vo, hq, rfl⟩ := h
  obtain ⟨ax, cp, rfl, _⟩ := hq.kn.is
  have c1 := (hq.next hA).c1
  have HA := Lib.hid hA
  have HQ := Lib.hid hq
  have HU := Lib.hid hu
  have HR := Lib.hid hr
  have HLT := Lib.hid hq.lt
  have HSZ : Hid ((w.alloc (.cells #[.int .i64 o, .int .i64 n, .slice a us.length cap] 35)).heap.size = w.heap.size + 1) := Lib.hid (by simp)
  have HC := fun W hu' => Lib.hid (rndcopy_any o n a us.length cap us (by have := hsm.1; omega) (fun j hj => hsm.2 j hj) W hu')
  have HRL1 : Hid (rs.length ≤ 1000) := Lib.hid (by rw [← hq.mp, List.length_map] at hn; exact hn)
  have q1 : (o == s.o) = true := beq_iff_eq.2 ho
  have HKF := Lib.hid hk
  have q3 : (n != n) = false := by simp
  have HN := Lib.hid hb
  clear hq hA hr hu ho hk hb hn hsm
  go_enter Tryd.func26, Tryd.ntmps26
  go_wp2_with fail
  go_quiet (fail)
  revert nq
  intro n1
  go_upto_region 2 with fail
  generalize hX : (w.alloc (.cells #[.int .i64 o, .int .i64 n, .slice a us.length cap] 35)).drewN n1 = X at *
  have HX0 : Hid (Below w.heap.size w X) := by
    have := belN HA.out n1
    refine Lib.hid ?_
    rw [← hX]
    exact this
  have HXR : Hid (Rb X w.heap.size o n a us.length cap) := by
    have := HR.out.drewN n1
    refine Lib.hid ?_
    rw [← hX]
    exact this
  have HXS : Hid (X.heap.size = w.heap.size + 1) := by
    refine Lib.hid ?_
    rw [← hX]
    exact HSZ.out
  clear HA HR HSZ hX c1 d0 d1 d2
  have e0 : X.drew.cell? ⟨b, 0, none⟩ = some (.pointer (some ⟨jb, 0, none⟩)) := (HQ.out.next HX0.out).c0
  have e5 : X.drew.cell? ⟨b, 5, none⟩ = some (.int .i64 (s.k : Int)) := (HQ.out.next HX0.out).c5
  have HB0 : Hid (Below w.heap.size w X.drew) := Lib.hid HX0.out.drew
  have HRB0 := HXR
  go_wp2_with fail
  go_cut [5, 6] from 14 to 26 (fun v5 v6 wx => ∃ (rb : Nat) (r : Rn), v5 = .pointer (some ⟨rb, 0, none⟩) ∧ v6 = .bool (decide (s.k < s.uss.length)) ∧ Rb wx rb r.o r.n r.a r.len r.cap ∧ (s.k < s.uss.length → r.n = ((s.k + 1 : Nat) : Int)) ∧ Rb wx w.heap.size o n a us.length cap ∧ w.heap.size < rb ∧ Below w.heap.size w wx)
  case first =>
    refine wp_region_held_drew (S := fun w' => w'.cell? ⟨b, 0, none⟩ = some (.pointer (some ⟨jb, 0, none⟩)) ∧ w'.cell? ⟨b, 5, none⟩ = some (.int .i64 (s.k : Int))) (by kernel_rfl) ?_ (fun hH => ?_)
    · exact ⟨e0, e5⟩
    refine tkH 0 ?_ ?_ ?_
    rotate_left
    · intro w h; try dsimp only at h
      obtain ⟨q0, q5⟩ := h; go_simp; all_goals with_reducible rfl
    try simp only [pt]
    refine tkH 1 ?_ ?_ ?_
    rotate_left
    · intro w h; try dsimp only at h
      obtain ⟨q0, q5⟩ := h; go_simp; all_goals with_reducible rfl
    try simp only [pt]
    refine tkH 2 ?_ ?_ ?_
    rotate_left
    · intro w h; try dsimp only at h
      obtain ⟨q0, q5⟩ := h; go_simp; all_goals with_reducible rfl
    try simp only [pt]
    refine tkH 3 ?_ ?_ ?_
    rotate_left
    · intro w h; try dsimp only at h
      obtain ⟨q0, q5⟩ := h; go_simp; all_goals with_reducible rfl
    try simp only [pt]
    refine tkH 4 ?_ ?_ ?_
    rotate_left
    · intro w h; try dsimp only at h
      obtain ⟨q0, q5⟩ := h; go_simp; all_goals with_reducible rfl
    try simp only [pt]
    refine tkH 5 ?_ ?_ ?_
    rotate_left
    · intro w h; try dsimp only at h
      obtain ⟨q0, q5⟩ := h; go_simp; all_goals with_reducible rfl
    try simp only [pt]
    refine tkH 6 ?_ ?_ ?_
    rotate_left
    · intro w h; try dsimp only at h
      obtain ⟨q0, q5⟩ := h; go_simp; all_goals with_reducible rfl
    try simp only [pt]
    refine tkH 7 ?_ ?_ ?_
    rotate_left
    · intro w h; try dsimp only at h
      obtain ⟨q0, q5⟩ := h; go_simp; all_goals with_reducible rfl
    try simp only [pt]
    refine wpAnyH_ready (rs := [8, 12]) (by kernel_rfl) (by simp) ?_
    refine rdH (fun K hK => ?_) ?_
    · go_simp
      have hbW : Below w.heap.size w (X).drew := HB0.out
      refine (jat_any s.k (X).drew (HQ.out.next hbW).jx).mono ?_
      rintro e w2 ⟨r, rfl, hrn, hb'⟩
      have hb : Below (X).heap.size (X) w2 := ⟨hb'.os, hb'.tape, hb'.output, hb'.size, hb'.block⟩
      have hb2 := Below.next (HX0.out) hb
      have y0 := (HQ.out.next hb2).c0
      have y5 := (HQ.out.next hb2).c5
      have hrx2 := HRB0.out.next hb
      have HRX2 := Lib.hid hrx2
      have HB2 := Lib.hid hb2
      have HRN := Lib.hid hrn
      clear hb hb' hb2 hrx2 hrn hbW
      simp only [rv]
      go_wp2_with fail
      refine hK.out _ _ ?_ (fun hH => ?_)
      · exact ⟨y0, y5⟩
      clear hK K
      try simp only [pt]
      refine tkH 9 ?_ ?_ ?_
      rotate_left
      · intro w h; try dsimp only at h
        obtain ⟨q0, q5⟩ := h; go_simp; all_goals with_reducible rfl
      try simp only [pt]
      refine tkH 10 ?_ ?_ ?_
      rotate_left
      · intro w h; try dsimp only at h
        obtain ⟨q0, q5⟩ := h; go_simp; all_goals with_reducible rfl
      try simp only [pt]
      refine tkH 11 ?_ ?_ ?_
      rotate_left
      · intro w h; try dsimp only at h
        obtain ⟨q0, q5⟩ := h; go_simp; all_goals with_reducible rfl
      try simp only [pt]
      refine wpAnyH_ready (rs := [12]) (by kernel_rfl) (by simp) ?_
      refine rdH (fun K hK => ?_) ?_
      · have hb3 := Below.next HB2.out (Joins.below_alloc1 w2 (.cells #[.int .i64 0, .int .i64 0, .slice none 0 0] 35))
        have v0 := (HQ.out.next hb3).c0
        have v5 := (HQ.out.next hb3).c5
        have hb4 := Below.next HB2.out (Joins.below_alloc1 w2 (.cells #[.int .i64 r.o, .int .i64 r.n, .slice r.a r.len r.cap] 35))
        have u0 := (HQ.out.next hb4).c0
        have u5 := (HQ.out.next hb4).c5
        have HBX := Lib.hid hb4
        have HRV := Lib.hid (Rb.new w2 r.o r.n r.a r.len r.cap)
        have HRX := Lib.hid (HRX2.out.alloc (.cells #[.int .i64 r.o, .int .i64 r.n, .slice r.a r.len r.cap] 35))
        have HRL := Lib.hid HRX2.out.lt
        clear hb3 hb4
        go_simp
        refine hK.out _ _ ?_ (fun hH => ?_)
        · exact ⟨v0, v5⟩
        clear hK K
        try simp only [pt]
        refine wpAnyH_ready (rs := [13]) (by kernel_rfl) (by simp) ?_
        refine rdH (fun K hK => ?_) ?_
        · go_simp
          refine hK.out _ _ ?_ (fun hH => ?_)
          · exact ⟨u0, u5⟩
          clear hK K
          try simp only [pt]
          refine tkH 14 ?_ ?_ ?_
          rotate_left
          · intro w h; try dsimp only at h
            obtain ⟨q0, q5⟩ := h; go_simp; all_goals with_reducible rfl
          try simp only [pt]
          refine wpAnyH_done (by kernel_rfl) ?_ _
          clear u0 u5 v0 v5 y0 y5 e0 e5
          go_wp2_with fail
          go_meet
          case rel => exact ⟨_, r, rfl, rfl, HRV.out, HRN.out, HRX.out, HRL.out, HBX.out⟩
        exact AllReadyH.nil
      exact AllReadyH.nil
    refine rdH (fun K hK => ?_) ?_
    · have HB1 : Hid (Below w.heap.size w (X.alloc (.cells #[.int .i64 0, .int .i64 0, .slice none 0 0] 35))) := Lib.hid (Below.step (w1 := X) HX0.out (.cells #[.int .i64 0, .int .i64 0, .slice none 0 0] 35) (Below.refl _ _))
      have v0 := (HQ.out.next HB1.out).c0
      have v5 := (HQ.out.next HB1.out).c5
      have HRB1 : Hid (Rb (X.alloc (.cells #[.int .i64 0, .int .i64 0, .slice none 0 0] 35)) w.heap.size o n a us.length cap) := Lib.hid (Rb.alloc HXR.out (.cells #[.int .i64 0, .int .i64 0, .slice none 0 0] 35))
      have HRV1 : Hid (Rb (X.alloc (.cells #[.int .i64 0, .int .i64 0, .slice none 0 0] 35)) X.heap.size 0 0 none 0 0) := Lib.hid (Rb.new X 0 0 none 0 0)
      go_simp
      refine hK.out _ _ ?_ (fun hH => ?_)
      · exact ⟨v0, v5⟩
      clear hK K
      try simp only [pt]
      refine wpAnyH_ready (rs := [8]) (by kernel_rfl) (by simp) ?_
      refine rdH (fun K hK => ?_) ?_
      · go_simp
        have hbW : Below w.heap.size w (X.alloc (.cells #[.int .i64 0, .int .i64 0, .slice none 0 0] 35)).drew := HB1.out.drew
        refine (jat_any s.k (X.alloc (.cells #[.int .i64 0, .int .i64 0, .slice none 0 0] 35)).drew (HQ.out.next hbW).jx).mono ?_
        rintro e w2 ⟨r, rfl, hrn, hb'⟩
        have hb : Below (X.alloc (.cells #[.int .i64 0, .int .i64 0, .slice none 0 0] 35)).heap.size (X.alloc (.cells #[.int .i64 0, .int .i64 0, .slice none 0 0] 35)) w2 := ⟨hb'.os, hb'.tape, hb'.output, hb'.size, hb'.block⟩
        have hb2 := Below.next (HB1.out) hb
        have y0 := (HQ.out.next hb2).c0
        have y5 := (HQ.out.next hb2).c5
        have hrx2 := HRB1.out.next hb
        have HRX2 := Lib.hid hrx2
        have HB2 := Lib.hid hb2
        have HRN := Lib.hid hrn
        have hrv2 := HRV1.out.next hb
        have x0 := hrv2.c0
        have x1 := hrv2.c1
        have x2 := hrv2.c2
        have x3 := hrv2.f0 0
        have x4 := hrv2.f0 1
        have x5 := hrv2.f0 2
        have HRV := Lib.hid (((hrv2.set0 r.o).set1 r.n).set2 r.a r.len r.cap)
        have hxne : w.heap.size ≠ X.heap.size := by have := HXS.out; omega
        have HRX := Lib.hid (((hrx2.setnew hxne 0 (.int .i64 r.o)).setnew hxne 1 (.int .i64 r.n)).setnew hxne 2 (.slice r.a r.len r.cap))
        have HRL : Hid (w.heap.size < X.heap.size) := Lib.hid (by have := HXS.out; omega)
        have HBX := Lib.hid (below_set3 hb2 (show w.heap.size ≤ X.heap.size by have := HXS.out; omega) (.int .i64 r.o) (.int .i64 r.n) (.slice r.a r.len r.cap))
        have u0 := (HQ.out.next HBX.out).c0
        have u5 := (HQ.out.next HBX.out).c5
        clear hrv2 hxne
        clear hb hb' hb2 hrx2 hrn hbW
        simp only [rv]
        go_wp2_with fail
        refine hK.out _ _ ?_ (fun hH => ?_)
        · exact ⟨y0, y5⟩
        clear hK K
        try simp only [pt]
        refine tkH 9 ?_ ?_ ?_
        rotate_left
        · intro w h; try dsimp only at h
          obtain ⟨q0, q5⟩ := h; go_simp; all_goals with_reducible rfl
        try simp only [pt]
        refine tkH 10 ?_ ?_ ?_
        rotate_left
        · intro w h; try dsimp only at h
          obtain ⟨q0, q5⟩ := h; go_simp; all_goals with_reducible rfl
        try simp only [pt]
        refine tkH 11 ?_ ?_ ?_
        rotate_left
        · intro w h; try dsimp only at h
          obtain ⟨q0, q5⟩ := h; go_simp; all_goals with_reducible rfl
        try simp only [pt]
        refine wpAnyH_ready (rs := [13]) (by kernel_rfl) (by simp) ?_
        refine rdH (fun K hK => ?_) ?_
        · go_simp
          refine hK.out _ _ ?_ (fun hH => ?_)
          · exact ⟨u0, u5⟩
          clear hK K
          try simp only [pt]
          refine tkH 14 ?_ ?_ ?_
          rotate_left
          · intro w h; try dsimp only at h
            obtain ⟨q0, q5⟩ := h; go_simp; all_goals with_reducible rfl
          try simp only [pt]
          refine wpAnyH_done (by kernel_rfl) ?_ _
          clear u0 u5 v0 v5 y0 y5 e0 e5 x0 x1 x2 x3 x4 x5
          go_wp2_with fail
          go_meet
          case rel => exact ⟨_, r, rfl, rfl, HRV.out, HRN.out, HRX.out, HRL.out, HBX.out⟩
        exact AllReadyH.nil
      exact AllReadyH.nil
    exact AllReadyH.nil
  case rest =>
    obtain ⟨rb, ⟨ro, rn, ra, rl, rc, rus⟩, rfl, rfl, hrv, hrn, hrx, hrl, hbx⟩ := hcut
    simp only at hrv hrn
    have h0 := hrv.c0
    have h1 := hrv.c1
    have h2 := hrv.c2
    have g0 := hrx.c0
    have g1 := hrx.c1
    have g2 := hrx.c2
    have HRX := Lib.hid hrx
    have HBX := Lib.hid hbx
    rw [decide_eq_true HKF.out]
    obtain rfl : n = rn := HN.out.trans (hrn HKF.out).symm
    clear hrv hrx hrl hbx e0 e5
    have f5 := (HQ.out.next HBX.out).f0 5
    have z5 := (HQ.out.next HBX.out).c5
    go_upto_region 6 with fail
    have HQ6 : Hid (Pq B (wc.setCell ⟨b, 5, none⟩ (.int .i64 n)) b jb FJ (.slice ax rs.length cp) S rs vo { s with k := s.k + 1 }) := Lib.hid (by
      have := pq_taken (HQ.out.next HBX.out) (s.k + 1)
      rw [← HN.out] at this
      exact this)
    have HNB : Hid (w.heap.size ≠ b) := Lib.hid (by have := HLT.out; omega)
    have HR6 : Hid (Rb (wc.setCell ⟨b, 5, none⟩ (.int .i64 n)) w.heap.size o n a us.length cap) := Lib.hid (HRX.out.setnew HNB.out _ _)
    have HL6 : Hid (Lv w (wc.setCell ⟨b, 5, none⟩ (.int .i64 n)) (Pf b (.slice ax rs.length cp) S FJ vo)) := Lib.hid ((Lv.ofBelow HBX.out _).trans (Lv.set (.inl (.inl rfl)) _ _))
    have HU6 : Hid (IsUs (wc.setCell ⟨b, 5, none⟩ (.int .i64 n)) a us.length us) := Lib.hid (isUs_keep (isUs_below HU.out HBX.out) fun h0 g off e => Below.heap_setCell _ _ _ _ fun e2 => by
      subst e2
      have hx := isUs_below HU.out HBX.out
      rw [e] at hx
      exact no_us (HQ.out.next HBX.out) hx h0)
    have HNF : Hid (¬ Jf b (.slice ax rs.length cp) S w.heap.size) := Lib.hid fun e => by have := (HQ.out.kn.foot _ e).2; omega
    clear HQ HU HX0 HXR HXS HRX HBX h0 h1 h2 g0 g1 g2 f5 z5 hrn
    generalize wc.setCell ⟨b, 5, none⟩ (.int .i64 n) = W at *
    have hrb6 := HR6.out
    have d0 := hrb6.c0
    have d1 := hrb6.c1
    have d2 := hrb6.c2
    have c4 := HQ6.out.c4
    have f4 := HQ6.out.f0 4
    clear hrb6
    go_wp2_with fail
    refine wp_region_held_drew (S := fun w' => w'.cell? ⟨w.heap.size, 0, none⟩ = some (.int .i64 o) ∧ w'.cell? ⟨w.heap.size, 1, none⟩ = some (.int .i64 n) ∧ w'.cell? ⟨w.heap.size, 2, none⟩ = some (.slice a us.length cap)) (by kernel_rfl) ?_ (fun hH => ?_)
    · exact ⟨d0, d1, d2⟩
    refine tkH 0 ?_ ?_ ?_
    rotate_left
    · intro w h; try dsimp only at h
      obtain ⟨q0, q1, q2⟩ := h; go_simp; all_goals with_reducible rfl
    try simp only [pt]
    refine tkH 1 ?_ ?_ ?_
    rotate_left
    · intro w h; try dsimp only at h
      obtain ⟨q0, q1, q2⟩ := h; go_simp; all_goals with_reducible rfl
    try simp only [pt]
    refine tkH 2 ?_ ?_ ?_
    rotate_left
    · intro w h; try dsimp only at h
      obtain ⟨q0, q1, q2⟩ := h; go_simp; all_goals with_reducible rfl
    try simp only [pt]
    refine tkH 3 ?_ ?_ ?_
    rotate_left
    · intro w h; try dsimp only at h
      obtain ⟨q0, q1, q2⟩ := h; go_simp; all_goals with_reducible rfl
    try simp only [pt]
    refine tkH 5 ?_ ?_ ?_
    rotate_left
    · intro w h; try dsimp only at h
      obtain ⟨q0, q1, q2⟩ := h; go_simp; all_goals with_reducible rfl
    try simp only [pt]
    refine wpAnyH_ready (rs := [4, 6]) (by kernel_rfl) (by simp) ?_
    refine rdH (fun K hK => ?_) ?_
    · go_simp
      refine hK.out _ _ ?_ (fun hH => ?_)
      · exact ⟨d0, d1, d2⟩
      clear hK K
      try simp only [pt]
      refine wpAnyH_ready (rs := [6]) (by kernel_rfl) (by simp) ?_
      refine rdH (fun K hK => ?_) ?_
      · go_simp
        refine (HC W.drew (isUs_same HU6.out fun _ _ _ => rfl)).out.mono ?_
        rintro e w3 ⟨rfl, hrw, hb3'⟩
        have hb3 : Below W.heap.size W w3 := ⟨hb3'.os, hb3'.tape, hb3'.output, hb3'.size, hb3'.block⟩
        obtain ⟨a', c', w5, hrun, HROW, HGR, HOWN, e5, g5, e3, e4, HKP⟩ := com_app HQ6.out.kn (Below.refl W.heap.size W) hb3 ⟨o, n, some ⟨W.heap.size + 2, 0, none⟩, us.length, us.length, us⟩ (by decide) HRL1.out 40 4 rfl
        obtain ⟨y3, y4, y5, y6⟩ := (show Rb w3 w.heap.size o n a us.length cap ∧ Rb (w3.alloc (.cells #[.int .i64 o, .int .i64 n, .slice (some ⟨W.heap.size + 2, 0, none⟩) us.length us.length] 35)) w.heap.size o n a us.length cap ∧ Rb w5 w.heap.size o n a us.length cap ∧ Rb (w5.setCell ⟨b, 4, none⟩ (.slice a' (rs.length + 1) c')) w.heap.size o n a us.length cap from take_rb hb3 HGR.out HR6.out HNF.out HNB.out)
        have z3 : w3.cell? ⟨w.heap.size, 0, none⟩ = some (.int .i64 o) ∧ w3.cell? ⟨w.heap.size, 1, none⟩ = some (.int .i64 n) ∧ w3.cell? ⟨w.heap.size, 2, none⟩ = some (.slice a us.length cap) := ⟨y3.c0, y3.c1, y3.c2⟩
        have z4 : (w3.alloc (.cells #[.int .i64 o, .int .i64 n, .slice (some ⟨W.heap.size + 2, 0, none⟩) us.length us.length] 35)).cell? ⟨w.heap.size, 0, none⟩ = some (.int .i64 o) ∧ (w3.alloc (.cells #[.int .i64 o, .int .i64 n, .slice (some ⟨W.heap.size + 2, 0, none⟩) us.length us.length] 35)).cell? ⟨w.heap.size, 1, none⟩ = some (.int .i64 n) ∧ (w3.alloc (.cells #[.int .i64 o, .int .i64 n, .slice (some ⟨W.heap.size + 2, 0, none⟩) us.length us.length] 35)).cell? ⟨w.heap.size, 2, none⟩ = some (.slice a us.length cap) := ⟨y4.c0, y4.c1, y4.c2⟩
        have z5 : w5.cell? ⟨w.heap.size, 0, none⟩ = some (.int .i64 o) ∧ w5.cell? ⟨w.heap.size, 1, none⟩ = some (.int .i64 n) ∧ w5.cell? ⟨w.heap.size, 2, none⟩ = some (.slice a us.length cap) := ⟨y5.c0, y5.c1, y5.c2⟩
        have z6 : (w5.setCell ⟨b, 4, none⟩ (.slice a' (rs.length + 1) c')).cell? ⟨w.heap.size, 0, none⟩ = some (.int .i64 o) ∧ (w5.setCell ⟨b, 4, none⟩ (.slice a' (rs.length + 1) c')).cell? ⟨w.heap.size, 1, none⟩ = some (.int .i64 n) ∧ (w5.setCell ⟨b, 4, none⟩ (.slice a' (rs.length + 1) c')).cell? ⟨w.heap.size, 2, none⟩ = some (.slice a us.length cap) := ⟨y6.c0, y6.c1, y6.c2⟩
        have HRW : Hid (Rw w3 (W.heap.size + 2) us) := Lib.hid hrw
        have HB3 := Lib.hid hb3
        clear hb3 hb3' hrw y3 y4 y5 y6
        go_wp2_with fail
        refine hK.out _ _ ?_ (fun hH => ?_)
        · exact z3
        clear hK K
        try simp only [pt]
        refine wpAnyH_ready (rs := [7]) (by kernel_rfl) (by simp) ?_
        refine rdH (fun K hK => ?_) ?_
        · go_simp
          refine hK.out _ _ ?_ (fun hH => ?_)
          · exact z4
          clear hK K
          try simp only [pt]
          refine wpAnyH_ready (rs := [8]) (by kernel_rfl) (by simp) ?_
          refine rdH (fun K hK => ?_) ?_
          · refine step_append_run (by rfl) (.tmp 44) (.tmp 47) 40 rfl _ _ _ rfl rfl hrun ?_
            refine hK.out _ _ ?_ (fun hH => ?_)
            · exact z5
            clear hK K
            try simp only [pt]
            refine tkH 9 ?_ ?_ ?_
            rotate_left
            · intro w h; try dsimp only at h
              obtain ⟨q0, q1, q2⟩ := h; go_simp; all_goals with_reducible rfl
            try simp only [pt]
            refine tkH 10 ?_ ?_ ?_
            rotate_left
            · intro w h; try dsimp only at h
              obtain ⟨q0, q1, q2⟩ := h; go_simp; all_goals with_reducible rfl
            try simp only [pt]
            refine wpAnyH_ready (rs := [11]) (by kernel_rfl) (by simp) ?_
            refine rdH (fun K hK => ?_) ?_
            · go_simp
              refine hK.out _ _ ?_ (fun hH => ?_)
              · exact z6
              clear hK K
              try simp only [pt]
              refine wpAnyH_done (by kernel_rfl) ?_ _
              obtain ⟨F', x1, x2, x3⟩ := take_done HQ6.out HB3.out HRW.out HROW.out HGR.out HOWN.out
              have HX := Lib.hid (And.intro x1 (And.intro x2 x3))
              clear z3 z4 z5 z6 e3 e4 e5 g5 hrun HKP x1 x2 x3
              go_wp2
              go_ret
              exact ⟨rfl, F', HX.out.1, HL6.out.trans HX.out.2.1, fun x hx => by
                rcases HX.out.2.2 x hx with hy | hy
                · exact .inl hy
                · exact .inr (by have := HL6.out.size; omega)⟩
            exact AllReadyH.nil
          exact AllReadyH.nil
        exact AllReadyH.nil
      exact AllReadyH.nil
    refine rdH (fun K hK => ?_) ?_
    · go_simp
      refine (HC W.drew (isUs_same HU6.out fun _ _ _ => rfl)).out.mono ?_
      rintro e w3 ⟨rfl, hrw, hb3'⟩
      have hb3 : Below W.heap.size W w3 := ⟨hb3'.os, hb3'.tape, hb3'.output, hb3'.size, hb3'.block⟩
      obtain ⟨a', c', w5, hrun, HROW, HGR, HOWN, e5, g5, e3, e4, HKP⟩ := com_app HQ6.out.kn (Below.refl W.heap.size W) hb3 ⟨o, n, some ⟨W.heap.size + 2, 0, none⟩, us.length, us.length, us⟩ (by decide) HRL1.out 40 4 rfl
      obtain ⟨y3, y4, y5, y6⟩ := (show Rb w3 w.heap.size o n a us.length cap ∧ Rb (w3.alloc (.cells #[.int .i64 o, .int .i64 n, .slice (some ⟨W.heap.size + 2, 0, none⟩) us.length us.length] 35)) w.heap.size o n a us.length cap ∧ Rb w5 w.heap.size o n a us.length cap ∧ Rb (w5.setCell ⟨b, 4, none⟩ (.slice a' (rs.length + 1) c')) w.heap.size o n a us.length cap from take_rb hb3 HGR.out HR6.out HNF.out HNB.out)
      have z3 : w3.cell? ⟨w.heap.size, 0, none⟩ = some (.int .i64 o) ∧ w3.cell? ⟨w.heap.size, 1, none⟩ = some (.int .i64 n) ∧ w3.cell? ⟨w.heap.size, 2, none⟩ = some (.slice a us.length cap) := ⟨y3.c0, y3.c1, y3.c2⟩
      have z4 : (w3.alloc (.cells #[.int .i64 o, .int .i64 n, .slice (some ⟨W.heap.size + 2, 0, none⟩) us.length us.length] 35)).cell? ⟨w.heap.size, 0, none⟩ = some (.int .i64 o) ∧ (w3.alloc (.cells #[.int .i64 o, .int .i64 n, .slice (some ⟨W.heap.size + 2, 0, none⟩) us.length us.length] 35)).cell? ⟨w.heap.size, 1, none⟩ = some (.int .i64 n) ∧ (w3.alloc (.cells #[.int .i64 o, .int .i64 n, .slice (some ⟨W.heap.size + 2, 0, none⟩) us.length us.length] 35)).cell? ⟨w.heap.size, 2, none⟩ = some (.slice a us.length cap) := ⟨y4.c0, y4.c1, y4.c2⟩
      have z5 : w5.cell? ⟨w.heap.size, 0, none⟩ = some (.int .i64 o) ∧ w5.cell? ⟨w.heap.size, 1, none⟩ = some (.int .i64 n) ∧ w5.cell? ⟨w.heap.size, 2, none⟩ = some (.slice a us.length cap) := ⟨y5.c0, y5.c1, y5.c2⟩
      have z6 : (w5.setCell ⟨b, 4, none⟩ (.slice a' (rs.length + 1) c')).cell? ⟨w.heap.size, 0, none⟩ = some (.int .i64 o) ∧ (w5.setCell ⟨b, 4, none⟩ (.slice a' (rs.length + 1) c')).cell? ⟨w.heap.size, 1, none⟩ = some (.int .i64 n) ∧ (w5.setCell ⟨b, 4, none⟩ (.slice a' (rs.length + 1) c')).cell? ⟨w.heap.size, 2, none⟩ = some (.slice a us.length cap) := ⟨y6.c0, y6.c1, y6.c2⟩
      have HRW : Hid (Rw w3 (W.heap.size + 2) us) := Lib.hid hrw
      have HB3 := Lib.hid hb3
      clear hb3 hb3' hrw y3 y4 y5 y6
      go_wp2_with fail
      refine hK.out _ _ ?_ (fun hH => ?_)
      · exact z3
      clear hK K
      try simp only [pt]
      refine wpAnyH_ready (rs := [4, 7]) (by kernel_rfl) (by simp) ?_
      refine rdH (fun K hK => ?_) ?_
      · go_simp
        refine hK.out _ _ ?_ (fun hH => ?_)
        · exact z3
        clear hK K
        try simp only [pt]
        refine wpAnyH_ready (rs := [7]) (by kernel_rfl) (by simp) ?_
        refine rdH (fun K hK => ?_) ?_
        · go_simp
          refine hK.out _ _ ?_ (fun hH => ?_)
          · exact z4
          clear hK K
          try simp only [pt]
          refine wpAnyH_ready (rs := [8]) (by kernel_rfl) (by simp) ?_
          refine rdH (fun K hK => ?_) ?_
          · refine step_append_run (by rfl) (.tmp 44) (.tmp 47) 40 rfl _ _ _ rfl rfl hrun ?_
            refine hK.out _ _ ?_ (fun hH => ?_)
            · exact z5
            clear hK K
            try simp only [pt]
            refine tkH 9 ?_ ?_ ?_
            rotate_left
            · intro w h; try dsimp only at h
              obtain ⟨q0, q1, q2⟩ := h; go_simp; all_goals with_reducible rfl
            try simp only [pt]
            refine tkH 10 ?_ ?_ ?_
            rotate_left
            · intro w h; try dsimp only at h
              obtain ⟨q0, q1, q2⟩ := h; go_simp; all_goals with_reducible rfl
            try simp only [pt]
            refine wpAnyH_ready (rs := [11]) (by kernel_rfl) (by simp) ?_
            refine rdH (fun K hK => ?_) ?_
            · go_simp
              refine hK.out _ _ ?_ (fun hH => ?_)
              · exact z6
              clear hK K
              try simp only [pt]
              refine wpAnyH_done (by kernel_rfl) ?_ _
              obtain ⟨F', x1, x2, x3⟩ := take_done HQ6.out HB3.out HRW.out HROW.out HGR.out HOWN.out
              have HX := Lib.hid (And.intro x1 (And.intro x2 x3))
              clear z3 z4 z5 z6 e3 e4 e5 g5 hrun HKP x1 x2 x3
              go_wp2
              go_ret
              exact ⟨rfl, F', HX.out.1, HL6.out.trans HX.out.2.1, fun x hx => by
                rcases HX.out.2.2 x hx with hy | hy
                · exact .inl hy
                · exact .inr (by have := HL6.out.size; omega)⟩
            exact AllReadyH.nil
          exact AllReadyH.nil
        exact AllReadyH.nil
      refine rdH (fun K hK => ?_) ?_
      · go_simp
        refine hK.out _ _ ?_ (fun hH => ?_)
        · exact z4
        clear hK K
        try simp only [pt]
        refine wpAnyH_ready (rs := [4]) (by kernel_rfl) (by simp) ?_
        refine rdH (fun K hK => ?_) ?_
        · go_simp
          refine hK.out _ _ ?_ (fun hH => ?_)
          · exact z4
          clear hK K
          try simp only [pt]
          refine wpAnyH_ready (rs := [8]) (by kernel_rfl) (by simp) ?_
          refine rdH (fun K hK => ?_) ?_
          · refine step_append_run (by rfl) (.tmp 44) (.tmp 47) 40 rfl _ _ _ rfl rfl hrun ?_
            refine hK.out _ _ ?_ (fun hH => ?_)
            · exact z5
            clear hK K
            try simp only [pt]
            refine tkH 9 ?_ ?_ ?_
            rotate_left
            · intro w h; try dsimp only at h
              obtain ⟨q0, q1, q2⟩ := h; go_simp; all_goals with_reducible rfl
            try simp only [pt]
            refine tkH 10 ?_ ?_ ?_
            rotate_left
            · intro w h; try dsimp only at h
              obtain ⟨q0, q1, q2⟩ := h; go_simp; all_goals with_reducible rfl
            try simp only [pt]
            refine wpAnyH_ready (rs := [11]) (by kernel_rfl) (by simp) ?_
            refine rdH (fun K hK => ?_) ?_
            · go_simp
              refine hK.out _ _ ?_ (fun hH => ?_)
              · exact z6
              clear hK K
              try simp only [pt]
              refine wpAnyH_done (by kernel_rfl) ?_ _
              obtain ⟨F', x1, x2, x3⟩ := take_done HQ6.out HB3.out HRW.out HROW.out HGR.out HOWN.out
              have HX := Lib.hid (And.intro x1 (And.intro x2 x3))
              clear z3 z4 z5 z6 e3 e4 e5 g5 hrun HKP x1 x2 x3
              go_wp2
              go_ret
              exact ⟨rfl, F', HX.out.1, HL6.out.trans HX.out.2.1, fun x hx => by
                rcases HX.out.2.2 x hx with hy | hy
                · exact .inl hy
                · exact .inr (by have := HL6.out.size; omega)⟩
            exact AllReadyH.nil
          exact AllReadyH.nil
        exact AllReadyH.nil
      exact AllReadyH.nil
    exact AllReadyH.nil
theorem ctake_any (hn : s.kn.length ≤ 1000) (r : Rn) (hsm : Sm r.us) (w : World) (hu : Ru w r) (h : Pk B w b F s) :
    Calls Tryd.prog 26 #[.pointer (some ⟨b, 0, none⟩), rv r] w fun e w' => e = .returned (.int .i64 (s.takeE (kR r))) ∧ ∃ F', PkW B w w' b F F' (s.take (kR r)) := by
  obtain ⟨o, n, a, len, cap, us⟩ := r
  obtain rfl : us.length = len := hu.1.size
  by_cases ho : o = s.o
  · by_cases hk : s.k < s.uss.length
    · by_cases hb : n = ((s.k + 1 : Nat) : Int)
      · have e0 : s.takeE (kR ⟨o, n, a, us.length, cap, us⟩) = 0 := by show takeE _ _ _ o n = 0; unfold takeE; rw [if_pos ho, if_pos ⟨hk, hb⟩]
        have e1 : s.take (kR ⟨o, n, a, us.length, cap, us⟩) = { s with kn := s.kn ++ [(o, n, us)], k := s.k + 1 } := by
          unfold Cs.take
          rw [if_pos e0, if_pos (show (kR ⟨o, n, a, us.length, cap, us⟩).1 = s.o from ho)]
          rfl
        rw [e0, e1]
        exact ctake_own hn o n a cap us ho hk hb hsm w hu.1 h
      · have e0 : s.takeE (kR ⟨o, n, a, us.length, cap, us⟩) = 10 := by show takeE _ _ _ o n = 10; unfold takeE; rw [if_pos ho, if_neg fun x => hb x.2]
        rw [e0, take_no (by rw [e0]; decide)]
        refine (ctake_bad o n a cap us ho hk hb w hu.1 h).mono ?_
        rintro e w' ⟨rfl, hb'⟩
        exact ⟨rfl, F, pkW_no h hb'⟩
    · have e0 : s.takeE (kR ⟨o, n, a, us.length, cap, us⟩) = 10 := by show takeE _ _ _ o n = 10; unfold takeE; rw [if_pos ho, if_neg fun x => hk x.1]
      rw [e0, take_no (by rw [e0]; decide)]
      refine (ctake_none o n a cap us ho hk w hu.1 h).mono ?_
      rintro e w' ⟨rfl, hb'⟩
      exact ⟨rfl, F, pkW_no h hb'⟩
  · have e0 : s.takeE (kR ⟨o, n, a, us.length, cap, us⟩) = 0 := by show takeE _ _ _ o n = 0; unfold takeE; rw [if_neg ho]
    have e1 : s.take (kR ⟨o, n, a, us.length, cap, us⟩) = { s with kn := s.kn ++ [(o, n, us)] } := by
      unfold Cs.take
      rw [if_pos e0, if_neg (show ¬ (kR ⟨o, n, a, us.length, cap, us⟩).1 = s.o from ho)]
      rfl
    rw [e0, e1]
    exact ctake_other hn o n a cap us hsm ho w hu.1 h
end
end Go.Proofs.YtbbgibekplfacaaDoor
