/- Known; slices.Grow of nothing, slices.Concat of two rows; rounds. -/
import Derived.Test.YtbbgibekplfacaaDoorRH
import Derived.Test.YtbbgibekplfacaaDoorN2
import Derived.Test.YtbbgibekplfacaaDoorY6
import Derived.Lib.AppendZerosOnto
import Derived.Maps.AppendAt
import Derived.Maps.RangeWalk
import Derived.Lib.SliceRun
namespace Go.Proofs.YtbbgibekplfacaaDoor
open Go Go.RowKit
set_option maxRecDepth 20000
section
variable {B b : Nat} {F : Nat → Prop} {s : Cs}
set_option maxHeartbeats 8000000 in
theorem cknown_any (hn : s.kn.length ≤ 1000) (hs : ∀ r ∈ s.kn, Sm r.2.2) (w : World) (h : Pk B w b F s) :
    Calls Tryd.prog 14 #[.pointer (some ⟨b, 0, none⟩)] w fun e w' => ∃ g xs, e = .returned (.slice (some ⟨g, 0, none⟩) s.kn.length s.kn.length) ∧ Rz w' g xs ∧ w.heap.size ≤ g ∧ (∀ r ∈ xs, Own w.heap.size w' r) ∧ xs.map kR = s.kn ∧ Below w.heap.size w w' := by
  obtain ⟨jb, FJ, v, S, rs, vo, hj, rfl⟩ := h
  have he := hj.mp
  have hsm : ∀ i, i < rs.length → Sm (rs.getD i rn0).us := fun i hi => hs (kR (rs.getD i rn0)) (by rw [← he]; exact List.mem_map.2 ⟨_, rn_mem hi, rfl⟩)
  obtain ⟨ax, cp, rfl, hx, hc, hna⟩ := hj.kn.is
  obtain ⟨M, hM⟩ : ∃ M : Nat, rs.length = M := ⟨_, rfl⟩
  have hl : s.kn.length = M := by rw [← he, List.length_map, hM]
  rw [hl] at hn ⊢
  rw [hM] at hj hx hc hsm
  have HX := Lib.hid hsm
  have HE := Lib.hid he
  have HJ : Hid (∀ W, Below w.heap.size w W → W.cell? ⟨b, 4, none⟩ = some (.slice ax M cp)) := Lib.hid fun W hW => (hj.next hW).c4
  have c2 := HJ.out w (Below.refl _ _)
  have HI := Lib.hid hx
  have HM := Lib.hid hM
  clear hj he hs hx hc hna hl hsm hM
  obtain ⟨i0, hi, hz0, hz1, hz2⟩ := info_parts infoRz
  go_enter Tryd.func14, Tryd.ntmps14
  go_wp2_with (at_make; refine wpList_make_full _ rfl _ _ 40 rfl w.heap.size 35 i0 _ 3 Tryd.underlying40 hi hz0 hz1 .i64 .i64 (M : Int) (M : Int) M rfl rfl rfl rfl (by rw [hz2]; omega) (by unfold maxLen; omega) (by simp) ?_)
  intro w1 hown hgr
  have HP : Hid (Fm w w1 w.heap.size M rs 0 []) := Lib.hid ⟨rfl, by rw [Nat.sub_zero]; exact Rz.made hown, Nat.le_refl _, fun r hr => (by cases hr), fun i hi => absurd hi (Nat.not_lt_zero _), ⟨hgr.os, hgr.tape, hgr.output, hgr.size, fun k hk => hgr.block k hk (by simp)⟩⟩
  have c2 := HJ.out w1 HP.out.bel
  clear hown hgr hi hz0 hz1 hz2
  go_wp2_with fail
  clear c2
  go_loopw [17] (fun v17 wr => ∃ k : Nat, k ≤ M ∧ v17 = .int .i64 k ∧ ∃ xs, Fm w wr w.heap.size M rs k xs) (fun v17 _ => M - (intOf v17).toNat)
  case atStart => exact ⟨0, Nat.zero_le _, rfl, [], HP.out⟩
  case round =>
    obtain ⟨k, hk, rfl, xs, hp⟩ := hrel
    clear HP
    by_cases hlt : k < M
    · obtain ⟨gb, off, rfl, d0, d1, d2, hru⟩ := rcells_of HI.out hp.bel hlt
      have hsm := HX.out k hlt
      have HP := Lib.hid hp
      generalize hr : rs.getD k rn0 = r at *
      obtain ⟨ro, rn, ra, rl, rc, rus⟩ := r
      have HR := Lib.hid hr
      have hrl := hru.1.size
      simp only at d0 d1 d2 hsm hrl
      have HC := fun w hu => Lib.hid (rndcopy_any ro rn ra rl rc rus (by have := hsm.1; omega) (fun j hj => hsm.2 j (by omega)) w hu)
      have HU := Lib.hid (isUs_below hru.1 (Below.step hp.bel (.cells #[.int .i64 ro, .int .i64 rn, .slice ra rl rc] 35) (Below.refl _ _)))
      have HRL := Lib.hid hrl
      clear hp hru hsm hr hrl
      go_wp2_with fail
      refine (HC _ HU.out).out.mono ?_
      rintro e w3 ⟨rfl, hrw, hb⟩
      have hsz1 : (wr.alloc (.cells #[.int .i64 ro, .int .i64 rn, .slice ra rl rc] 35)).heap.size = wr.heap.size + 1 := by simp
      rw [hsz1] at hrw
      have hb2 : Below wr.heap.size wr w3 := Below.step (Below.refl _ _) _ hb
      have h3 := HP.out.rw.next hb2
      have hkl : k < (xs ++ List.replicate (M - k) rn0).length := by rw [List.length_append, List.length_replicate, HP.out.len]; omega
      obtain ⟨x0, x1, x2⟩ := h3.row k hkl
      have f0 := h3.f0 (k * 3)
      have f1 := h3.f0 (k * 3 + 1)
      have f2 := h3.f0 (k * 3 + 2)
      have HN := Lib.hid (HP.out.step hlt hb2 ⟨ro, rn, some ⟨wr.heap.size + 1 + 2, 0, none⟩, rl, rl, rus⟩ ⟨_, rfl, hrw, by omega, HRL.out.symm, HRL.out.symm⟩ (by rw [HR.out]; exact ⟨rfl, rfl, rfl⟩))
      clear hrw hb hb2 h3 hkl HC HU d0 d1 d2 HP
      go_wp2
      go_roundw
      case rel => exact ⟨k + 1, by omega, by go_num, _, HN.out⟩
      case measure => simp [intOf]; omega
    · obtain rfl : k = M := by omega
      have hr := hp.rw
      rw [Nat.sub_self, List.replicate_zero, List.append_nil] at hr
      have HRZ := Lib.hid hr
      have HP := Lib.hid hp
      clear hp hr
      go_wp2
      go_ret
      refine ⟨_, xs, rfl, HRZ.out, HP.out.lo, HP.out.own, ?_, HP.out.bel⟩
      rw [← HE.out]
      apply List.ext_getElem?
      intro i
      have hl1 := HP.out.len
      have hl2 := HM.out
      by_cases hi : i < k
      · obtain ⟨e1, e2, e3⟩ := HP.out.at' i hi
        have a1 : (xs.map kR)[i]? = some (kR (xs.getD i rn0)) := by rw [List.getElem?_map, List.getD_eq_getElem?_getD, List.getElem?_eq_getElem (show i < xs.length by omega)]; rfl
        have a2 : (rs.map kR)[i]? = some (kR (rs.getD i rn0)) := by rw [List.getElem?_map, List.getD_eq_getElem?_getD, List.getElem?_eq_getElem (show i < rs.length by omega)]; rfl
        rw [a1, a2]
        unfold kR
        rw [e1, e2, e3]
      · rw [List.getElem?_eq_none (by rw [List.length_map]; omega), List.getElem?_eq_none (by rw [List.length_map]; omega)]
end
set_option maxHeartbeats 4000000 in
theorem grow_any (n : Nat) (hn : n ≤ 100000) (w : World) :
    Calls Tryd.prog 75 #[.slice none 0 0, .int .i64 (n : Int)] w fun e w' => ∃ v, e = .returned v ∧ RowR w.heap.size w' v [] ∧ Below w.heap.size w w' := by
  have h1 : decide ((n : Int) < 0) = false := decide_eq_false (by omega)
  by_cases h0 : n = 0
  · subst h0
    clear h1 hn
    go_enter Tryd.func75, Tryd.ntmps75
    go_wp2
    go_ret
    exact ⟨_, rfl, rowR_nil _ _, Below.refl _ _⟩
  · have h4 : decide ((0 : Int) < (n : Int)) = true := decide_eq_true (by omega)
    have hw1 : IntKind.i64.wrap (n : Int) = n := i64_id (by omega) (by omega)
    have hw2 : wrap64 (n : Int) = n := by unfold wrap64; omega
    obtain ⟨i0, hi, hz0, hz1, hz2⟩ := info_parts infoRz
    have hzc : (Value.agg #[.int .i64 0, .int .i64 0, .slice none 0 0]).cells.size = 3 := rfl
    have hGn : n ≤ grownCap w n 0 35 := grownCap_ge w _ _ _
    have hGm : grownCap w n 0 35 ≤ maxLen := grownCap_le_maxLen w n 0 35 (by unfold maxLen; omega)
    have hrz : ∀ ty, (Builtin.append_ #[40, 3] ty #[.slice none 0 0, .int .i64 (n : Int)]).run Tryd.prog w =
        .ok (.slice (some ⟨w.heap.size, 0, none⟩) n (grownCap w n 0 35)) (w.drew.alloc (.cells (#[] ++ Builtin.zeroCells (Value.agg #[.int .i64 0, .int .i64 0, .slice none 0 0]).cells n ++ Builtin.zeroCells (Value.agg #[.int .i64 0, .int .i64 0, .slice none 0 0]).cells (grownCap w n 0 35 - n)) 35)) := fun ty => by
      have h := Lib.run_append_grow_zeros (P := Tryd.prog) w 40 3 ty 35 i0 _ .i64 .i64 Tryd.underlying40 Tryd.underlying3 hi hz0 none 0 0 [] (run_firstCells_none w.drew i0.size 0 0 0) n (by omega) (by rw [hz1]; omega) (by omega) (by omega) (by rw [hz2]; omega)
        (by rw [hz2]; exact growslice_fits (by omega) (by omega))
      rw [Nat.zero_add] at h
      exact h
    obtain ⟨G, hG⟩ : ∃ G, grownCap w n 0 35 = G := ⟨_, rfl⟩
    rw [hG] at hGn hGm hrz
    have hG63 : G ≤ 9223372036854775807 := by unfold maxLen at hGm; omega
    obtain ⟨A, hA⟩ : ∃ A, (#[] ++ Builtin.zeroCells (Value.agg #[.int .i64 0, .int .i64 0, .slice none 0 0]).cells n ++ Builtin.zeroCells (Value.agg #[.int .i64 0, .int .i64 0, .slice none 0 0]).cells (G - n)) = A := ⟨_, rfl⟩
    have hAs : A.size = G * 3 := by
      rw [← hA]
      simp [Builtin.zeroCells, hzc]
      omega
    rw [hA] at hrz
    have HB := Lib.hid ((Below.refl w.heap.size w).drew.alloc (Nat.le_refl _) (.cells A 35))
    have HR : Hid (RowR w.heap.size (w.drew.alloc (.cells A 35)) (.slice (some ⟨w.heap.size, 0, none⟩) 0 G) []) := by
      refine Lib.hid ⟨rfl, .inr ⟨w.heap.size, G, _, rfl, Nat.le_refl _, heap_alloc_new w.drew _, Nat.zero_le _, hGm, ?_, ?_⟩⟩
      · exact hAs
      · simp [flR]
    clear hG hi hz0 hz1 hz2 hzc hGm hA hAs
    go_enter Tryd.func75, Tryd.ntmps75
    go_wp2_with (at_builtin; refine Lib.wpList_append_run _ rfl _ _ _ _ rfl _ _ rfl rfl _ _ (hrz _) ?_)
    all_goals (go_ret; exact ⟨_, rfl, HR.out, HB.out⟩)
set_option maxHeartbeats 4000000 in
theorem concat_any (g : Nat) (a1 : Option Addr) (l1 c1 : Nat) (rs1 : List Rn) (a2 : Option Addr) (l2 c2 : Nat) (rs2 : List Rn) (h1c : l1 ≤ c1) (h1n : a1 = none → c1 = 0) (h2c : l2 ≤ c2) (h2n : a2 = none → c2 = 0) (hl : l1 + l2 ≤ 100000) (w : World)
    (hg : w.heap[g]? = some (.cells #[.slice a1 l1 c1, .slice a2 l2 c2] 40 (0, 0))) (h1 : IsRs w a1 l1 rs1) (h2 : IsRs w a2 l2 rs2) :
    Calls Tryd.prog 61 #[.slice (some ⟨g, 0, none⟩) 2 2] w fun e w' => ∃ a c, e = .returned (.slice a (l1 + l2) c) ∧ IsRs w' a (l1 + l2) (rs1 ++ rs2) ∧ l1 + l2 ≤ c ∧ (a = none → c = 0) ∧ Below w.heap.size w w' := by
  have hgl : g < w.heap.size := (Array.getElem?_eq_some_iff.1 hg).1
  have g0 : w.cell? ⟨g, 0, none⟩ = some (.slice a1 l1 c1) := cell_at hg 0 _ rfl
  have g1 : w.cell? ⟨g, 1, none⟩ = some (.slice a2 l2 c2) := cell_at hg 1 _ rfl
  have hs1 := h1.size
  have hs2 := h2.size
  have q1 : decide ((l1 : Int) < 0) = false := decide_eq_false (by omega)
  have q2 : decide ((l1 : Int) + (l2 : Int) < 0) = false := decide_eq_false (by omega)
  have w1 : wrap64 (l1 : Int) = l1 := by unfold wrap64; omega
  have w2 : wrap64 ((l1 : Int) + (l2 : Int)) = (l1 : Int) + (l2 : Int) := by unfold wrap64; omega
  have k1 : IntKind.i64.wrap (l1 : Int) = l1 := i64_id (by omega) (by omega)
  have k2 : IntKind.i64.wrap ((l1 : Int) + (l2 : Int)) = (l1 : Int) + (l2 : Int) := i64_id (by omega) (by omega)
  have HC : Hid (∀ W, Below w.heap.size w W → W.cell? ⟨g, 0, none⟩ = some (.slice a1 l1 c1) ∧ W.cell? ⟨g, 1, none⟩ = some (.slice a2 l2 c2)) := Lib.hid fun W hW => ⟨(hW.cell hgl).trans g0, (hW.cell hgl).trans g1⟩
  have HG := Lib.hid (grow_any (l1 + l2) hl w)
  rw [show ((l1 + l2 : Nat) : Int) = (l1 : Int) + (l2 : Int) by omega] at HG
  have H1 := Lib.hid h1
  have H2 := Lib.hid h2
  have HS1 := Lib.hid hs1
  have HS2 := Lib.hid hs2
  have H1C := Lib.hid (And.intro h1c h1n)
  have H2C := Lib.hid (And.intro h2c h2n)
  have HL := Lib.hid hl
  clear h1 h2 hs1 hs2 h1c h1n h2c h2n hl hg hgl
  go_enter Tryd.func61, Tryd.ntmps61
  go_wp2_with fail
  refine wp_loop_rounds 3 ?_
  rw [rounds_succ]
  go_wp2_with fail
  rw [rounds_succ]
  go_wp2_with fail
  rw [rounds_succ]
  go_wp2_with fail
  refine HG.out.mono ?_
  rintro e w3 ⟨v, rfl, hr, hb⟩
  obtain ⟨x0, x1⟩ := HC.out _ hb
  have HR := Lib.hid hr
  have HB := Lib.hid hb
  have hlo := hb.size
  clear hr hb g0 g1
  go_wp2_with fail
  refine wp_loop_rounds 3 ?_
  rw [rounds_succ]
  have HI1 := Lib.hid (isRs_below H1.out HB.out).at
  go_wp2_with (first
    | (at_builtin; refine wpList_appR rfl _ _ rfl w.heap.size _ [] rfl HR.out a1 l1 c1 rfl rs1 HI1.out H1C.out.1 H1C.out.2 (by have := HL.out; simp; omega) hlo ?_; intro a4 c4 w4 hr4 hg4 ho4; go_frame)
    | go_in)
  simp only [List.nil_append, List.length_nil, Nat.zero_add] at hr4 ⊢
  obtain ⟨v4, hv4⟩ : ∃ v4, Value.slice a4 l1 c4 = v4 := ⟨_, rfl⟩
  rw [hv4] at hr4
  simp only [hv4]
  have HB4 := Lib.hid (belR HR.out HB.out hg4 hlo)
  have HR4 := Lib.hid hr4
  obtain ⟨y0, y1⟩ := HC.out _ HB4.out
  have hlo4 := HB4.out.size
  have HI2 := Lib.hid (isRs_below H2.out HB4.out).at
  clear hr4 hg4 ho4 x0 x1 HR HI1 hv4
  rw [rounds_succ]
  go_wp2_with (first
    | (at_builtin; refine wpList_appR rfl _ _ rfl w.heap.size _ rs1 rfl HR4.out a2 l2 c2 rfl rs2 HI2.out H2C.out.1 H2C.out.2 (by have := HS1.out; have := HL.out; omega) hlo4 ?_; intro a5 c5 w5 hr5 hg5 ho5; go_frame)
    | go_in)
  have HB5 := Lib.hid (belR HR4.out HB4.out hg5 hlo4)
  have HR5 := Lib.hid hr5
  clear hr5 hg5 ho5 y0 y1 HR4 HI2
  rw [rounds_succ]
  go_wp2
  go_ret
  obtain ⟨a, c, e, hx, hc, hn⟩ := HR5.out.is
  simp only [Value.slice.injEq] at e
  obtain ⟨rfl, _, rfl⟩ := e
  have hll : (rs1 ++ rs2).length = l1 + l2 := by rw [List.length_append, HS1.out, HS2.out]
  have e1 : rs1.length = l1 := HS1.out
  rw [hll] at hx hc
  refine ⟨a5, c5, ?_, ⟨hll, hx.lies, fun r hr => ?_⟩, hc, hn, HB5.out⟩
  · rw [e1]; rfl
  · rcases List.mem_append.1 hr with hr | hr
    · exact (H1.out.each r hr).below HB5.out
    · exact (H2.out.each r hr).below HB5.out
theorem Of.flat {o : Int} {k : Nat} {uss : List (List Up)} {rs : List Rn} (h : Of o k uss rs) : Y.flatR rs = uss.flatten := by
  have e : rs.map (·.us) = uss := by
    apply List.ext_getElem?
    intro i
    by_cases hi : i < uss.length
    · have h1 := (h.at' i hi).2.2
      have h2 := h.len
      rw [List.getElem?_map, List.getElem?_eq_getElem (show i < rs.length by omega), List.getElem?_eq_getElem hi]
      simp only [List.getD_eq_getElem?_getD, List.getElem?_eq_getElem (show i < rs.length by omega), List.getElem?_eq_getElem hi, Option.getD_some] at h1
      simp [h1]
    · rw [List.getElem?_eq_none (by rw [List.length_map, h.len]; omega), List.getElem?_eq_none (by omega)]
  rw [← e]
  simp [Y.flatR, List.flatMap]
theorem flat_kn (rs : List Rn) : Y.flatR rs = (rs.map kR).flatMap fun r => r.2.2 := by
  simp [Y.flatR, List.flatMap]
  rfl
section
variable {B b : Nat} {F : Nat → Prop} {s : Cs}
set_option maxHeartbeats 4000000 in
theorem crounds_any (hk : s.k ≤ s.uss.length) (hn0 : s.kn.length + s.uss.length ≤ 1000) (w : World) (h : Pk B w b F s) :
    Calls Tryd.prog 44 #[.pointer (some ⟨b, 0, none⟩)] w fun e w' => ∃ a n c rs, e = .returned (.slice a n c) ∧ IsRs w' a n rs ∧ n ≤ c ∧ (a = none → c = 0) ∧ Y.flatR rs = (s.kn.flatMap fun r => r.2.2) ++ (s.uss.drop s.k).flatten ∧ n ≤ 1000 ∧ Below w.heap.size w w' := by
  have hn : s.uss.length ≤ 1000 := by omega
  have HP := Lib.hid (cpend_any hk hn w.drew (h.asit rfl))
  obtain ⟨jb, FJ, v, S, rs, vo, hq, rfl⟩ := h
  obtain ⟨ax, cp, rfl, hx, hc, hna⟩ := hq.kn.is
  have hl : rs.length + s.uss.length ≤ 1000 := by rw [← hq.mp, List.length_map] at hn0; exact hn0
  have HF := Lib.hid (flat_kn rs)
  rw [hq.mp] at HF
  have c4 := hq.c4
  have HK : Hid (∀ W, Below w.heap.size w W → W.cell? ⟨b, 4, none⟩ = some (.slice ax rs.length cp)) := Lib.hid fun W hW => (hq.next hW).c4
  have HI := Lib.hid hx
  obtain ⟨D, hD⟩ : ∃ D, s.uss.length - s.k = D := ⟨_, rfl⟩
  have hD2 : rs.length + D ≤ 1000 := by omega
  rw [hD] at HP
  have HC := fun (W : World) (g : Nat) (xs : List Rn) h1 h2 h3 => Lib.hid (concat_any W.heap.size ax rs.length cp rs (some ⟨g, 0, none⟩) D D xs hc hna (Nat.le_refl _) (fun e => by cases e) (by omega) (W.alloc (.cells #[.slice ax rs.length cp, .slice (some ⟨g, 0, none⟩) D D] 40)) h1 h2 h3)
  have HDL : Hid ((s.uss.drop s.k).length = D) := Lib.hid (by rw [List.length_drop]; exact hD)
  generalize rs.length = L at *
  clear hq hx hc hna hk hn hn0 hD hl
  go_enter Tryd.func44, Tryd.ntmps44
  go_wp2_with fail
  refine wp_region_held_drew (S := fun w' => w'.cell? ⟨b, 4, none⟩ = some (.slice ax L cp)) (by kernel_rfl) ?_ (fun hH => ?_)
  · exact c4
  refine tkH 0 ?_ ?_ ?_
  rotate_left
  · intro w hSw
    try dsimp only at hSw
    go_simp
    all_goals with_reducible rfl
  try simp only [pt]
  refine tkH 1 ?_ ?_ ?_
  rotate_left
  · intro w hSw
    try dsimp only at hSw
    go_simp
    all_goals with_reducible rfl
  try simp only [pt]
  refine tkH 2 ?_ ?_ ?_
  rotate_left
  · intro w hSw
    try dsimp only at hSw
    go_simp
    all_goals with_reducible rfl
  try simp only [pt]
  refine tkH 3 ?_ ?_ ?_
  rotate_left
  · intro w hSw
    try dsimp only at hSw
    go_simp
    all_goals with_reducible rfl
  try simp only [pt]
  refine tkH 4 ?_ ?_ ?_
  rotate_left
  · intro w hSw
    try dsimp only at hSw
    go_simp
    all_goals with_reducible rfl
  try simp only [pt]
  refine wpAnyH_ready (rs := [5]) (by kernel_rfl) (by simp) ?_
  refine rdH (fun K hK => ?_) ?_
  · go_simp
    refine HP.out.mono ?_
    rintro e w1 ⟨g, xs, rfl, x1, x2, x3, x4, hb'⟩
    have hb : Below w.heap.size w w1 := ⟨hb'.os, hb'.tape, hb'.output, hb'.size, hb'.block⟩
    have n1 := HK.out _ hb
    have hB2 := Below.step hb (.cells #[.slice ax L cp, .slice (some ⟨g, 0, none⟩) D D] 40) (Below.refl _ _)
    have n2 := HK.out _ hB2
    have hxl : xs.length = D := by rw [x4.len]; exact HDL.out
    have HCC := HC w1 g xs (heap_alloc_new _ _) (isRs_below HI.out hB2) (isRs_below ⟨hxl, fun h0 => by have := x1.at.lies (by omega); exact this, fun r hr => (x3 r hr).ru⟩ (Joins.below_alloc1 _ _))
    have HFX := Lib.hid x4.flat
    have HB2 := Lib.hid hB2
    clear x1 x2 x3 x4 hb hb' hB2 hxl HC HP
    go_wp2_with fail
    refine hK.out _ _ ?_ (fun hH => ?_)
    · exact n1
    clear hK K
    try simp only [pt]
    refine wpAnyH_ready (rs := [6]) (by kernel_rfl) (by simp) ?_
    refine rdH (fun K hK => ?_) ?_
    · go_simp
      refine hK.out _ _ ?_ (fun hH => ?_)
      · exact n2
      clear hK K
      try simp only [pt]
      refine wpAnyH_ready (rs := [7]) (by kernel_rfl) (by simp) ?_
      refine rdH (fun K hK => ?_) ?_
      · go_simp
        refine HCC.out.mono ?_
        rintro e w3 ⟨a, c, rfl, y1, y2, y3, hb⟩
        have hb3 := Below.next HB2.out hb
        have n3 := HK.out _ hb3
        have HX := Lib.hid (And.intro y1 (And.intro y2 (And.intro y3 hb3)))
        clear y1 y2 y3 hb hb3 HCC n1 n2
        go_wp2_with fail
        refine hK.out _ _ ?_ (fun hH => ?_)
        · exact n3
        clear hK K
        try simp only [pt]
        refine tkH 8 ?_ ?_ ?_
        rotate_left
        · intro w hSw
          try dsimp only at hSw
          go_simp
          all_goals with_reducible rfl
        try simp only [pt]
        refine wpAnyH_done (by kernel_rfl) ?_ _
        clear n3 c4
        go_wp2
        go_ret
        exact ⟨a, _, c, _, rfl, HX.out.1, HX.out.2.1, HX.out.2.2.1, by rw [Y.flatR_app, HF.out, HFX.out], by omega, HX.out.2.2.2⟩
      exact AllReadyH.nil
    exact AllReadyH.nil
  exact AllReadyH.nil
end
end Go.Proofs.YtbbgibekplfacaaDoor
