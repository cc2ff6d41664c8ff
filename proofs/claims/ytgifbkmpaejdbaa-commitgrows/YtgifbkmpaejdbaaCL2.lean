/- The walk of CommitGrows. -/
import Derived.Test.YtgifbkmpaejdbaaC8
namespace Go.Proofs.Ytgifbkmpaejdbaa
open Go Go.RowKit
set_option maxRecDepth 20000
/-- Rows of what All told are left by a call that writes in elder blocks alone. -/
theorem rz_left {w w' : World} {B g : Nat} {xs : List Rn} {F : Nat → Prop} (hr : Rz w g xs) (ho : ∀ r ∈ xs, Own B w r) (hg : B ≤ g) (hl : Lv w w' F) (hF : ∀ j, B ≤ j → ¬ F j) : Rz w' g xs ∧ ∀ r ∈ xs, Own B w' r := by
  refine ⟨(hl.block g hr.lt (hF g hg)).trans hr, fun r hx => ?_⟩
  obtain ⟨g', e1, h1, h2, h3⟩ := ho r hx
  exact ⟨g', e1, (hl.block g' h1.lt (hF g' h2)).trans h1, h2, h3⟩
theorem rz_next {w w' : World} {B g : Nat} {xs : List Rn} (hr : Rz w g xs) (ho : ∀ r ∈ xs, Own B w r) (hb : Below w.heap.size w w') : Rz w' g xs ∧ ∀ r ∈ xs, Own B w' r := by
  refine ⟨hr.next hb, fun r hx => ?_⟩
  obtain ⟨g', e1, h1, h2, h3⟩ := ho r hx
  exact ⟨g', e1, h1.next hb, h2, h3⟩
theorem slR_front (a : Option Addr) (len cap n : Nat) (h : n ≤ cap) (w : World) : (Instr.sliceAt 22 (.slice a len cap) none (some (.int .i64 n)) none).run Try.prog w = .ok (.slice a n cap) w := by
  rw [run_sliceAt_slice _ _ _ _ _ _ Try.underlying22]
  cases a <;> simp [Instr.slice, Instr.sliceBounds, Instr.sliceBound, asIntOf, run_underlying Try.underlying22, go_sem] <;> (intro hx; omega)
theorem IsRs.front {w : World} {a : Option Addr} {len : Nat} {rs : List Rn} (h : IsRs w a len rs) {n : Nat} (hn : n ≤ len) : IsRs w a n (rs.take n) := by
  have hs := h.size
  refine ⟨by rw [List.length_take]; omega, fun h0 => ?_, fun r hr => h.each r (List.mem_of_mem_take hr)⟩
  obtain ⟨b, off, rfl, hf⟩ := h.lies (by omega)
  refine ⟨b, off, rfl, three fun i hi => ?_⟩
  rw [List.length_take] at hi
  have h1 := hf.o i (by omega)
  have h2 := hf.n i (by omega)
  have h3 := hf.u i (by omega)
  have e1 : (rs.take n).getD i rn0 = rs.getD i rn0 := by simp only [List.getD_eq_getElem?_getD]; rw [List.getElem?_take, if_pos (by omega)]
  rw [e1]
  exact ⟨h1, h2, h3⟩
theorem us_le2 {L L' : List Cr} (hs : ∀ r ∈ L, Sm r.2.2) {xs : List Rn} (h : xs.map kR = L') (hL : ∀ r ∈ L', r ∈ L) : ∀ i, i < xs.length → (xs.getD i rn0).us.length ≤ 1000000 := us_le (fun r hr => hs r (hL r hr)) h
set_option maxHeartbeats 16000000 in
theorem walkGrows (c0 : Int) (a : Option Addr) (len cap : Nat) (rs : List Rn) (w : World) (h : IsRs w a len rs) :
    Calls Try.prog 7 #[.int .i64 c0, .slice a len cap] w fun e w' => e = .returned (.bool true) ∧ Below w.heap.size w w' := by
  have H := Lib.hid h
  have hsz := h.size
  clear h
  go_enter Try.func7, Try.ntmps7
  go_wp2_with fail
  refine (cnew_any c0 w.heap.size w (Nat.le_refl _)).mono ?_
  rintro e w1 ⟨rfl, hj, hb⟩
  have H1 : Hid (Cj 53 Pc w w1 w.heap.size _ (clP c0) []) := Lib.hid ⟨hb, hj⟩
  generalize Jf w.heap.size (.slice none 0 0) (fun _ => False) = F0 at H1
  clear hj hb
  generalize clP c0 = c at *
  by_cases hg : gRs rs
  · go_wp2_with fail
    refine (awake_any _).mono ?_
    rintro e w2 ⟨rfl, hb⟩
    have H2 := Lib.hid (H1.out.next hb)
    clear hb H1
    go_wp2_with fail
    refine (greatRs_yes a len cap rs hg _ (isRs_below H.out H2.out.bel)).mono ?_
    rintro e w3 ⟨rfl, hb⟩
    have H3 := Lib.hid (H2.out.next hb)
    clear hb H2
    go_wp2_with fail
    refine (awake_any _).mono ?_
    rintro e w4 ⟨rfl, hb⟩
    have H4 := Lib.hid (H3.out.next hb)
    clear hb H3
    go_wp2
    go_ret
    exact ⟨rfl, H4.out.bel⟩
  obtain ⟨hl40, hgl⟩ := gRs_at hg
  have HG := Lib.hid hgl
  have HNG := fun w h => Lib.hid (greatRs_no a len cap rs hg w h)
  have hlen : len ≤ 40 := by omega
  clear hgl hl40 hg
  go_wp2_with fail
  refine (awake_any _).mono ?_
  rintro e w2 ⟨rfl, hb⟩
  have H2 := Lib.hid (H1.out.next hb)
  clear hb H1
  go_wp2_with fail
  refine (HNG _ (isRs_below H.out H2.out.bel)).out.mono ?_
  rintro e w3 ⟨rfl, hb⟩
  have H3 := Lib.hid (H2.out.next hb)
  clear hb H2 HNG
  go_wp2_with fail
  go_loopw [26] (fun v26 wr => ∃ k : Nat, k ≤ len ∧ v26 = .int .i64 k ∧ ∃ F L, L = sofar c rs k ∧ Cj 53 Pc w wr w.heap.size F c L) (fun v26 _ => len - (intOf v26).toNat)
  case atStart => exact ⟨0, Nat.zero_le _, rfl, F0, [], rfl, H3.out⟩
  case round =>
    obtain ⟨k, hk, rfl, F, L, hL, hp⟩ := hrel
    clear H3
    by_cases hlt : k < len
    · obtain ⟨gb, off, rfl, d0, d1, d2, hru⟩ := rcells_of H.out hp.bel hlt
      obtain ⟨_, hsm⟩ := HG.out k (by omega)
      have HRU0 := Lib.hid hru
      have hru2 := (hru.below hp.bel).below (Joins.below_alloc1 wr (.cells #[.int .i64 (rs.getD k rn0).o, .int .i64 (rs.getD k rn0).n, .slice (rs.getD k rn0).a (rs.getD k rn0).len (rs.getD k rn0).cap] 31))
      have hst := sofar_step c (rs := rs) (k := k) (by omega)
      have hsl := sofar_len c rs k
      rw [← hL] at hst hsl
      have HPA := Lib.hid (hp.next (Joins.below_alloc1 wr (.cells #[.int .i64 (rs.getD k rn0).o, .int .i64 (rs.getD k rn0).n, .slice (rs.getD k rn0).a (rs.getD k rn0).len (rs.getD k rn0).cap] 31)))
      have HF8 : Hid (∀ j, wr.heap.size ≤ j → ¬ F j) := Lib.hid fun j hj hF => by have := (hp.j.foot j hF).2; omega
      generalize rs.getD k rn0 = r at *
      obtain ⟨ro, rn, ra, rl, rc, rus⟩ := r
      simp only at d0 d1 d2 hsm hru2 HPA HRU0
      have HST := Lib.hid hst
      have HRU := Lib.hid hru2
      have HSM := Lib.hid hsm
      have h8 := Rb.new wr ro rn ra rl rc
      have HR8 := Lib.hid h8
      have e0 := h8.c0
      have e1 := h8.c1
      have e2 := h8.c2
      have hL1000 : L.length ≤ 1000 := by omega
      clear hru hru2 hst hp hL hsm h8
      by_cases he : comE c L (ro, rn, rus) = 0
      · obtain ⟨M, hM⟩ : ∃ M, L.length = M := ⟨_, rfl⟩
        have HC1 := fun W h => Lib.hid (call_any (L := L) (B := w.heap.size) (b := w.heap.size) (F := F) (c := c) hL1000 W h)
        rw [hM] at HC1
        have hM40 : M ≤ 40 := by omega
        have HE := Lib.hid he
        have HM := Lib.hid hM
        have HLL := Lib.hid hL1000
        clear he hM hL1000 hsl
        go_wp2_with fail
        refine (HC1 _ HPA.out.j).out.mono ?_
        rintro e w3 ⟨g1, xs, rfl, hrz, hg1, how, hxs, hb⟩
        have h8 := HR8.out.next hb
        have hP3 := HPA.out.next hb
        have hA := cadd_any (L := L) HLL.out ⟨ro, rn, ra, rl, rc, rus⟩ HSM.out w3 (HRU0.out.below hP3.bel) hP3.j
        have e0' := h8.c0
        have e1' := h8.c1
        have e2' := h8.c2
        have HH8 := Lib.hid h8
        have HP3 := Lib.hid hP3
        have HRZ := Lib.hid hrz
        have HOW := Lib.hid how
        have HG1 := Lib.hid hg1
        have HXS := Lib.hid hxs
        have he' : comE c L (kR ⟨ro, rn, ra, rl, rc, rus⟩) = 0 := HE.out
        rw [he'] at hA
        have HA := Lib.hid hA
        clear hrz hg1 how hxs hb h8 hP3 hA e0 e1 e2 HC1
        go_wp2_with fail
        refine HA.out.mono ?_
        rintro e w4 ⟨rfl, F', hc⟩
        have hsz : wr.heap.size ≤ (wr.alloc (.cells #[.int .i64 ro, .int .i64 rn, .slice ra rl rc] 31)).heap.size := by simp
        obtain ⟨hrz, how⟩ := rz_left HRZ.out HOW.out HG1.out hc.lv (fun j hj => HF8.out j (by omega))
        have hP4 := HP3.out.com hc
        rw [comL_yes he'] at hP4
        have HP4 : Hid (Cj 53 Pc w w4 w.heap.size F' c (L ++ [(ro, rn, rus)])) := Lib.hid hP4
        have h8 := HH8.out.left hc.lv (HF8.out _ (Nat.le_refl _))
        have HH8 := Lib.hid h8
        have HRZ := Lib.hid hrz
        have HOW := Lib.hid how
        have HSM4 := Lib.hid hP4.j.sm
        have HST2 : Hid ((L ++ [(ro, rn, rus)]) = sofar c rs (k + 1)) := Lib.hid (by rw [HST.out, comL_yes he']; rfl)
        obtain ⟨M1, hM1⟩ : ∃ M1, M + 1 = M1 := ⟨_, rfl⟩
        have hML : (L ++ [(ro, rn, rus)]).length = M1 := by rw [List.length_append, HM.out]; exact hM1
        have HC2 := fun W h => Lib.hid (call_any (L := L ++ [(ro, rn, rus)]) (B := w.heap.size) (b := w.heap.size) (F := F') (c := c) (by rw [hML]; omega) W h)
        rw [hML] at HC2
        have hMM : M < M1 := by omega
        have hwr : IntKind.i64.wrap ((M : Int) + 1) = (M1 : Int) := by rw [i64_id (by omega) (by omega)]; omega
        have hwr2 : wrap64 ((M : Int) + 1) = (M1 : Int) := by unfold wrap64; omega
        have q1 : decide ((M1 : Int) < (M : Int)) = false := decide_eq_false (by omega)
        have HML := Lib.hid hML
        have HM1 := Lib.hid hM1
        clear hM1 hML
        clear hc hP4 h8 hrz how HA HP3 e0' e1' e2' he'
        go_wp2_with fail
        refine (HC2 _ HP4.out.j).out.mono ?_
        rintro e w5 ⟨g2, ys, rfl, hrz2, hg2, how2, hys, hb⟩
        obtain ⟨hrz, how⟩ := rz_next HRZ.out HOW.out hb
        have hxl := map_len HXS.out
        rw [HM.out] at hxl
        have hix := rz_is hrz how
        rw [hxl] at hix
        have hyl := map_len hys
        rw [HML.out] at hyl
        have hiy := rz_is hrz2 how2
        rw [hyl] at hiy
        have HP5 := Lib.hid (HP4.out.next hb)
        have HH8 := Lib.hid (HH8.out.next hb)
        have hsl1 := fun W => slR_front (some ⟨g2, 0, none⟩) M1 M1 M (by omega) W
        have hal : Alk M (ys.take M) xs := alk_of (by
          rw [List.map_take, hys, HXS.out, show M = L.length from HM.out.symm, List.take_left]) M
        have hsy : ∀ i, i < M → ((ys.take M).getD i rn0).us.length ≤ 1000000 := fun i hi => by
          have e1 : (ys.take M).getD i rn0 = ys.getD i rn0 := by simp only [List.getD_eq_getElem?_getD]; rw [List.getElem?_take, if_pos hi]
          rw [e1]
          exact us_le HSM4.out hys i (by omega)
        have HSA := Lib.hid (sameall_yes (some ⟨g2, 0, none⟩) (some ⟨g1, 0, none⟩) M M1 M (ys.take M) xs (by omega) hal hsy w5 (hiy.front (by omega)) hix)
        have HIY := Lib.hid hiy
        have HYS := Lib.hid hys
        have HRZ2 := Lib.hid hrz2
        have HOW2 := Lib.hid how2
        have HYL := Lib.hid hyl
        clear hrz2 hg2 how2 hys hb hrz how hxl hix hyl hiy hal hsy HP4 HRZ HOW HC2
        go_wp2_with fail
        refine HSA.out.mono ?_
        rintro e w6 ⟨rfl, hb⟩
        have HP6 := Lib.hid (HP5.out.next hb)
        have HH8 := Lib.hid (HH8.out.next hb)
        have hrz6 := HRZ2.out.next hb
        have hky : kR (ys.getD M rn0) = (ro, rn, rus) := by
          rw [← map_getD, HYS.out, List.getD_eq_getElem?_getD, show M = L.length from HM.out.symm, List.getElem?_concat_length]
          rfl
        have hyo := (HIY.out.each _ (rn_mem (show M < ys.length by have := HYL.out; omega)))
        obtain ⟨x0, x1, x2⟩ := hrz6.row M (by have := HYL.out; omega)
        generalize ys.getD M rn0 = y at *
        obtain ⟨yo, yn, ya, yl, yc, yus⟩ := y
        unfold kR at hky
        simp only [Prod.mk.injEq] at hky
        obtain ⟨z1, z2, z3⟩ := hky
        subst z1 z2 z3
        simp only at x0 x1 x2
        have hyu := hyo.1
        simp only at hyu
        have hru5 := HRU0.out.below HP5.out.bel
        have hylen : yl = rl := hyu.size.symm.trans hru5.1.size
        subst hylen
        have hul : yl ≤ 1000 := by have := HSM.out.1; have := hyu.size; omega
        have hgl := hrz6.lt
        have HU1 := Lib.hid (isUs_below hyu hb)
        have HU2 := Lib.hid (isUs_below hru5.1 hb)
        have HDS := fun W h1 h2 => Lib.hid (ds_yes yo yn ya ra yl yc rc yus (by omega) W h1 h2)
        have HK : Hid (∀ W, Below w6.heap.size w6 W → (W.cell? ⟨wr.heap.size, 0, none⟩ = some (.int .i64 yo) ∧ W.cell? ⟨wr.heap.size, 1, none⟩ = some (.int .i64 yn) ∧ W.cell? ⟨wr.heap.size, 2, none⟩ = some (.slice ra yl rc)) ∧ W.cell? ⟨g2, M * 3, none⟩ = some (.int .i64 yo) ∧ W.cell? ⟨g2, M * 3 + 1, none⟩ = some (.int .i64 yn) ∧ W.cell? ⟨g2, M * 3 + 2, none⟩ = some (.slice ya yl yc)) := Lib.hid fun W hW => ⟨⟨(HH8.out.next hW).c0, (HH8.out.next hW).c1, (HH8.out.next hW).c2⟩, (hW.cell hgl).trans x0, (hW.cell hgl).trans x1, (hW.cell hgl).trans x2⟩
        have z0 := HK.out w6.drew (Below.refl _ _).drew
        clear hb hyo hyu hru5 hrz6 x0 x1 x2 hgl HP5 HSA HIY HRZ2 HOW2
        go_wp2_with fail
        refine wp_region_held_drew (S := fun w' => (w'.cell? ⟨wr.heap.size, 0, none⟩ = some (.int .i64 yo) ∧ w'.cell? ⟨wr.heap.size, 1, none⟩ = some (.int .i64 yn) ∧ w'.cell? ⟨wr.heap.size, 2, none⟩ = some (.slice ra yl rc)) ∧ w'.cell? ⟨g2, M * 3, none⟩ = some (.int .i64 yo) ∧ w'.cell? ⟨g2, M * 3 + 1, none⟩ = some (.int .i64 yn) ∧ w'.cell? ⟨g2, M * 3 + 2, none⟩ = some (.slice ya yl yc)) (by kernel_rfl) ?_ (fun hH => ?_)
        · exact z0
        refine wpAnyH_take (i := 0) (oi := { dst := some 51, op := Go.Op.move (Go.Operand.tmp 9), type := 32, pos := "law.go:122", after := #[], guard := none }) (v := ?_) rfl (by kernel_rfl) (by kernel_rfl) (by kernel_rfl) (fun _ _ _ h => h) (Or.inl ⟨by rfl, ?_⟩) (by assumption) ?_
        rotate_left
        · intro w hSw
          try dsimp only at hSw
          obtain ⟨⟨q1, q2, q3⟩, q4, q5, q6⟩ := hSw
          go_simp
          all_goals with_reducible rfl
        try simp only [Act.put, List.setIfInBounds_toArray, List.set_cons_zero, List.set_cons_succ]
        refine wpAnyH_take (i := 1) (oi := { dst := some 52, op := Go.Op.binOp Go.BinOp.neq 32 (Go.Operand.tmp 51) (Go.Operand.const (Go.Value.int Go.IntKind.i64 0)) 32, type := 4, pos := "law.go:122", after := #[{ on := 0, ground := Go.Ground.data }], guard := none }) (v := ?_) rfl (by kernel_rfl) (by kernel_rfl) (by kernel_rfl) (fun _ _ _ h => h) (Or.inl ⟨by rfl, ?_⟩) (by assumption) ?_
        rotate_left
        · intro w hSw
          try dsimp only at hSw
          obtain ⟨⟨q1, q2, q3⟩, q4, q5, q6⟩ := hSw
          go_simp
          all_goals with_reducible rfl
        try simp only [Act.put, List.setIfInBounds_toArray, List.set_cons_zero, List.set_cons_succ]
        refine wpAnyH_take (i := 2) (oi := { dst := some 53, op := Go.Op.move (Go.Operand.tmp 52), type := 4, pos := "law.go:122", after := #[{ on := 1, ground := Go.Ground.data }], guard := none }) (v := ?_) rfl (by kernel_rfl) (by kernel_rfl) (by kernel_rfl) (fun _ _ _ h => h) (Or.inl ⟨by rfl, ?_⟩) (by assumption) ?_
        rotate_left
        · intro w hSw
          try dsimp only at hSw
          obtain ⟨⟨q1, q2, q3⟩, q4, q5, q6⟩ := hSw
          go_simp
          all_goals with_reducible rfl
        try simp only [Act.put, List.setIfInBounds_toArray, List.set_cons_zero, List.set_cons_succ]
        refine wpAnyH_take (i := 3) (oi := { dst := some 54, op := Go.Op.move (Go.Operand.tmp 10), type := 22, pos := "law.go:122", after := #[{ on := 2, ground := Go.Ground.guard }], guard := some (2, true) }) (v := undef) rfl (by kernel_rfl) (by kernel_rfl) (by kernel_rfl) (fun _ _ _ h => h) (Or.inr ⟨by rfl, rfl⟩) (by assumption) ?_
        try simp only [Act.put, List.setIfInBounds_toArray, List.set_cons_zero, List.set_cons_succ]
        refine wpAnyH_take (i := 4) (oi := { dst := some 55, op := Go.Op.call { callee := Go.Callee.builtin Go.Builtin.len, args := #[Go.Operand.tmp 54], argTypes := #[22] }, type := 3, pos := "law.go:122", after := #[{ on := 3, ground := Go.Ground.data }, { on := 2, ground := Go.Ground.guard }], guard := some (2, true) }) (v := undef) rfl (by kernel_rfl) (by kernel_rfl) (by kernel_rfl) (fun _ _ _ h => h) (Or.inr ⟨by rfl, rfl⟩) (by assumption) ?_
        try simp only [Act.put, List.setIfInBounds_toArray, List.set_cons_zero, List.set_cons_succ]
        refine wpAnyH_take (i := 5) (oi := { dst := some 56, op := Go.Op.move (Go.Operand.tmp 8), type := 22, pos := "law.go:122", after := #[{ on := 2, ground := Go.Ground.guard }], guard := some (2, true) }) (v := undef) rfl (by kernel_rfl) (by kernel_rfl) (by kernel_rfl) (fun _ _ _ h => h) (Or.inr ⟨by rfl, rfl⟩) (by assumption) ?_
        try simp only [Act.put, List.setIfInBounds_toArray, List.set_cons_zero, List.set_cons_succ]
        refine wpAnyH_take (i := 6) (oi := { dst := some 57, op := Go.Op.call { callee := Go.Callee.builtin Go.Builtin.len, args := #[Go.Operand.tmp 56], argTypes := #[22] }, type := 3, pos := "law.go:122", after := #[{ on := 5, ground := Go.Ground.data }, { on := 2, ground := Go.Ground.guard }], guard := some (2, true) }) (v := undef) rfl (by kernel_rfl) (by kernel_rfl) (by kernel_rfl) (fun _ _ _ h => h) (Or.inr ⟨by rfl, rfl⟩) (by assumption) ?_
        try simp only [Act.put, List.setIfInBounds_toArray, List.set_cons_zero, List.set_cons_succ]
        refine wpAnyH_take (i := 7) (oi := { dst := some 58, op := Go.Op.binOp Go.BinOp.neq 3 (Go.Operand.tmp 55) (Go.Operand.tmp 57) 3, type := 4, pos := "law.go:122", after := #[{ on := 4, ground := Go.Ground.data }, { on := 6, ground := Go.Ground.data }, { on := 2, ground := Go.Ground.guard }], guard := some (2, true) }) (v := undef) rfl (by kernel_rfl) (by kernel_rfl) (by kernel_rfl) (fun _ _ _ h => h) (Or.inr ⟨by rfl, rfl⟩) (by assumption) ?_
        try simp only [Act.put, List.setIfInBounds_toArray, List.set_cons_zero, List.set_cons_succ]
        refine wpAnyH_take (i := 8) (oi := { dst := some 59, op := Go.Op.pick (Go.Operand.tmp 53) (Go.Operand.tmp 58) (Go.Operand.const (Go.Value.bool false)), type := 4, pos := "law.go:122", after := #[{ on := 2, ground := Go.Ground.data }, { on := 7, ground := Go.Ground.data }], guard := none }) (v := ?_) rfl (by kernel_rfl) (by kernel_rfl) (by kernel_rfl) (fun _ _ _ h => h) (Or.inl ⟨by rfl, ?_⟩) (by assumption) ?_
        rotate_left
        · intro w hSw
          try dsimp only at hSw
          obtain ⟨⟨q1, q2, q3⟩, q4, q5, q6⟩ := hSw
          go_simp
          all_goals with_reducible rfl
        try simp only [Act.put, List.setIfInBounds_toArray, List.set_cons_zero, List.set_cons_succ]
        refine wpAnyH_take (i := 9) (oi := { dst := some 60, op := Go.Op.move (Go.Operand.tmp 59), type := 4, pos := "law.go:122", after := #[{ on := 8, ground := Go.Ground.data }, { on := 2, ground := Go.Ground.chain }], guard := none }) (v := ?_) rfl (by kernel_rfl) (by kernel_rfl) (by kernel_rfl) (fun _ _ _ h => h) (Or.inl ⟨by rfl, ?_⟩) (by assumption) ?_
        rotate_left
        · intro w hSw
          try dsimp only at hSw
          obtain ⟨⟨q1, q2, q3⟩, q4, q5, q6⟩ := hSw
          go_simp
          all_goals with_reducible rfl
        try simp only [Act.put, List.setIfInBounds_toArray, List.set_cons_zero, List.set_cons_succ]
        refine wpAnyH_take (i := 10) (oi := { dst := some 61, op := Go.Op.move (Go.Operand.tmp 9), type := 32, pos := "law.go:122", after := #[{ on := 9, ground := Go.Ground.guard }], guard := some (9, false) }) (v := ?_) rfl (by kernel_rfl) (by kernel_rfl) (by kernel_rfl) (fun _ _ _ h => h) (Or.inl ⟨by rfl, ?_⟩) (by assumption) ?_
        rotate_left
        · intro w hSw
          try dsimp only at hSw
          obtain ⟨⟨q1, q2, q3⟩, q4, q5, q6⟩ := hSw
          go_simp
          all_goals with_reducible rfl
        try simp only [Act.put, List.setIfInBounds_toArray, List.set_cons_zero, List.set_cons_succ]
        refine wpAnyH_take (i := 11) (oi := { dst := some 62, op := Go.Op.binOp Go.BinOp.eql 32 (Go.Operand.tmp 61) (Go.Operand.const (Go.Value.int Go.IntKind.i64 0)) 32, type := 4, pos := "law.go:122", after := #[{ on := 10, ground := Go.Ground.data }, { on := 9, ground := Go.Ground.guard }], guard := some (9, false) }) (v := ?_) rfl (by kernel_rfl) (by kernel_rfl) (by kernel_rfl) (fun _ _ _ h => h) (Or.inl ⟨by rfl, ?_⟩) (by assumption) ?_
        rotate_left
        · intro w hSw
          try dsimp only at hSw
          obtain ⟨⟨q1, q2, q3⟩, q4, q5, q6⟩ := hSw
          go_simp
          all_goals with_reducible rfl
        try simp only [Act.put, List.setIfInBounds_toArray, List.set_cons_zero, List.set_cons_succ]
        refine wpAnyH_take (i := 12) (oi := { dst := some 63, op := Go.Op.move (Go.Operand.tmp 62), type := 4, pos := "law.go:122", after := #[{ on := 11, ground := Go.Ground.data }, { on := 9, ground := Go.Ground.chain }, { on := 9, ground := Go.Ground.guard }], guard := some (9, false) }) (v := ?_) rfl (by kernel_rfl) (by kernel_rfl) (by kernel_rfl) (fun _ _ _ h => h) (Or.inl ⟨by rfl, ?_⟩) (by assumption) ?_
        rotate_left
        · intro w hSw
          try dsimp only at hSw
          obtain ⟨⟨q1, q2, q3⟩, q4, q5, q6⟩ := hSw
          go_simp
          all_goals with_reducible rfl
        try simp only [Act.put, List.setIfInBounds_toArray, List.set_cons_zero, List.set_cons_succ]
        refine wpAnyH_take (i := 13) (oi := { dst := some 64, op := Go.Op.move (Go.Operand.tmp 10), type := 22, pos := "law.go:122", after := #[{ on := 12, ground := Go.Ground.guard }], guard := some (12, true) }) (v := ?_) rfl (by kernel_rfl) (by kernel_rfl) (by kernel_rfl) (fun _ _ _ h => h) (Or.inl ⟨by rfl, ?_⟩) (by assumption) ?_
        rotate_left
        · intro w hSw
          try dsimp only at hSw
          obtain ⟨⟨q1, q2, q3⟩, q4, q5, q6⟩ := hSw
          go_simp
          all_goals with_reducible rfl
        try simp only [Act.put, List.setIfInBounds_toArray, List.set_cons_zero, List.set_cons_succ]
        refine wpAnyH_take (i := 14) (oi := { dst := some 65, op := Go.Op.call { callee := Go.Callee.builtin Go.Builtin.len, args := #[Go.Operand.tmp 64], argTypes := #[22] }, type := 3, pos := "law.go:122", after := #[{ on := 13, ground := Go.Ground.data }, { on := 12, ground := Go.Ground.guard }], guard := some (12, true) }) (v := ?_) rfl (by kernel_rfl) (by kernel_rfl) (by kernel_rfl) (fun _ _ _ h => h) (Or.inl ⟨by rfl, ?_⟩) (by assumption) ?_
        rotate_left
        · intro w hSw
          try dsimp only at hSw
          obtain ⟨⟨q1, q2, q3⟩, q4, q5, q6⟩ := hSw
          go_simp
          all_goals with_reducible rfl
        try simp only [Act.put, List.setIfInBounds_toArray, List.set_cons_zero, List.set_cons_succ]
        refine wpAnyH_take (i := 15) (oi := { dst := some 66, op := Go.Op.move (Go.Operand.tmp 8), type := 22, pos := "law.go:122", after := #[{ on := 12, ground := Go.Ground.guard }], guard := some (12, true) }) (v := ?_) rfl (by kernel_rfl) (by kernel_rfl) (by kernel_rfl) (fun _ _ _ h => h) (Or.inl ⟨by rfl, ?_⟩) (by assumption) ?_
        rotate_left
        · intro w hSw
          try dsimp only at hSw
          obtain ⟨⟨q1, q2, q3⟩, q4, q5, q6⟩ := hSw
          go_simp
          all_goals with_reducible rfl
        try simp only [Act.put, List.setIfInBounds_toArray, List.set_cons_zero, List.set_cons_succ]
        refine wpAnyH_take (i := 16) (oi := { dst := some 67, op := Go.Op.call { callee := Go.Callee.builtin Go.Builtin.len, args := #[Go.Operand.tmp 66], argTypes := #[22] }, type := 3, pos := "law.go:122", after := #[{ on := 15, ground := Go.Ground.data }, { on := 12, ground := Go.Ground.guard }], guard := some (12, true) }) (v := ?_) rfl (by kernel_rfl) (by kernel_rfl) (by kernel_rfl) (fun _ _ _ h => h) (Or.inl ⟨by rfl, ?_⟩) (by assumption) ?_
        rotate_left
        · intro w hSw
          try dsimp only at hSw
          obtain ⟨⟨q1, q2, q3⟩, q4, q5, q6⟩ := hSw
          go_simp
          all_goals with_reducible rfl
        try simp only [Act.put, List.setIfInBounds_toArray, List.set_cons_zero, List.set_cons_succ]
        refine wpAnyH_take (i := 17) (oi := { dst := some 68, op := Go.Op.binOp Go.BinOp.add 3 (Go.Operand.tmp 67) (Go.Operand.const (Go.Value.int Go.IntKind.i64 1)) 3, type := 3, pos := "law.go:122", after := #[{ on := 16, ground := Go.Ground.data }, { on := 12, ground := Go.Ground.guard }], guard := some (12, true) }) (v := ?_) rfl (by kernel_rfl) (by kernel_rfl) (by kernel_rfl) (fun _ _ _ h => h) (Or.inl ⟨by rfl, ?_⟩) (by assumption) ?_
        rotate_left
        · intro w hSw
          try dsimp only at hSw
          obtain ⟨⟨q1, q2, q3⟩, q4, q5, q6⟩ := hSw
          go_simp
          all_goals with_reducible rfl
        try simp only [Act.put, List.setIfInBounds_toArray, List.set_cons_zero, List.set_cons_succ]
        refine wpAnyH_take (i := 18) (oi := { dst := some 69, op := Go.Op.binOp Go.BinOp.neq 3 (Go.Operand.tmp 65) (Go.Operand.tmp 68) 3, type := 4, pos := "law.go:122", after := #[{ on := 14, ground := Go.Ground.data }, { on := 17, ground := Go.Ground.data }, { on := 12, ground := Go.Ground.guard }], guard := some (12, true) }) (v := ?_) rfl (by kernel_rfl) (by kernel_rfl) (by kernel_rfl) (fun _ _ _ h => h) (Or.inl ⟨by rfl, ?_⟩) (by assumption) ?_
        rotate_left
        · intro w hSw
          try dsimp only at hSw
          obtain ⟨⟨q1, q2, q3⟩, q4, q5, q6⟩ := hSw
          go_simp
          all_goals with_reducible rfl
        try simp only [Act.put, List.setIfInBounds_toArray, List.set_cons_zero, List.set_cons_succ]
        refine wpAnyH_take (i := 19) (oi := { dst := some 70, op := Go.Op.move (Go.Operand.tmp 69), type := 4, pos := "law.go:122", after := #[{ on := 18, ground := Go.Ground.data }, { on := 12, ground := Go.Ground.chain }, { on := 12, ground := Go.Ground.guard }], guard := some (12, true) }) (v := ?_) rfl (by kernel_rfl) (by kernel_rfl) (by kernel_rfl) (fun _ _ _ h => h) (Or.inl ⟨by rfl, ?_⟩) (by assumption) ?_
        rotate_left
        · intro w hSw
          try dsimp only at hSw
          obtain ⟨⟨q1, q2, q3⟩, q4, q5, q6⟩ := hSw
          go_simp
          all_goals with_reducible rfl
        try simp only [Act.put, List.setIfInBounds_toArray, List.set_cons_zero, List.set_cons_succ]
        refine wpAnyH_take (i := 20) (oi := { dst := some 71, op := Go.Op.move (Go.Operand.tmp 10), type := 22, pos := "law.go:122", after := #[{ on := 19, ground := Go.Ground.guard }], guard := some (19, false) }) (v := ?_) rfl (by kernel_rfl) (by kernel_rfl) (by kernel_rfl) (fun _ _ _ h => h) (Or.inl ⟨by rfl, ?_⟩) (by assumption) ?_
        rotate_left
        · intro w hSw
          try dsimp only at hSw
          obtain ⟨⟨q1, q2, q3⟩, q4, q5, q6⟩ := hSw
          go_simp
          all_goals with_reducible rfl
        try simp only [Act.put, List.setIfInBounds_toArray, List.set_cons_zero, List.set_cons_succ]
        refine wpAnyH_take (i := 21) (oi := { dst := some 72, op := Go.Op.move (Go.Operand.tmp 8), type := 22, pos := "law.go:122", after := #[{ on := 19, ground := Go.Ground.guard }], guard := some (19, false) }) (v := ?_) rfl (by kernel_rfl) (by kernel_rfl) (by kernel_rfl) (fun _ _ _ h => h) (Or.inl ⟨by rfl, ?_⟩) (by assumption) ?_
        rotate_left
        · intro w hSw
          try dsimp only at hSw
          obtain ⟨⟨q1, q2, q3⟩, q4, q5, q6⟩ := hSw
          go_simp
          all_goals with_reducible rfl
        try simp only [Act.put, List.setIfInBounds_toArray, List.set_cons_zero, List.set_cons_succ]
        refine wpAnyH_take (i := 22) (oi := { dst := some 73, op := Go.Op.call { callee := Go.Callee.builtin Go.Builtin.len, args := #[Go.Operand.tmp 72], argTypes := #[22] }, type := 3, pos := "law.go:122", after := #[{ on := 21, ground := Go.Ground.data }, { on := 19, ground := Go.Ground.guard }], guard := some (19, false) }) (v := ?_) rfl (by kernel_rfl) (by kernel_rfl) (by kernel_rfl) (fun _ _ _ h => h) (Or.inl ⟨by rfl, ?_⟩) (by assumption) ?_
        rotate_left
        · intro w hSw
          try dsimp only at hSw
          obtain ⟨⟨q1, q2, q3⟩, q4, q5, q6⟩ := hSw
          go_simp
          all_goals with_reducible rfl
        try simp only [Act.put, List.setIfInBounds_toArray, List.set_cons_zero, List.set_cons_succ]
        refine wpAnyH_take (i := 23) (oi := { dst := some 74, op := Go.Op.indexAddr 22 (Go.Operand.tmp 71) (Go.Operand.tmp 73), type := 0, pos := "law.go:122", after := #[{ on := 20, ground := Go.Ground.data }, { on := 22, ground := Go.Ground.data }, { on := 19, ground := Go.Ground.guard }], guard := some (19, false) }) (v := ?_) rfl (by kernel_rfl) (by kernel_rfl) (by kernel_rfl) (fun _ _ _ h => h) (Or.inl ⟨by rfl, ?_⟩) (by assumption) ?_
        rotate_left
        · intro w hSw
          try dsimp only at hSw
          obtain ⟨⟨q1, q2, q3⟩, q4, q5, q6⟩ := hSw
          go_simp
          all_goals with_reducible rfl
        try simp only [Act.put, List.setIfInBounds_toArray, List.set_cons_zero, List.set_cons_succ]
        refine wpAnyH_take (i := 24) (oi := { dst := some 75, op := Go.Op.load 31 (Go.Operand.tmp 74), type := 31, pos := "law.go:122", after := #[{ on := 23, ground := Go.Ground.data }, { on := 19, ground := Go.Ground.guard }], guard := some (19, false) }) (v := ?_) rfl (by kernel_rfl) (by kernel_rfl) (by kernel_rfl) (fun _ _ _ h => h) (Or.inl ⟨by rfl, ?_⟩) (by assumption) ?_
        rotate_left
        · intro w hSw
          try dsimp only at hSw
          obtain ⟨⟨q1, q2, q3⟩, q4, q5, q6⟩ := hSw
          go_simp
          all_goals with_reducible rfl
        try simp only [Act.put, List.setIfInBounds_toArray, List.set_cons_zero, List.set_cons_succ]
        refine wpAnyH_take (i := 25) (oi := { dst := some 76, op := Go.Op.load 31 (Go.Operand.tmp 7), type := 31, pos := "law.go:122", after := #[{ on := 19, ground := Go.Ground.guard }], guard := some (19, false) }) (v := ?_) rfl (by kernel_rfl) (by kernel_rfl) (by kernel_rfl) (fun _ _ _ h => h) (Or.inl ⟨by rfl, ?_⟩) (by assumption) ?_
        rotate_left
        · intro w hSw
          try dsimp only at hSw
          obtain ⟨⟨q1, q2, q3⟩, q4, q5, q6⟩ := hSw
          go_simp
          all_goals with_reducible rfl
        try simp only [Act.put, List.setIfInBounds_toArray, List.set_cons_zero, List.set_cons_succ]
        refine wpAnyH_ready (rs := [26]) (by kernel_rfl) (by simp) ?_
        refine AllReadyH.cons (o := { dst := some 77, op := Go.Op.call { callee := Go.Callee.value (Go.Operand.func 19), args := #[Go.Operand.tmp 75, Go.Operand.tmp 76], argTypes := #[31, 31] }, type := 4, pos := "law.go:122", after := #[{ on := 24, ground := Go.Ground.data }, { on := 25, ground := Go.Ground.data }, { on := 19, ground := Go.Ground.chain }, { on := 19, ground := Go.Ground.guard }], guard := some (19, false) }) rfl (fun K hK => ?_) ?_
        · go_simp
          refine (HDS w6.drew (isUs_same HU1.out fun _ _ _ => rfl) (isUs_same HU2.out fun _ _ _ => rfl)).out.mono ?_
          rintro e w7 ⟨rfl, hb'⟩
          have hb : Below w6.heap.size w6 w7 := ⟨hb'.os, hb'.tape, hb'.output, hb'.size, hb'.block⟩
          have HP7 := Lib.hid (HP6.out.next hb)
          have k7 := HK.out _ hb
          clear hb hb'
          go_wp2_with fail
          refine hK.out _ _ ?_ (fun hH => ?_)
          · exact k7
          clear hK K
          try simp only [Act.put, List.setIfInBounds_toArray, List.set_cons_zero, List.set_cons_succ]
          refine wpAnyH_take (i := 27) (oi := { dst := some 78, op := Go.Op.unOp Go.UnOp.not 4 (Go.Operand.tmp 77), type := 4, pos := "law.go:122", after := #[{ on := 26, ground := Go.Ground.data }, { on := 19, ground := Go.Ground.guard }], guard := some (19, false) }) (v := ?_) rfl (by kernel_rfl) (by kernel_rfl) (by kernel_rfl) (fun _ _ _ h => h) (Or.inl ⟨by rfl, ?_⟩) (by assumption) ?_
          rotate_left
          · intro w hSw
            try dsimp only at hSw
            obtain ⟨⟨q1, q2, q3⟩, q4, q5, q6⟩ := hSw
            go_simp
            all_goals with_reducible rfl
          try simp only [Act.put, List.setIfInBounds_toArray, List.set_cons_zero, List.set_cons_succ]
          refine wpAnyH_take (i := 28) (oi := { dst := some 79, op := Go.Op.pick (Go.Operand.tmp 70) (Go.Operand.const (Go.Value.bool true)) (Go.Operand.tmp 78), type := 4, pos := "law.go:122", after := #[{ on := 19, ground := Go.Ground.data }, { on := 27, ground := Go.Ground.data }, { on := 12, ground := Go.Ground.guard }], guard := some (12, true) }) (v := ?_) rfl (by kernel_rfl) (by kernel_rfl) (by kernel_rfl) (fun _ _ _ h => h) (Or.inl ⟨by rfl, ?_⟩) (by assumption) ?_
          rotate_left
          · intro w hSw
            try dsimp only at hSw
            obtain ⟨⟨q1, q2, q3⟩, q4, q5, q6⟩ := hSw
            go_simp
            all_goals with_reducible rfl
          try simp only [Act.put, List.setIfInBounds_toArray, List.set_cons_zero, List.set_cons_succ]
          refine wpAnyH_take (i := 29) (oi := { dst := some 80, op := Go.Op.pick (Go.Operand.tmp 63) (Go.Operand.tmp 79) (Go.Operand.const (Go.Value.bool false)), type := 4, pos := "law.go:122", after := #[{ on := 12, ground := Go.Ground.data }, { on := 28, ground := Go.Ground.data }, { on := 9, ground := Go.Ground.guard }], guard := some (9, false) }) (v := ?_) rfl (by kernel_rfl) (by kernel_rfl) (by kernel_rfl) (fun _ _ _ h => h) (Or.inl ⟨by rfl, ?_⟩) (by assumption) ?_
          rotate_left
          · intro w hSw
            try dsimp only at hSw
            obtain ⟨⟨q1, q2, q3⟩, q4, q5, q6⟩ := hSw
            go_simp
            all_goals with_reducible rfl
          try simp only [Act.put, List.setIfInBounds_toArray, List.set_cons_zero, List.set_cons_succ]
          refine wpAnyH_take (i := 30) (oi := { dst := some 81, op := Go.Op.pick (Go.Operand.tmp 60) (Go.Operand.const (Go.Value.bool true)) (Go.Operand.tmp 80), type := 4, pos := "law.go:122", after := #[{ on := 9, ground := Go.Ground.data }, { on := 29, ground := Go.Ground.data }], guard := none }) (v := ?_) rfl (by kernel_rfl) (by kernel_rfl) (by kernel_rfl) (fun _ _ _ h => h) (Or.inl ⟨by rfl, ?_⟩) (by assumption) ?_
          rotate_left
          · intro w hSw
            try dsimp only at hSw
            obtain ⟨⟨q1, q2, q3⟩, q4, q5, q6⟩ := hSw
            go_simp
            all_goals with_reducible rfl
          try simp only [Act.put, List.setIfInBounds_toArray, List.set_cons_zero, List.set_cons_succ]
          refine wpAnyH_done (by kernel_rfl) ?_ _
          clear k7 z0
          go_wp2
          go_roundw
          case rel => exact ⟨k + 1, by omega, by go_num, F', _, HST2.out, HP7.out⟩
          case measure => simp [intOf]; omega
        exact AllReadyH.nil
      · obtain ⟨er, hee⟩ : ∃ er, comE c L (ro, rn, rus) = er := ⟨_, rfl⟩
        have he0 := he
        rw [hee] at he0
        have k1 : (er == 0) = false := by rw [beq_eq_false_iff_ne]; exact he0
        have k2 : (er != 0) = true := by rw [bne_iff_ne]; exact he0
        obtain ⟨M, hM⟩ : ∃ M, L.length = M := ⟨_, rfl⟩
        have HC1 := fun W h => Lib.hid (call_any (L := L) (B := w.heap.size) (b := w.heap.size) (F := F) (c := c) hL1000 W h)
        rw [hM] at HC1
        have hM40 : M ≤ 40 := by omega
        have HE := Lib.hid he
        have HM := Lib.hid hM
        have HLL := Lib.hid hL1000
        clear he hM hL1000 hsl
        go_wp2_with fail
        refine (HC1 _ HPA.out.j).out.mono ?_
        rintro e w3 ⟨g1, xs, rfl, hrz, hg1, how, hxs, hb⟩
        have h8 := HR8.out.next hb
        have hP3 := HPA.out.next hb
        have hA := cadd_any (L := L) HLL.out ⟨ro, rn, ra, rl, rc, rus⟩ HSM.out w3 (HRU0.out.below hP3.bel) hP3.j
        have e0' := h8.c0
        have e1' := h8.c1
        have e2' := h8.c2
        have HH8 := Lib.hid h8
        have HP3 := Lib.hid hP3
        have HRZ := Lib.hid hrz
        have HOW := Lib.hid how
        have HG1 := Lib.hid hg1
        have HXS := Lib.hid hxs
        have he' : comE c L (kR ⟨ro, rn, ra, rl, rc, rus⟩) = er := hee
        rw [he'] at hA
        have HA := Lib.hid hA
        clear hrz hg1 how hxs hb h8 hP3 hA e0 e1 e2 HC1 hee
        go_wp2_with fail
        refine HA.out.mono ?_
        rintro e w4 ⟨rfl, F', hc⟩
        have hsz : wr.heap.size ≤ (wr.alloc (.cells #[.int .i64 ro, .int .i64 rn, .slice ra rl rc] 31)).heap.size := by simp
        obtain ⟨hrz, how⟩ := rz_left HRZ.out HOW.out HG1.out hc.lv (fun j hj => HF8.out j (by omega))
        have hP4 := HP3.out.com hc
        rw [comL_no (by rw [he']; exact he0)] at hP4
        have HP4 : Hid (Cj 53 Pc w w4 w.heap.size F' c L) := Lib.hid hP4
        have h8 := HH8.out.left hc.lv (HF8.out _ (Nat.le_refl _))
        have HH8 := Lib.hid h8
        have HRZ := Lib.hid hrz
        have HOW := Lib.hid how
        have HSM4 := Lib.hid hP4.j.sm
        have HST2 : Hid (L = sofar c rs (k + 1)) := Lib.hid (by rw [HST.out, comL_no (by rw [he']; exact he0)])
        have hML := HM.out
        have HC2 := fun W h => Lib.hid (call_any (L := L) (B := w.heap.size) (b := w.heap.size) (F := F') (c := c) (by omega) W h)
        rw [hML] at HC2
        have q1 : decide ((M : Int) < (M : Int)) = false := decide_eq_false (by omega)
        have HML := HM
        clear hML
        clear hc hP4 h8 hrz how HA HP3 e0' e1' e2' he'
        go_wp2_with fail
        refine (HC2 _ HP4.out.j).out.mono ?_
        rintro e w5 ⟨g2, ys, rfl, hrz2, hg2, how2, hys, hb⟩
        obtain ⟨hrz, how⟩ := rz_next HRZ.out HOW.out hb
        have hxl := map_len HXS.out
        rw [HM.out] at hxl
        have hix := rz_is hrz how
        rw [hxl] at hix
        have hyl := map_len hys
        rw [HML.out] at hyl
        have hiy := rz_is hrz2 how2
        rw [hyl] at hiy
        have HP5 := Lib.hid (HP4.out.next hb)
        have HH8 := Lib.hid (HH8.out.next hb)
        have hsl1 := fun W => slR_front (some ⟨g2, 0, none⟩) M M M (by omega) W
        have hal : Alk M (ys.take M) xs := alk_of (by
          rw [List.map_take, hys, HXS.out, List.take_of_length_le (Nat.le_of_eq HM.out)]) M
        have hsy : ∀ i, i < M → ((ys.take M).getD i rn0).us.length ≤ 1000000 := fun i hi => by
          have e1 : (ys.take M).getD i rn0 = ys.getD i rn0 := by simp only [List.getD_eq_getElem?_getD]; rw [List.getElem?_take, if_pos hi]
          rw [e1]
          exact us_le HSM4.out hys i (by omega)
        have HSA := Lib.hid (sameall_yes (some ⟨g2, 0, none⟩) (some ⟨g1, 0, none⟩) M M M (ys.take M) xs (by omega) hal hsy w5 (hiy.front (by omega)) hix)
        have HIY := Lib.hid hiy
        have HYS := Lib.hid hys
        have HRZ2 := Lib.hid hrz2
        have HOW2 := Lib.hid how2
        have HYL := Lib.hid hyl
        clear hrz2 hg2 how2 hys hb hrz how hxl hix hyl hiy hal hsy HP4 HRZ HOW HC2
        go_wp2_with fail
        refine HSA.out.mono ?_
        rintro e w6 ⟨rfl, hb⟩
        have HP6 := Lib.hid (HP5.out.next hb)
        have HH8 := Lib.hid (HH8.out.next hb)
        have hrz6 := HRZ2.out.next hb
        have z0 : w6.drew.cell? ⟨wr.heap.size, 0, none⟩ = some (.int .i64 ro) := HH8.out.c0
        clear hb hrz6 HP5 HSA
        go_wp2_with fail
        refine wp_region_held_drew (S := fun w' => w'.cell? ⟨wr.heap.size, 0, none⟩ = some (.int .i64 ro)) (by kernel_rfl) ?_ (fun hH => ?_)
        · exact z0
        refine wpAnyH_take (i := 0) (oi := { dst := some 51, op := Go.Op.move (Go.Operand.tmp 9), type := 32, pos := "law.go:122", after := #[], guard := none }) (v := ?_) rfl (by kernel_rfl) (by kernel_rfl) (by kernel_rfl) (fun _ _ _ h => h) (Or.inl ⟨by rfl, ?_⟩) (by assumption) ?_
        rotate_left
        · intro w hSw
          try dsimp only at hSw
          go_simp
          all_goals with_reducible rfl
        try simp only [Act.put, List.setIfInBounds_toArray, List.set_cons_zero, List.set_cons_succ]
        refine wpAnyH_take (i := 1) (oi := { dst := some 52, op := Go.Op.binOp Go.BinOp.neq 32 (Go.Operand.tmp 51) (Go.Operand.const (Go.Value.int Go.IntKind.i64 0)) 32, type := 4, pos := "law.go:122", after := #[{ on := 0, ground := Go.Ground.data }], guard := none }) (v := ?_) rfl (by kernel_rfl) (by kernel_rfl) (by kernel_rfl) (fun _ _ _ h => h) (Or.inl ⟨by rfl, ?_⟩) (by assumption) ?_
        rotate_left
        · intro w hSw
          try dsimp only at hSw
          go_simp
          all_goals with_reducible rfl
        try simp only [Act.put, List.setIfInBounds_toArray, List.set_cons_zero, List.set_cons_succ]
        refine wpAnyH_take (i := 2) (oi := { dst := some 53, op := Go.Op.move (Go.Operand.tmp 52), type := 4, pos := "law.go:122", after := #[{ on := 1, ground := Go.Ground.data }], guard := none }) (v := ?_) rfl (by kernel_rfl) (by kernel_rfl) (by kernel_rfl) (fun _ _ _ h => h) (Or.inl ⟨by rfl, ?_⟩) (by assumption) ?_
        rotate_left
        · intro w hSw
          try dsimp only at hSw
          go_simp
          all_goals with_reducible rfl
        try simp only [Act.put, List.setIfInBounds_toArray, List.set_cons_zero, List.set_cons_succ]
        refine wpAnyH_take (i := 3) (oi := { dst := some 54, op := Go.Op.move (Go.Operand.tmp 10), type := 22, pos := "law.go:122", after := #[{ on := 2, ground := Go.Ground.guard }], guard := some (2, true) }) (v := ?_) rfl (by kernel_rfl) (by kernel_rfl) (by kernel_rfl) (fun _ _ _ h => h) (Or.inl ⟨by rfl, ?_⟩) (by assumption) ?_
        rotate_left
        · intro w hSw
          try dsimp only at hSw
          go_simp
          all_goals with_reducible rfl
        try simp only [Act.put, List.setIfInBounds_toArray, List.set_cons_zero, List.set_cons_succ]
        refine wpAnyH_take (i := 4) (oi := { dst := some 55, op := Go.Op.call { callee := Go.Callee.builtin Go.Builtin.len, args := #[Go.Operand.tmp 54], argTypes := #[22] }, type := 3, pos := "law.go:122", after := #[{ on := 3, ground := Go.Ground.data }, { on := 2, ground := Go.Ground.guard }], guard := some (2, true) }) (v := ?_) rfl (by kernel_rfl) (by kernel_rfl) (by kernel_rfl) (fun _ _ _ h => h) (Or.inl ⟨by rfl, ?_⟩) (by assumption) ?_
        rotate_left
        · intro w hSw
          try dsimp only at hSw
          go_simp
          all_goals with_reducible rfl
        try simp only [Act.put, List.setIfInBounds_toArray, List.set_cons_zero, List.set_cons_succ]
        refine wpAnyH_take (i := 5) (oi := { dst := some 56, op := Go.Op.move (Go.Operand.tmp 8), type := 22, pos := "law.go:122", after := #[{ on := 2, ground := Go.Ground.guard }], guard := some (2, true) }) (v := ?_) rfl (by kernel_rfl) (by kernel_rfl) (by kernel_rfl) (fun _ _ _ h => h) (Or.inl ⟨by rfl, ?_⟩) (by assumption) ?_
        rotate_left
        · intro w hSw
          try dsimp only at hSw
          go_simp
          all_goals with_reducible rfl
        try simp only [Act.put, List.setIfInBounds_toArray, List.set_cons_zero, List.set_cons_succ]
        refine wpAnyH_take (i := 6) (oi := { dst := some 57, op := Go.Op.call { callee := Go.Callee.builtin Go.Builtin.len, args := #[Go.Operand.tmp 56], argTypes := #[22] }, type := 3, pos := "law.go:122", after := #[{ on := 5, ground := Go.Ground.data }, { on := 2, ground := Go.Ground.guard }], guard := some (2, true) }) (v := ?_) rfl (by kernel_rfl) (by kernel_rfl) (by kernel_rfl) (fun _ _ _ h => h) (Or.inl ⟨by rfl, ?_⟩) (by assumption) ?_
        rotate_left
        · intro w hSw
          try dsimp only at hSw
          go_simp
          all_goals with_reducible rfl
        try simp only [Act.put, List.setIfInBounds_toArray, List.set_cons_zero, List.set_cons_succ]
        refine wpAnyH_take (i := 7) (oi := { dst := some 58, op := Go.Op.binOp Go.BinOp.neq 3 (Go.Operand.tmp 55) (Go.Operand.tmp 57) 3, type := 4, pos := "law.go:122", after := #[{ on := 4, ground := Go.Ground.data }, { on := 6, ground := Go.Ground.data }, { on := 2, ground := Go.Ground.guard }], guard := some (2, true) }) (v := ?_) rfl (by kernel_rfl) (by kernel_rfl) (by kernel_rfl) (fun _ _ _ h => h) (Or.inl ⟨by rfl, ?_⟩) (by assumption) ?_
        rotate_left
        · intro w hSw
          try dsimp only at hSw
          go_simp
          all_goals with_reducible rfl
        try simp only [Act.put, List.setIfInBounds_toArray, List.set_cons_zero, List.set_cons_succ]
        refine wpAnyH_take (i := 8) (oi := { dst := some 59, op := Go.Op.pick (Go.Operand.tmp 53) (Go.Operand.tmp 58) (Go.Operand.const (Go.Value.bool false)), type := 4, pos := "law.go:122", after := #[{ on := 2, ground := Go.Ground.data }, { on := 7, ground := Go.Ground.data }], guard := none }) (v := ?_) rfl (by kernel_rfl) (by kernel_rfl) (by kernel_rfl) (fun _ _ _ h => h) (Or.inl ⟨by rfl, ?_⟩) (by assumption) ?_
        rotate_left
        · intro w hSw
          try dsimp only at hSw
          go_simp
          all_goals with_reducible rfl
        try simp only [Act.put, List.setIfInBounds_toArray, List.set_cons_zero, List.set_cons_succ]
        refine wpAnyH_take (i := 9) (oi := { dst := some 60, op := Go.Op.move (Go.Operand.tmp 59), type := 4, pos := "law.go:122", after := #[{ on := 8, ground := Go.Ground.data }, { on := 2, ground := Go.Ground.chain }], guard := none }) (v := ?_) rfl (by kernel_rfl) (by kernel_rfl) (by kernel_rfl) (fun _ _ _ h => h) (Or.inl ⟨by rfl, ?_⟩) (by assumption) ?_
        rotate_left
        · intro w hSw
          try dsimp only at hSw
          go_simp
          all_goals with_reducible rfl
        try simp only [Act.put, List.setIfInBounds_toArray, List.set_cons_zero, List.set_cons_succ]
        refine wpAnyH_take (i := 10) (oi := { dst := some 61, op := Go.Op.move (Go.Operand.tmp 9), type := 32, pos := "law.go:122", after := #[{ on := 9, ground := Go.Ground.guard }], guard := some (9, false) }) (v := ?_) rfl (by kernel_rfl) (by kernel_rfl) (by kernel_rfl) (fun _ _ _ h => h) (Or.inl ⟨by rfl, ?_⟩) (by assumption) ?_
        rotate_left
        · intro w hSw
          try dsimp only at hSw
          go_simp
          all_goals with_reducible rfl
        try simp only [Act.put, List.setIfInBounds_toArray, List.set_cons_zero, List.set_cons_succ]
        refine wpAnyH_take (i := 11) (oi := { dst := some 62, op := Go.Op.binOp Go.BinOp.eql 32 (Go.Operand.tmp 61) (Go.Operand.const (Go.Value.int Go.IntKind.i64 0)) 32, type := 4, pos := "law.go:122", after := #[{ on := 10, ground := Go.Ground.data }, { on := 9, ground := Go.Ground.guard }], guard := some (9, false) }) (v := ?_) rfl (by kernel_rfl) (by kernel_rfl) (by kernel_rfl) (fun _ _ _ h => h) (Or.inl ⟨by rfl, ?_⟩) (by assumption) ?_
        rotate_left
        · intro w hSw
          try dsimp only at hSw
          go_simp
          all_goals with_reducible rfl
        try simp only [Act.put, List.setIfInBounds_toArray, List.set_cons_zero, List.set_cons_succ]
        refine wpAnyH_take (i := 12) (oi := { dst := some 63, op := Go.Op.move (Go.Operand.tmp 62), type := 4, pos := "law.go:122", after := #[{ on := 11, ground := Go.Ground.data }, { on := 9, ground := Go.Ground.chain }, { on := 9, ground := Go.Ground.guard }], guard := some (9, false) }) (v := ?_) rfl (by kernel_rfl) (by kernel_rfl) (by kernel_rfl) (fun _ _ _ h => h) (Or.inl ⟨by rfl, ?_⟩) (by assumption) ?_
        rotate_left
        · intro w hSw
          try dsimp only at hSw
          go_simp
          all_goals with_reducible rfl
        try simp only [Act.put, List.setIfInBounds_toArray, List.set_cons_zero, List.set_cons_succ]
        refine wpAnyH_take (i := 13) (oi := { dst := some 64, op := Go.Op.move (Go.Operand.tmp 10), type := 22, pos := "law.go:122", after := #[{ on := 12, ground := Go.Ground.guard }], guard := some (12, true) }) (v := undef) rfl (by kernel_rfl) (by kernel_rfl) (by kernel_rfl) (fun _ _ _ h => h) (Or.inr ⟨by rfl, rfl⟩) (by assumption) ?_
        try simp only [Act.put, List.setIfInBounds_toArray, List.set_cons_zero, List.set_cons_succ]
        refine wpAnyH_take (i := 14) (oi := { dst := some 65, op := Go.Op.call { callee := Go.Callee.builtin Go.Builtin.len, args := #[Go.Operand.tmp 64], argTypes := #[22] }, type := 3, pos := "law.go:122", after := #[{ on := 13, ground := Go.Ground.data }, { on := 12, ground := Go.Ground.guard }], guard := some (12, true) }) (v := undef) rfl (by kernel_rfl) (by kernel_rfl) (by kernel_rfl) (fun _ _ _ h => h) (Or.inr ⟨by rfl, rfl⟩) (by assumption) ?_
        try simp only [Act.put, List.setIfInBounds_toArray, List.set_cons_zero, List.set_cons_succ]
        refine wpAnyH_take (i := 15) (oi := { dst := some 66, op := Go.Op.move (Go.Operand.tmp 8), type := 22, pos := "law.go:122", after := #[{ on := 12, ground := Go.Ground.guard }], guard := some (12, true) }) (v := undef) rfl (by kernel_rfl) (by kernel_rfl) (by kernel_rfl) (fun _ _ _ h => h) (Or.inr ⟨by rfl, rfl⟩) (by assumption) ?_
        try simp only [Act.put, List.setIfInBounds_toArray, List.set_cons_zero, List.set_cons_succ]
        refine wpAnyH_take (i := 16) (oi := { dst := some 67, op := Go.Op.call { callee := Go.Callee.builtin Go.Builtin.len, args := #[Go.Operand.tmp 66], argTypes := #[22] }, type := 3, pos := "law.go:122", after := #[{ on := 15, ground := Go.Ground.data }, { on := 12, ground := Go.Ground.guard }], guard := some (12, true) }) (v := undef) rfl (by kernel_rfl) (by kernel_rfl) (by kernel_rfl) (fun _ _ _ h => h) (Or.inr ⟨by rfl, rfl⟩) (by assumption) ?_
        try simp only [Act.put, List.setIfInBounds_toArray, List.set_cons_zero, List.set_cons_succ]
        refine wpAnyH_take (i := 17) (oi := { dst := some 68, op := Go.Op.binOp Go.BinOp.add 3 (Go.Operand.tmp 67) (Go.Operand.const (Go.Value.int Go.IntKind.i64 1)) 3, type := 3, pos := "law.go:122", after := #[{ on := 16, ground := Go.Ground.data }, { on := 12, ground := Go.Ground.guard }], guard := some (12, true) }) (v := undef) rfl (by kernel_rfl) (by kernel_rfl) (by kernel_rfl) (fun _ _ _ h => h) (Or.inr ⟨by rfl, rfl⟩) (by assumption) ?_
        try simp only [Act.put, List.setIfInBounds_toArray, List.set_cons_zero, List.set_cons_succ]
        refine wpAnyH_take (i := 18) (oi := { dst := some 69, op := Go.Op.binOp Go.BinOp.neq 3 (Go.Operand.tmp 65) (Go.Operand.tmp 68) 3, type := 4, pos := "law.go:122", after := #[{ on := 14, ground := Go.Ground.data }, { on := 17, ground := Go.Ground.data }, { on := 12, ground := Go.Ground.guard }], guard := some (12, true) }) (v := undef) rfl (by kernel_rfl) (by kernel_rfl) (by kernel_rfl) (fun _ _ _ h => h) (Or.inr ⟨by rfl, rfl⟩) (by assumption) ?_
        try simp only [Act.put, List.setIfInBounds_toArray, List.set_cons_zero, List.set_cons_succ]
        refine wpAnyH_take (i := 19) (oi := { dst := some 70, op := Go.Op.move (Go.Operand.tmp 69), type := 4, pos := "law.go:122", after := #[{ on := 18, ground := Go.Ground.data }, { on := 12, ground := Go.Ground.chain }, { on := 12, ground := Go.Ground.guard }], guard := some (12, true) }) (v := undef) rfl (by kernel_rfl) (by kernel_rfl) (by kernel_rfl) (fun _ _ _ h => h) (Or.inr ⟨by rfl, rfl⟩) (by assumption) ?_
        try simp only [Act.put, List.setIfInBounds_toArray, List.set_cons_zero, List.set_cons_succ]
        refine wpAnyH_take (i := 20) (oi := { dst := some 71, op := Go.Op.move (Go.Operand.tmp 10), type := 22, pos := "law.go:122", after := #[{ on := 19, ground := Go.Ground.guard }], guard := some (19, false) }) (v := undef) rfl (by kernel_rfl) (by kernel_rfl) (by kernel_rfl) (fun _ _ _ h => h) (Or.inr ⟨by rfl, rfl⟩) (by assumption) ?_
        try simp only [Act.put, List.setIfInBounds_toArray, List.set_cons_zero, List.set_cons_succ]
        refine wpAnyH_take (i := 21) (oi := { dst := some 72, op := Go.Op.move (Go.Operand.tmp 8), type := 22, pos := "law.go:122", after := #[{ on := 19, ground := Go.Ground.guard }], guard := some (19, false) }) (v := undef) rfl (by kernel_rfl) (by kernel_rfl) (by kernel_rfl) (fun _ _ _ h => h) (Or.inr ⟨by rfl, rfl⟩) (by assumption) ?_
        try simp only [Act.put, List.setIfInBounds_toArray, List.set_cons_zero, List.set_cons_succ]
        refine wpAnyH_take (i := 22) (oi := { dst := some 73, op := Go.Op.call { callee := Go.Callee.builtin Go.Builtin.len, args := #[Go.Operand.tmp 72], argTypes := #[22] }, type := 3, pos := "law.go:122", after := #[{ on := 21, ground := Go.Ground.data }, { on := 19, ground := Go.Ground.guard }], guard := some (19, false) }) (v := undef) rfl (by kernel_rfl) (by kernel_rfl) (by kernel_rfl) (fun _ _ _ h => h) (Or.inr ⟨by rfl, rfl⟩) (by assumption) ?_
        try simp only [Act.put, List.setIfInBounds_toArray, List.set_cons_zero, List.set_cons_succ]
        refine wpAnyH_take (i := 23) (oi := { dst := some 74, op := Go.Op.indexAddr 22 (Go.Operand.tmp 71) (Go.Operand.tmp 73), type := 0, pos := "law.go:122", after := #[{ on := 20, ground := Go.Ground.data }, { on := 22, ground := Go.Ground.data }, { on := 19, ground := Go.Ground.guard }], guard := some (19, false) }) (v := undef) rfl (by kernel_rfl) (by kernel_rfl) (by kernel_rfl) (fun _ _ _ h => h) (Or.inr ⟨by rfl, rfl⟩) (by assumption) ?_
        try simp only [Act.put, List.setIfInBounds_toArray, List.set_cons_zero, List.set_cons_succ]
        refine wpAnyH_take (i := 24) (oi := { dst := some 75, op := Go.Op.load 31 (Go.Operand.tmp 74), type := 31, pos := "law.go:122", after := #[{ on := 23, ground := Go.Ground.data }, { on := 19, ground := Go.Ground.guard }], guard := some (19, false) }) (v := undef) rfl (by kernel_rfl) (by kernel_rfl) (by kernel_rfl) (fun _ _ _ h => h) (Or.inr ⟨by rfl, rfl⟩) (by assumption) ?_
        try simp only [Act.put, List.setIfInBounds_toArray, List.set_cons_zero, List.set_cons_succ]
        refine wpAnyH_take (i := 25) (oi := { dst := some 76, op := Go.Op.load 31 (Go.Operand.tmp 7), type := 31, pos := "law.go:122", after := #[{ on := 19, ground := Go.Ground.guard }], guard := some (19, false) }) (v := undef) rfl (by kernel_rfl) (by kernel_rfl) (by kernel_rfl) (fun _ _ _ h => h) (Or.inr ⟨by rfl, rfl⟩) (by assumption) ?_
        try simp only [Act.put, List.setIfInBounds_toArray, List.set_cons_zero, List.set_cons_succ]
        refine wpAnyH_take (i := 26) (oi := { dst := some 77, op := Go.Op.call { callee := Go.Callee.value (Go.Operand.func 19), args := #[Go.Operand.tmp 75, Go.Operand.tmp 76], argTypes := #[31, 31] }, type := 4, pos := "law.go:122", after := #[{ on := 24, ground := Go.Ground.data }, { on := 25, ground := Go.Ground.data }, { on := 19, ground := Go.Ground.chain }, { on := 19, ground := Go.Ground.guard }], guard := some (19, false) }) (v := undef) rfl (by kernel_rfl) (by kernel_rfl) (by kernel_rfl) (fun _ _ _ h => h) (Or.inr ⟨by rfl, rfl⟩) (by assumption) ?_
        try simp only [Act.put, List.setIfInBounds_toArray, List.set_cons_zero, List.set_cons_succ]
        refine wpAnyH_take (i := 27) (oi := { dst := some 78, op := Go.Op.unOp Go.UnOp.not 4 (Go.Operand.tmp 77), type := 4, pos := "law.go:122", after := #[{ on := 26, ground := Go.Ground.data }, { on := 19, ground := Go.Ground.guard }], guard := some (19, false) }) (v := undef) rfl (by kernel_rfl) (by kernel_rfl) (by kernel_rfl) (fun _ _ _ h => h) (Or.inr ⟨by rfl, rfl⟩) (by assumption) ?_
        try simp only [Act.put, List.setIfInBounds_toArray, List.set_cons_zero, List.set_cons_succ]
        refine wpAnyH_take (i := 28) (oi := { dst := some 79, op := Go.Op.pick (Go.Operand.tmp 70) (Go.Operand.const (Go.Value.bool true)) (Go.Operand.tmp 78), type := 4, pos := "law.go:122", after := #[{ on := 19, ground := Go.Ground.data }, { on := 27, ground := Go.Ground.data }, { on := 12, ground := Go.Ground.guard }], guard := some (12, true) }) (v := undef) rfl (by kernel_rfl) (by kernel_rfl) (by kernel_rfl) (fun _ _ _ h => h) (Or.inr ⟨by rfl, rfl⟩) (by assumption) ?_
        try simp only [Act.put, List.setIfInBounds_toArray, List.set_cons_zero, List.set_cons_succ]
        refine wpAnyH_take (i := 29) (oi := { dst := some 80, op := Go.Op.pick (Go.Operand.tmp 63) (Go.Operand.tmp 79) (Go.Operand.const (Go.Value.bool false)), type := 4, pos := "law.go:122", after := #[{ on := 12, ground := Go.Ground.data }, { on := 28, ground := Go.Ground.data }, { on := 9, ground := Go.Ground.guard }], guard := some (9, false) }) (v := ?_) rfl (by kernel_rfl) (by kernel_rfl) (by kernel_rfl) (fun _ _ _ h => h) (Or.inl ⟨by rfl, ?_⟩) (by assumption) ?_
        rotate_left
        · intro w hSw
          try dsimp only at hSw
          go_simp
          all_goals with_reducible rfl
        try simp only [Act.put, List.setIfInBounds_toArray, List.set_cons_zero, List.set_cons_succ]
        refine wpAnyH_take (i := 30) (oi := { dst := some 81, op := Go.Op.pick (Go.Operand.tmp 60) (Go.Operand.const (Go.Value.bool true)) (Go.Operand.tmp 80), type := 4, pos := "law.go:122", after := #[{ on := 9, ground := Go.Ground.data }, { on := 29, ground := Go.Ground.data }], guard := none }) (v := ?_) rfl (by kernel_rfl) (by kernel_rfl) (by kernel_rfl) (fun _ _ _ h => h) (Or.inl ⟨by rfl, ?_⟩) (by assumption) ?_
        rotate_left
        · intro w hSw
          try dsimp only at hSw
          go_simp
          all_goals with_reducible rfl
        try simp only [Act.put, List.setIfInBounds_toArray, List.set_cons_zero, List.set_cons_succ]
        refine wpAnyH_done (by kernel_rfl) ?_ _
        clear z0
        go_wp2
        go_roundw
        case rel => exact ⟨k + 1, by omega, by go_num, F', _, HST2.out, HP6.out.next (Below.refl _ _).drew⟩
        case measure => simp [intOf]; omega
    · obtain rfl : k = len := by omega
      have HP := Lib.hid hp
      clear hp hL
      go_wp2
      go_ret
      exact ⟨rfl, HP.out.bel⟩
end Go.Proofs.Ytgifbkmpaejdbaa
