/- The walk of JournalNumbers. -/
import Derived.Test.YtonjdpchocdghaaIL2
namespace Go.Proofs.Ytonjdpchocdghaa
open Go Go.RowKit
set_option maxRecDepth 20000
theorem fromK_zero (L : Nat) : fromK 0 L = 0 := by
  unfold fromK
  rw [if_neg (by omega)]
  split <;> omega
theorem same_of {o : Int} {K M : Nat} {uss : List (List Up)} {xs rs : List Rn} (hs : ∀ us ∈ uss, Sm us) (hM : uss.length - K = M) (h1 : Of o K (uss.drop K) xs) (h2 : Of o K (uss.drop K) rs) : Alk M xs rs ∧ ∀ i, i < M → (xs.getD i rn0).us.length ≤ 1000000 := by
  have hl : (uss.drop K).length = M := by rw [List.length_drop]; exact hM
  refine ⟨h1.alk h2 (by omega), fun i hi => ?_⟩
  rw [(h1.at' i (by omega)).2.2]
  have hm : (uss.drop K).getD i [] ∈ uss := by
    rw [List.getD_eq_getElem?_getD, List.getElem?_eq_getElem (by omega)]
    exact List.mem_of_mem_drop (List.getElem_mem (by omega))
  have := (hs _ hm).1
  omega
set_option maxHeartbeats 8000000 in
theorem walkNumbers (x0 x1 : Int) (a : Option Addr) (len cap : Nat) (ls : List Rn) (num : Int) (w : World) (h : IsLs w a len ls) :
    Calls Try.prog 4 #[.agg #[.int .i64 x0, .int .i64 x1], .slice a len cap, .int .i64 num] w fun e w' => e = .returned (.bool true) ∧ Below w.heap.size w w' := by
  have H := Lib.hid h
  have hsz := h.size
  clear h
  obtain ⟨X0, hX0⟩ : ∃ X, X = w.alloc (.cells #[.int .i64 x0, .int .i64 x1] 22) := ⟨_, rfl⟩
  have hbX : Below w.heap.size w X0 := by rw [hX0]; exact Joins.below_alloc1 _ _
  have hxX : X0.heap[w.heap.size]? = some (.cells #[.int .i64 x0, .int .i64 x1] 22 (0, 0)) := by rw [hX0]; exact heap_alloc_new _ _
  have HBX := Lib.hid hbX
  have HCX : Hid (∀ W, Below X0.heap.size X0 W → W.cell? ⟨w.heap.size, 0, none⟩ = some (.int .i64 x0) ∧ W.cell? ⟨w.heap.size, 1, none⟩ = some (.int .i64 x1)) := Lib.hid fun W hW => by
    have hl : w.heap.size < X0.heap.size := (Array.getElem?_eq_some_iff.1 hxX).1
    have h2 := (hW.block _ hl).trans hxX
    exact ⟨cell_at h2 0 _ rfl, cell_at h2 1 _ rfl⟩
  have hq := HCX.out X0 (Below.refl _ _)
  rw [hX0] at hq
  clear hbX hxX
  go_enter Try.func4, Try.ntmps4
  go_wp2_with fail
  rw [← hX0]
  clear hX0 hq
  refine wp_region_held_drew (S := fun w' => w'.cell? ⟨w.heap.size, 0, none⟩ = some (.int .i64 x0) ∧ w'.cell? ⟨w.heap.size, 1, none⟩ = some (.int .i64 x1)) (by kernel_rfl) ?_ (fun hH => ?_)
  · exact HCX.out X0.drew (Below.refl _ _).drew
  refine wpAnyH_take (i := 0) (oi := { dst := some 11, op := Go.Op.indexAddr 22 (Go.Operand.tmp 3) (Go.Operand.const (Go.Value.int Go.IntKind.i64 0)), type := 0, pos := "law.go:65", after := #[], guard := none }) (v := ?_) rfl (by kernel_rfl) (by kernel_rfl) (by kernel_rfl) (fun _ _ _ h => h) (Or.inl ⟨by rfl, ?_⟩) (by assumption) ?_
  rotate_left
  · intro w hSw
    try dsimp only at hSw
    obtain ⟨q0, q1⟩ := hSw
    go_simp
    all_goals with_reducible rfl
  try simp only [Act.put, List.setIfInBounds_toArray, List.set_cons_zero, List.set_cons_succ]
  refine wpAnyH_take (i := 1) (oi := { dst := some 12, op := Go.Op.load 3 (Go.Operand.tmp 11), type := 3, pos := "law.go:65", after := #[{ on := 0, ground := Go.Ground.data }], guard := none }) (v := ?_) rfl (by kernel_rfl) (by kernel_rfl) (by kernel_rfl) (fun _ _ _ h => h) (Or.inl ⟨by rfl, ?_⟩) (by assumption) ?_
  rotate_left
  · intro w hSw
    try dsimp only at hSw
    obtain ⟨q0, q1⟩ := hSw
    go_simp
    all_goals with_reducible rfl
  try simp only [Act.put, List.setIfInBounds_toArray, List.set_cons_zero, List.set_cons_succ]
  refine wpAnyH_take (i := 2) (oi := { dst := some 13, op := Go.Op.indexAddr 22 (Go.Operand.tmp 3) (Go.Operand.const (Go.Value.int Go.IntKind.i64 1)), type := 0, pos := "law.go:65", after := #[], guard := none }) (v := ?_) rfl (by kernel_rfl) (by kernel_rfl) (by kernel_rfl) (fun _ _ _ h => h) (Or.inl ⟨by rfl, ?_⟩) (by assumption) ?_
  rotate_left
  · intro w hSw
    try dsimp only at hSw
    obtain ⟨q0, q1⟩ := hSw
    go_simp
    all_goals with_reducible rfl
  try simp only [Act.put, List.setIfInBounds_toArray, List.set_cons_zero, List.set_cons_succ]
  refine wpAnyH_take (i := 3) (oi := { dst := some 14, op := Go.Op.load 3 (Go.Operand.tmp 13), type := 3, pos := "law.go:65", after := #[{ on := 2, ground := Go.Ground.data }], guard := none }) (v := ?_) rfl (by kernel_rfl) (by kernel_rfl) (by kernel_rfl) (fun _ _ _ h => h) (Or.inl ⟨by rfl, ?_⟩) (by assumption) ?_
  rotate_left
  · intro w hSw
    try dsimp only at hSw
    obtain ⟨q0, q1⟩ := hSw
    go_simp
    all_goals with_reducible rfl
  try simp only [Act.put, List.setIfInBounds_toArray, List.set_cons_zero, List.set_cons_succ]
  refine wpAnyH_take (i := 5) (oi := { dst := some 16, op := Go.Op.indexAddr 22 (Go.Operand.tmp 3) (Go.Operand.const (Go.Value.int Go.IntKind.i64 0)), type := 0, pos := "law.go:65", after := #[], guard := none }) (v := ?_) rfl (by kernel_rfl) (by kernel_rfl) (by kernel_rfl) (fun _ _ _ h => h) (Or.inl ⟨by rfl, ?_⟩) (by assumption) ?_
  rotate_left
  · intro w hSw
    try dsimp only at hSw
    obtain ⟨q0, q1⟩ := hSw
    go_simp
    all_goals with_reducible rfl
  try simp only [Act.put, List.setIfInBounds_toArray, List.set_cons_zero, List.set_cons_succ]
  refine wpAnyH_take (i := 6) (oi := { dst := some 17, op := Go.Op.load 3 (Go.Operand.tmp 16), type := 3, pos := "law.go:65", after := #[{ on := 5, ground := Go.Ground.data }], guard := none }) (v := ?_) rfl (by kernel_rfl) (by kernel_rfl) (by kernel_rfl) (fun _ _ _ h => h) (Or.inl ⟨by rfl, ?_⟩) (by assumption) ?_
  rotate_left
  · intro w hSw
    try dsimp only at hSw
    obtain ⟨q0, q1⟩ := hSw
    go_simp
    all_goals with_reducible rfl
  try simp only [Act.put, List.setIfInBounds_toArray, List.set_cons_zero, List.set_cons_succ]
  refine wpAnyH_take (i := 7) (oi := { dst := some 18, op := Go.Op.indexAddr 22 (Go.Operand.tmp 3) (Go.Operand.const (Go.Value.int Go.IntKind.i64 1)), type := 0, pos := "law.go:65", after := #[], guard := none }) (v := ?_) rfl (by kernel_rfl) (by kernel_rfl) (by kernel_rfl) (fun _ _ _ h => h) (Or.inl ⟨by rfl, ?_⟩) (by assumption) ?_
  rotate_left
  · intro w hSw
    try dsimp only at hSw
    obtain ⟨q0, q1⟩ := hSw
    go_simp
    all_goals with_reducible rfl
  try simp only [Act.put, List.setIfInBounds_toArray, List.set_cons_zero, List.set_cons_succ]
  refine wpAnyH_take (i := 8) (oi := { dst := some 19, op := Go.Op.load 3 (Go.Operand.tmp 18), type := 3, pos := "law.go:65", after := #[{ on := 7, ground := Go.Ground.data }], guard := none }) (v := ?_) rfl (by kernel_rfl) (by kernel_rfl) (by kernel_rfl) (fun _ _ _ h => h) (Or.inl ⟨by rfl, ?_⟩) (by assumption) ?_
  rotate_left
  · intro w hSw
    try dsimp only at hSw
    obtain ⟨q0, q1⟩ := hSw
    go_simp
    all_goals with_reducible rfl
  try simp only [Act.put, List.setIfInBounds_toArray, List.set_cons_zero, List.set_cons_succ]
  refine wpAnyH_ready (rs := [4]) (by kernel_rfl) (by simp) ?_
  refine AllReadyH.cons (o := { dst := some 15, op := Go.Op.call { callee := Go.Callee.value (Go.Operand.func 8), args := #[Go.Operand.tmp 12, Go.Operand.tmp 14], argTypes := #[3, 3] }, type := 24, pos := "law.go:65", after := #[{ on := 1, ground := Go.Ground.data }, { on := 3, ground := Go.Ground.data }], guard := none }) rfl (fun K hK => ?_) ?_
  · go_simp
    refine (jnew_any x0 x1 w.heap.size X0.drew HBX.out.size).mono ?_
    rintro e w1 ⟨rfl, hj, hb'⟩
    have hb : Below X0.heap.size X0 w1 := ⟨hb'.os, hb'.tape, hb'.output, hb'.size, hb'.block⟩
    have HJ0 : Hid (Jx 52 w.heap.size w1 X0.heap.size (Jf X0.heap.size (.slice none 0 0) fun _ => False) x0 (lastOf x1) []) := Lib.hid hj
    have HB0 := Lib.hid hb
    have hq1 := HCX.out _ hb
    clear hj hb hb'
    go_wp2_with fail
    refine hK.out _ _ ?_ (fun hH => ?_)
    · exact hq1
    clear hK K
    try simp only [Act.put, List.setIfInBounds_toArray, List.set_cons_zero, List.set_cons_succ]
    refine wpAnyH_ready (rs := [9]) (by kernel_rfl) (by simp) ?_
    refine AllReadyH.cons (o := { dst := some 20, op := Go.Op.call { callee := Go.Callee.value (Go.Operand.func 9), args := #[Go.Operand.tmp 17, Go.Operand.tmp 19], argTypes := #[3, 3] }, type := 26, pos := "law.go:65", after := #[{ on := 6, ground := Go.Ground.data }, { on := 8, ground := Go.Ground.data }, { on := 4, ground := Go.Ground.chain }], guard := none }) rfl (fun K hK => ?_) ?_
    · go_simp
      refine (dnew_any x0 x1 w.heap.size w1 (Nat.le_trans HBX.out.size HB0.out.size)).mono ?_
      rintro e w1' ⟨rfl, hj, hb⟩
      have H1 : Hid (Jp 52 42 w w1' X0.heap.size w1.heap.size _ _ x0 x0 (lastOf x1) [] []) := Lib.hid ⟨Below.next (Below.next HBX.out HB0.out) hb, HJ0.out.next hb, hj, fun k h1 h2 => by
        have := jf0 h1
        have := jf0 h2
        have := (HJ0.out.foot k h1).2
        omega⟩
      have hq2 := HCX.out _ (Below.next HB0.out hb)
      generalize Jf X0.heap.size (.slice none 0 0) (fun _ => False) = F0 at H1
      generalize Jf w1.heap.size (.slice none 0 0) (fun _ => False) = G0 at H1
      clear hj hb HJ0
      go_wp2_with fail
      refine hK.out _ _ ?_ (fun hH => ?_)
      · exact hq2
      clear hK K
      try simp only [Act.put, List.setIfInBounds_toArray, List.set_cons_zero, List.set_cons_succ]
      refine wpAnyH_take (i := 10) (oi := { dst := some 7, op := Go.Op.assign (Go.Operand.tmp 15), type := 24, pos := "law.go:65", after := #[{ on := 4, ground := Go.Ground.data }, { on := 9, ground := Go.Ground.chain }, { on := 0, ground := Go.Ground.phase }, { on := 1, ground := Go.Ground.phase }, { on := 2, ground := Go.Ground.phase }, { on := 3, ground := Go.Ground.phase }, { on := 4, ground := Go.Ground.phase }, { on := 5, ground := Go.Ground.textOnly Go.Departure.lateStores }, { on := 6, ground := Go.Ground.textOnly Go.Departure.lateStores }, { on := 7, ground := Go.Ground.textOnly Go.Departure.lateStores }, { on := 8, ground := Go.Ground.textOnly Go.Departure.lateStores }, { on := 9, ground := Go.Ground.textOnly Go.Departure.lateStoresUnsure }], guard := none }) (v := ?_) rfl (by kernel_rfl) (by kernel_rfl) (by kernel_rfl) (fun _ _ _ h => h) (Or.inl ⟨by rfl, ?_⟩) (by assumption) ?_
      rotate_left
      · intro w _hSw
        try dsimp only at _hSw
        go_simp
        all_goals with_reducible rfl
      try simp only [Act.put, List.setIfInBounds_toArray, List.set_cons_zero, List.set_cons_succ]
      refine wpAnyH_take (i := 11) (oi := { dst := some 8, op := Go.Op.assign (Go.Operand.tmp 20), type := 26, pos := "law.go:65", after := #[{ on := 9, ground := Go.Ground.data }, { on := 10, ground := Go.Ground.chain }, { on := 0, ground := Go.Ground.phase }, { on := 1, ground := Go.Ground.phase }, { on := 2, ground := Go.Ground.phase }, { on := 3, ground := Go.Ground.phase }, { on := 4, ground := Go.Ground.phase }, { on := 5, ground := Go.Ground.phase }, { on := 6, ground := Go.Ground.phase }, { on := 7, ground := Go.Ground.phase }, { on := 8, ground := Go.Ground.phase }, { on := 9, ground := Go.Ground.phase }, { on := 10, ground := Go.Ground.phase }], guard := none }) (v := ?_) rfl (by kernel_rfl) (by kernel_rfl) (by kernel_rfl) (fun _ _ _ h => h) (Or.inl ⟨by rfl, ?_⟩) (by assumption) ?_
      rotate_left
      · intro w _hSw
        try dsimp only at _hSw
        go_simp
        all_goals with_reducible rfl
      try simp only [Act.put, List.setIfInBounds_toArray, List.set_cons_zero, List.set_cons_succ]
      refine wpAnyH_done (by kernel_rfl) ?_ _
      clear HB0 HBX HCX
      generalize lastOf x1 = last at *
      generalize X0.heap.size = b at *
      generalize w1.heap.size = c at *
      by_cases hg : gL ls
      · go_wp2_with fail
        refine (awake_any _).mono ?_
        rintro e w2 ⟨rfl, hb⟩
        have H2 := Lib.hid (H1.out.next hb)
        clear hb H1
        go_wp2_with fail
        refine (great_yes a len cap ls hg _ (isLs_below H.out H2.out.bel)).mono ?_
        rintro e w3 ⟨rfl, hb⟩
        have H3 := Lib.hid (H2.out.next hb)
        clear hb H2
        go_wp2_with fail
        refine (awake_any _).mono ?_
        rintro e w4 ⟨rfl, hb⟩
        have H4 := Lib.hid (H3.out.next hb)
        clear hb H3
        go_wp2
        go_ret
        exact ⟨rfl, H4.out.bel⟩
      obtain ⟨hl30, hgl⟩ := gL_at hg
      have HG := Lib.hid hgl
      have HNG := fun w h => Lib.hid (great_no a len cap ls hg w h)
      have hlen : len ≤ 30 := by omega
      clear hgl hl30 hg
      go_wp2_with fail
      refine (awake_any _).mono ?_
      rintro e w2 ⟨rfl, hb⟩
      have H2 := Lib.hid (H1.out.next hb)
      clear hb H1
      go_wp2_with fail
      refine (HNG _ (isLs_below H.out H2.out.bel)).out.mono ?_
      rintro e w3 ⟨rfl, hb⟩
      have H3 := Lib.hid (H2.out.next hb)
      clear hb H2 HNG
      go_wp2_with fail
      go_loopw [34] (fun v34 wr => ∃ k : Nat, k ≤ len ∧ v34 = .int .i64 k ∧ ∃ F G uss, uss.length ≤ k ∧ Jp 52 42 w wr b c F G x0 x0 last uss uss) (fun v34 _ => len - (intOf v34).toNat)
      case atStart => exact ⟨0, Nat.zero_le _, rfl, F0, G0, [], Nat.le_refl _, H3.out⟩
      case round =>
        obtain ⟨k, hk, rfl, F, G, uss, hul, hp⟩ := hrel
        clear H3
        by_cases hlt : k < len
        · obtain ⟨gb, off, rfl, c0, hru⟩ := lcells_of H.out hp.bel hlt
          obtain ⟨_, hsm⟩ := HG.out k (by omega)
          have HP := Lib.hid hp
          generalize ls.getD k rn0 = r at *
          obtain ⟨ro0, rn0', ra, rl, rc, rus⟩ := r
          simp only at c0 hsm
          have HRU := Lib.hid hru
          have hrl := hru.1.size
          have hlc := hru.2.1
          have hna := hru.2.2
          simp only at hrl hlc hna
          have hr1000 := hsm.1
          clear hru hp
          go_wp2_with (at_builtin; refine wpList_appU0 rfl _ _ rfl rfl ra rl rc rfl rus (HRU.out.below HP.out.bel).1 hlc hna (by omega) ?_)
          intro a3 c3 w3 hr3 hb3
          have hP3 := HP.out.next hb3
          have HA := Lib.hid (jadd_any (uss := uss) (us := rus) (by omega) a3 rl c3 hsm w3 (hr3.isU hrl.symm).1 (fun g off e hF => by
            have := (hr3.addr e).1
            have := (HP.out.j.foot g hF).2
            omega) hP3.j)
          have HP3 := Lib.hid hP3
          clear hr3 hb3 hP3
          go_wp2_with fail
          refine HA.out.mono ?_
          rintro e w4 ⟨r, F', rfl, haw, _, _⟩
          have hP4 := HP3.out.add1 haw
          have HM := Lib.hid (dadd_any (uss := uss) (us := rus) (by omega) ra rl rc hsm w4 (HRU.out.below hP4.bel).1 hlc hna hP4.m)
          have HP4 := Lib.hid hP4
          clear haw hP4 HA HP3
          go_wp2_with fail
          refine HM.out.mono ?_
          rintro e w5 ⟨q, G', rfl, haw⟩
          have HP5 := Lib.hid (HP4.out.add2 haw)
          clear haw HM HP4
          go_wp2
          go_roundw
          case rel => exact ⟨k + 1, by omega, by go_num, F', G', _, Nat.le_trans (addL_len x0 last uss rus) (by omega), HP5.out⟩
          case measure => simp [intOf]; omega
        · obtain rfl : k = len := by omega
          obtain ⟨am, cm, rm, hc2, hrm, hom, hsmm, hcW⟩ := hp.m.open'
          obtain ⟨L, hL⟩ : ∃ L, uss.length = L := ⟨_, rfl⟩
          rw [hL] at hc2 hrm hcW
          have HF1 := Lib.hid (fun W h => jfrom_any (uss := uss) (F := F) (B := w.heap.size) (b := b) (o := x0) (last := last) num (by omega) W h)
          have HF2 := Lib.hid (fun W h => dfrom_any (uss := uss) (F := G) (B := w.heap.size) (b := c) (o := x0) (last := last) num W h)
          have HF3 := Lib.hid (fun W h => jfrom_any (uss := uss) (F := F) (B := w.heap.size) (b := b) (o := x0) (last := last) 0 (by omega) W h)
          rw [fromK_zero] at HF3
          rw [hL] at HF1 HF2 HF3
          have HSA := Lib.hid (fun xs rs h1 h2 => same_of (o := x0) (K := fromK num L) (uss := uss) (xs := xs) (rs := rs) hsmm (by rw [hL]) h1 h2)
          have HSB := Lib.hid (fun xs h1 => same_of (o := x0) (K := 0) (uss := uss) (xs := xs) (rs := rm) hsmm (by rw [hL]) h1 hom)
          obtain ⟨M, hM⟩ : ∃ M, L - fromK num L = M := ⟨_, rfl⟩
          rw [hM] at HF1 HF2 HSA
          rw [Nat.sub_zero] at HF3 HSB
          have hM30 : M ≤ 30 := by omega
          have hL30 : L ≤ 30 := by omega
          have HRM := Lib.hid hrm
          have HCW := Lib.hid hcW
          have HP := Lib.hid hp
          generalize fromK num L = K at *
          have HDL : Hid ((uss.drop K).length = M) := Lib.hid (by rw [List.length_drop]; omega)
          have HLL : Hid ((uss.drop 0).length = L) := Lib.hid (by rw [List.drop_zero]; exact hL)
          clear hp hrm hcW hom hsmm hM hL hul
          go_wp2_with fail
          refine wp_region_held_drew (S := fun w' => w'.cell? ⟨c, 2, none⟩ = some (.slice am L cm)) (by kernel_rfl) ?_ (fun hH => ?_)
          · exact hc2
          refine wpAnyH_take (i := 0) (oi := { dst := some 47, op := Go.Op.move (Go.Operand.tmp 7), type := 24, pos := "law.go:73", after := #[], guard := none }) (v := ?_) rfl (by kernel_rfl) (by kernel_rfl) (by kernel_rfl) (fun _ _ _ h => h) (Or.inl ⟨by rfl, ?_⟩) (by assumption) ?_
          rotate_left
          · intro w hSw
            try dsimp only at hSw
            go_simp
            all_goals with_reducible rfl
          try simp only [Act.put, List.setIfInBounds_toArray, List.set_cons_zero, List.set_cons_succ]
          refine wpAnyH_take (i := 1) (oi := { dst := some 48, op := Go.Op.move (Go.Operand.tmp 2), type := 3, pos := "law.go:73", after := #[], guard := none }) (v := ?_) rfl (by kernel_rfl) (by kernel_rfl) (by kernel_rfl) (fun _ _ _ h => h) (Or.inl ⟨by rfl, ?_⟩) (by assumption) ?_
          rotate_left
          · intro w hSw
            try dsimp only at hSw
            go_simp
            all_goals with_reducible rfl
          try simp only [Act.put, List.setIfInBounds_toArray, List.set_cons_zero, List.set_cons_succ]
          refine wpAnyH_take (i := 3) (oi := { dst := some 50, op := Go.Op.move (Go.Operand.tmp 8), type := 26, pos := "law.go:73", after := #[], guard := none }) (v := ?_) rfl (by kernel_rfl) (by kernel_rfl) (by kernel_rfl) (fun _ _ _ h => h) (Or.inl ⟨by rfl, ?_⟩) (by assumption) ?_
          rotate_left
          · intro w hSw
            try dsimp only at hSw
            go_simp
            all_goals with_reducible rfl
          try simp only [Act.put, List.setIfInBounds_toArray, List.set_cons_zero, List.set_cons_succ]
          refine wpAnyH_take (i := 4) (oi := { dst := some 51, op := Go.Op.move (Go.Operand.tmp 2), type := 3, pos := "law.go:73", after := #[], guard := none }) (v := ?_) rfl (by kernel_rfl) (by kernel_rfl) (by kernel_rfl) (fun _ _ _ h => h) (Or.inl ⟨by rfl, ?_⟩) (by assumption) ?_
          rotate_left
          · intro w hSw
            try dsimp only at hSw
            go_simp
            all_goals with_reducible rfl
          try simp only [Act.put, List.setIfInBounds_toArray, List.set_cons_zero, List.set_cons_succ]
          refine wpAnyH_ready (rs := [2]) (by kernel_rfl) (by simp) ?_
          refine AllReadyH.cons (o := { dst := some 49, op := Go.Op.call { callee := Go.Callee.value (Go.Operand.func 18), args := #[Go.Operand.tmp 47, Go.Operand.tmp 48], argTypes := #[24, 3] }, type := 40, pos := "law.go:73", after := #[{ on := 0, ground := Go.Ground.data }, { on := 1, ground := Go.Ground.data }], guard := none }) rfl (fun K hK => ?_) ?_
          · go_simp
            refine (HF1.out wr.drew HP.out.drew.j).mono ?_
            rintro e w5 ⟨g1, xs, rfl, hz, _, hown, hof, hb'⟩
            have HB5 : Hid (Below wr.heap.size wr w5) := Lib.hid ⟨hb'.os, hb'.tape, hb'.output, hb'.size, hb'.block⟩
            have HOF := Lib.hid hof
            have hxl : xs.length = M := by rw [hof.len, HDL.out]
            have HX5 : Hid (IsRs w5 (some ⟨g1, 0, none⟩) M xs) := Lib.hid ⟨hxl, by have := hz.at.lies; rw [hxl] at this; exact this, fun r hr => (hown r hr).ru⟩
            have k5 := HCW.out _ HB5.out
            have HP5 := Lib.hid (HP.out.next HB5.out)
            clear hz hown hof hb' hxl
            go_wp2_with fail
            refine hK.out _ _ ?_ (fun hH => ?_)
            · exact k5
            clear hK K
            try simp only [Act.put, List.setIfInBounds_toArray, List.set_cons_zero, List.set_cons_succ]
            refine wpAnyH_ready (rs := [5]) (by kernel_rfl) (by simp) ?_
            refine AllReadyH.cons (o := { dst := some 52, op := Go.Op.call { callee := Go.Callee.value (Go.Operand.func 19), args := #[Go.Operand.tmp 50, Go.Operand.tmp 51], argTypes := #[26, 3] }, type := 40, pos := "law.go:73", after := #[{ on := 3, ground := Go.Ground.data }, { on := 4, ground := Go.Ground.data }, { on := 2, ground := Go.Ground.chain }], guard := none }) rfl (fun K hK => ?_) ?_
            · go_simp
              refine (HF2.out w5 HP5.out.m).mono ?_
              rintro e w5' ⟨a6, c6, rs6, rfl, hr6, hof6, rfl⟩
              have HX6 := Lib.hid hr6
              have HOF6 := Lib.hid hof6
              clear hr6 hof6
              go_wp2_with fail
              refine hK.out _ _ ?_ (fun hH => ?_)
              · exact k5
              clear hK K
              try simp only [Act.put, List.setIfInBounds_toArray, List.set_cons_zero, List.set_cons_succ]
              refine wpAnyH_ready (rs := [6]) (by kernel_rfl) (by simp) ?_
              refine AllReadyH.cons (o := { dst := some 53, op := Go.Op.call { callee := Go.Callee.value (Go.Operand.func 17), args := #[Go.Operand.tmp 49, Go.Operand.tmp 52], argTypes := #[40, 40] }, type := 4, pos := "law.go:73", after := #[{ on := 2, ground := Go.Ground.data }, { on := 5, ground := Go.Ground.data }, { on := 5, ground := Go.Ground.chain }], guard := none }) rfl (fun K hK => ?_) ?_
              · go_simp
                refine (sameall_yes _ _ M M c6 xs rs6 (by omega) (HSA.out xs rs6 HOF.out HOF6.out).1 (HSA.out xs rs6 HOF.out HOF6.out).2 w5' HX5.out HX6.out).mono ?_
                rintro e w6 ⟨rfl, hb⟩
                have HB6 := Lib.hid (Below.next HB5.out hb)
                have HP6 := Lib.hid (HP5.out.next hb)
                have k6 := HCW.out _ HB6.out
                clear hb
                go_wp2_with fail
                refine hK.out _ _ ?_ (fun hH => ?_)
                · exact k6
                clear hK K
                try simp only [Act.put, List.setIfInBounds_toArray, List.set_cons_zero, List.set_cons_succ]
                refine wpAnyH_take (i := 7) (oi := { dst := some 54, op := Go.Op.move (Go.Operand.tmp 53), type := 4, pos := "law.go:73", after := #[{ on := 6, ground := Go.Ground.data }, { on := 6, ground := Go.Ground.chain }], guard := none }) (v := ?_) rfl (by kernel_rfl) (by kernel_rfl) (by kernel_rfl) (fun _ _ _ h => h) (Or.inl ⟨by rfl, ?_⟩) (by assumption) ?_
                rotate_left
                · intro w hSw
                  try dsimp only at hSw
                  go_simp
                  all_goals with_reducible rfl
                try simp only [Act.put, List.setIfInBounds_toArray, List.set_cons_zero, List.set_cons_succ]
                refine wpAnyH_take (i := 8) (oi := { dst := some 55, op := Go.Op.move (Go.Operand.tmp 7), type := 24, pos := "law.go:73", after := #[{ on := 7, ground := Go.Ground.guard }], guard := some (7, true) }) (v := ?_) rfl (by kernel_rfl) (by kernel_rfl) (by kernel_rfl) (fun _ _ _ h => h) (Or.inl ⟨by rfl, ?_⟩) (by assumption) ?_
                rotate_left
                · intro w hSw
                  try dsimp only at hSw
                  go_simp
                  all_goals with_reducible rfl
                try simp only [Act.put, List.setIfInBounds_toArray, List.set_cons_zero, List.set_cons_succ]
                refine wpAnyH_take (i := 10) (oi := { dst := some 57, op := Go.Op.move (Go.Operand.tmp 8), type := 26, pos := "law.go:73", after := #[{ on := 7, ground := Go.Ground.guard }], guard := some (7, true) }) (v := ?_) rfl (by kernel_rfl) (by kernel_rfl) (by kernel_rfl) (fun _ _ _ h => h) (Or.inl ⟨by rfl, ?_⟩) (by assumption) ?_
                rotate_left
                · intro w hSw
                  try dsimp only at hSw
                  go_simp
                  all_goals with_reducible rfl
                try simp only [Act.put, List.setIfInBounds_toArray, List.set_cons_zero, List.set_cons_succ]
                refine wpAnyH_take (i := 11) (oi := { dst := some 58, op := Go.Op.nilCheck (Go.Operand.tmp 57), type := 0, pos := "law.go:73", after := #[{ on := 10, ground := Go.Ground.data }, { on := 7, ground := Go.Ground.guard }], guard := some (7, true) }) (v := ?_) rfl (by kernel_rfl) (by kernel_rfl) (by kernel_rfl) (fun _ _ _ h => h) (Or.inl ⟨by rfl, ?_⟩) (by assumption) ?_
                rotate_left
                · intro w hSw
                  try dsimp only at hSw
                  go_simp
                  all_goals with_reducible rfl
                try simp only [Act.put, List.setIfInBounds_toArray, List.set_cons_zero, List.set_cons_succ]
                refine wpAnyH_take (i := 12) (oi := { dst := some 59, op := Go.Op.fieldAddr 42 (Go.Operand.tmp 58) 2, type := 0, pos := "law.go:73", after := #[{ on := 11, ground := Go.Ground.data }, { on := 7, ground := Go.Ground.guard }], guard := some (7, true) }) (v := ?_) rfl (by kernel_rfl) (by kernel_rfl) (by kernel_rfl) (fun _ _ _ h => h) (Or.inl ⟨by rfl, ?_⟩) (by assumption) ?_
                rotate_left
                · intro w hSw
                  try dsimp only at hSw
                  go_simp
                  all_goals with_reducible rfl
                try simp only [Act.put, List.setIfInBounds_toArray, List.set_cons_zero, List.set_cons_succ]
                refine wpAnyH_take (i := 13) (oi := { dst := some 60, op := Go.Op.load 40 (Go.Operand.tmp 59), type := 40, pos := "law.go:73", after := #[{ on := 12, ground := Go.Ground.data }, { on := 7, ground := Go.Ground.guard }], guard := some (7, true) }) (v := ?_) rfl (by kernel_rfl) (by kernel_rfl) (by kernel_rfl) (fun _ _ _ h => h) (Or.inl ⟨by rfl, ?_⟩) (by assumption) ?_
                rotate_left
                · intro w hSw
                  try dsimp only at hSw
                  go_simp
                  all_goals with_reducible rfl
                try simp only [Act.put, List.setIfInBounds_toArray, List.set_cons_zero, List.set_cons_succ]
                refine wpAnyH_ready (rs := [9]) (by kernel_rfl) (by simp) ?_
                refine AllReadyH.cons (o := { dst := some 56, op := Go.Op.call { callee := Go.Callee.value (Go.Operand.func 18), args := #[Go.Operand.tmp 55, Go.Operand.const (Go.Value.int Go.IntKind.i64 0)], argTypes := #[24, 3] }, type := 40, pos := "law.go:73", after := #[{ on := 8, ground := Go.Ground.data }, { on := 7, ground := Go.Ground.chain }, { on := 7, ground := Go.Ground.guard }], guard := some (7, true) }) rfl (fun K hK => ?_) ?_
                · go_simp
                  refine (HF3.out w6 HP6.out.j).mono ?_
                  rintro e w7 ⟨g2, ys, rfl, hz, _, hown, hof, hb⟩
                  have HB7 := Lib.hid (Below.next HB6.out hb)
                  have HOF7 := Lib.hid hof
                  have hyl : ys.length = L := by rw [hof.len]; exact HLL.out
                  have HX7 : Hid (IsRs w7 (some ⟨g2, 0, none⟩) L ys) := Lib.hid ⟨hyl, by have := hz.at.lies; rw [hyl] at this; exact this, fun r hr => (hown r hr).ru⟩
                  have k7 := HCW.out _ HB7.out
                  have HP7 := Lib.hid (HP6.out.next hb)
                  clear hz hown hof hb hyl
                  go_wp2_with fail
                  refine hK.out _ _ ?_ (fun hH => ?_)
                  · exact k7
                  clear hK K
                  try simp only [Act.put, List.setIfInBounds_toArray, List.set_cons_zero, List.set_cons_succ]
                  refine wpAnyH_ready (rs := [14]) (by kernel_rfl) (by simp) ?_
                  refine AllReadyH.cons (o := { dst := some 61, op := Go.Op.call { callee := Go.Callee.value (Go.Operand.func 17), args := #[Go.Operand.tmp 56, Go.Operand.tmp 60], argTypes := #[40, 40] }, type := 4, pos := "law.go:73", after := #[{ on := 9, ground := Go.Ground.data }, { on := 13, ground := Go.Ground.data }, { on := 9, ground := Go.Ground.chain }, { on := 7, ground := Go.Ground.guard }], guard := some (7, true) }) rfl (fun K hK => ?_) ?_
                  · go_simp
                    refine (sameall_yes _ _ L L cm ys rm (by omega) (HSB.out ys HOF7.out).1 (HSB.out ys HOF7.out).2 w7 HX7.out (isRs_below HRM.out HB7.out)).mono ?_
                    rintro e w8 ⟨rfl, hb⟩
                    have HB8' := Lib.hid (Below.next HB7.out hb)
                    have HB8 := Lib.hid (HP7.out.next hb).bel
                    have k8 := HCW.out _ HB8'.out
                    clear hb
                    go_wp2_with fail
                    refine hK.out _ _ ?_ (fun hH => ?_)
                    · exact k8
                    clear hK K
                    try simp only [Act.put, List.setIfInBounds_toArray, List.set_cons_zero, List.set_cons_succ]
                    refine wpAnyH_take (i := 15) (oi := { dst := some 62, op := Go.Op.pick (Go.Operand.tmp 54) (Go.Operand.tmp 61) (Go.Operand.const (Go.Value.bool false)), type := 4, pos := "law.go:73", after := #[{ on := 7, ground := Go.Ground.data }, { on := 14, ground := Go.Ground.data }], guard := none }) (v := ?_) rfl (by kernel_rfl) (by kernel_rfl) (by kernel_rfl) (fun _ _ _ h => h) (Or.inl ⟨by rfl, ?_⟩) (by assumption) ?_
                    rotate_left
                    · intro w hSw
                      try dsimp only at hSw
                      go_simp
                      all_goals with_reducible rfl
                    try simp only [Act.put, List.setIfInBounds_toArray, List.set_cons_zero, List.set_cons_succ]
                    refine wpAnyH_take (i := 16) (oi := { dst := some 6, op := Go.Op.assign (Go.Operand.tmp 62), type := 4, pos := "law.go:73", after := #[{ on := 15, ground := Go.Ground.data }, { on := 14, ground := Go.Ground.chain }, { on := 0, ground := Go.Ground.phase }, { on := 1, ground := Go.Ground.phase }, { on := 2, ground := Go.Ground.phase }, { on := 3, ground := Go.Ground.phase }, { on := 4, ground := Go.Ground.phase }, { on := 5, ground := Go.Ground.phase }, { on := 6, ground := Go.Ground.phase }, { on := 7, ground := Go.Ground.phase }, { on := 8, ground := Go.Ground.phase }, { on := 9, ground := Go.Ground.phase }, { on := 10, ground := Go.Ground.phase }, { on := 11, ground := Go.Ground.phase }, { on := 12, ground := Go.Ground.phase }, { on := 13, ground := Go.Ground.phase }, { on := 14, ground := Go.Ground.phase }, { on := 15, ground := Go.Ground.phase }], guard := none }) (v := ?_) rfl (by kernel_rfl) (by kernel_rfl) (by kernel_rfl) (fun _ _ _ h => h) (Or.inl ⟨by rfl, ?_⟩) (by assumption) ?_
                    rotate_left
                    · intro w hSw
                      try dsimp only at hSw
                      go_simp
                      all_goals with_reducible rfl
                    try simp only [Act.put, List.setIfInBounds_toArray, List.set_cons_zero, List.set_cons_succ]
                    refine wpAnyH_done (by kernel_rfl) ?_ _
                    go_wp2
                    go_ret
                    exact ⟨rfl, HB8.out⟩
                  exact AllReadyH.nil
                exact AllReadyH.nil
              exact AllReadyH.nil
            exact AllReadyH.nil
          exact AllReadyH.nil
    exact AllReadyH.nil
  exact AllReadyH.nil
end Go.Proofs.Ytonjdpchocdghaa
