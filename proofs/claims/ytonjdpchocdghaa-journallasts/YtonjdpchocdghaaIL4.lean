/- The walk of JournalPlays. -/
import Derived.Test.YtonjdpchocdghaaIL3
namespace Go.Proofs.Ytonjdpchocdghaa
open Go Go.RowKit
set_option maxRecDepth 20000
theorem isUs_left0 {w w' : World} {F : Nat → Prop} {a : Option Addr} {len : Nat} {us : List Up} (h : IsUs w a len us) (hl : Lv w w' F) (hd : 0 < len → ∀ g off, a = some ⟨g, off, none⟩ → ¬ F g) : IsUs w' a len us := by
  by_cases h0 : 0 < len
  · exact isUs_left h hl (hd h0)
  · exact ⟨h.size, fun h => absurd h h0⟩
set_option maxHeartbeats 8000000 in
theorem walkPlays (x0 x1 : Int) (a : Option Addr) (len cap : Nat) (ls : List Rn) (w : World) (h : IsLs w a len ls) :
    Calls Try.prog 3 #[.agg #[.int .i64 x0, .int .i64 x1], .slice a len cap] w fun e w' => e = .returned (.bool true) ∧ Below w.heap.size w w' := by
  have H := Lib.hid h
  have hsz := h.size
  clear h
  obtain ⟨X0, hX0⟩ : ∃ X, X = w.alloc (.cells #[.int .i64 x0, .int .i64 x1] 22) := ⟨_, rfl⟩
  have hbX : Below w.heap.size w X0 := by rw [hX0]; exact Joins.below_alloc1 _ _
  have hxX : X0.heap[w.heap.size]? = some (.cells #[.int .i64 x0, .int .i64 x1] 22 (0, 0)) := by rw [hX0]; exact heap_alloc_new _ _
  have HBX := Lib.hid hbX
  have HCX : Hid (∀ W, Below X0.heap.size X0 W → W.cell? ⟨w.heap.size, 0, none⟩ = some (.int .i64 x0) ∧ W.cell? ⟨w.heap.size, 1, none⟩ = some (.int .i64 x1)) := Lib.hid fun W hW => by
    have hl : w.heap.size < X0.heap.size := (Array.getElem?_eq_some_iff.1 hxX).1
    have h2 := (hW.block _ hl).trans hxX
    exact ⟨cell_at h2 0 _ rfl, cell_at h2 1 _ rfl⟩
  have hq := HCX.out X0 (Below.refl _ _)
  rw [hX0] at hq
  clear hbX hxX
  go_enter Try.func3, Try.ntmps3
  go_wp2_with fail
  rw [← hX0]
  clear hX0 hq
  refine wp_region_held_drew (S := fun w' => w'.cell? ⟨w.heap.size, 0, none⟩ = some (.int .i64 x0) ∧ w'.cell? ⟨w.heap.size, 1, none⟩ = some (.int .i64 x1)) (by kernel_rfl) ?_ (fun hH => ?_)
  · exact HCX.out X0.drew (Below.refl _ _).drew
  refine wpAnyH_take (i := 0) (oi := { dst := some 20, op := Go.Op.indexAddr 22 (Go.Operand.tmp 2) (Go.Operand.const (Go.Value.int Go.IntKind.i64 0)), type := 0, pos := "law.go:42", after := #[], guard := none }) (v := ?_) rfl (by kernel_rfl) (by kernel_rfl) (by kernel_rfl) (fun _ _ _ h => h) (Or.inl ⟨by rfl, ?_⟩) (by assumption) ?_
  rotate_left
  · intro w hSw
    try dsimp only at hSw
    obtain ⟨q0, q1⟩ := hSw
    go_simp
    all_goals with_reducible rfl
  try simp only [Act.put, List.setIfInBounds_toArray, List.set_cons_zero, List.set_cons_succ]
  refine wpAnyH_take (i := 1) (oi := { dst := some 21, op := Go.Op.load 3 (Go.Operand.tmp 20), type := 3, pos := "law.go:42", after := #[{ on := 0, ground := Go.Ground.data }], guard := none }) (v := ?_) rfl (by kernel_rfl) (by kernel_rfl) (by kernel_rfl) (fun _ _ _ h => h) (Or.inl ⟨by rfl, ?_⟩) (by assumption) ?_
  rotate_left
  · intro w hSw
    try dsimp only at hSw
    obtain ⟨q0, q1⟩ := hSw
    go_simp
    all_goals with_reducible rfl
  try simp only [Act.put, List.setIfInBounds_toArray, List.set_cons_zero, List.set_cons_succ]
  refine wpAnyH_take (i := 2) (oi := { dst := some 22, op := Go.Op.indexAddr 22 (Go.Operand.tmp 2) (Go.Operand.const (Go.Value.int Go.IntKind.i64 1)), type := 0, pos := "law.go:42", after := #[], guard := none }) (v := ?_) rfl (by kernel_rfl) (by kernel_rfl) (by kernel_rfl) (fun _ _ _ h => h) (Or.inl ⟨by rfl, ?_⟩) (by assumption) ?_
  rotate_left
  · intro w hSw
    try dsimp only at hSw
    obtain ⟨q0, q1⟩ := hSw
    go_simp
    all_goals with_reducible rfl
  try simp only [Act.put, List.setIfInBounds_toArray, List.set_cons_zero, List.set_cons_succ]
  refine wpAnyH_take (i := 3) (oi := { dst := some 23, op := Go.Op.load 3 (Go.Operand.tmp 22), type := 3, pos := "law.go:42", after := #[{ on := 2, ground := Go.Ground.data }], guard := none }) (v := ?_) rfl (by kernel_rfl) (by kernel_rfl) (by kernel_rfl) (fun _ _ _ h => h) (Or.inl ⟨by rfl, ?_⟩) (by assumption) ?_
  rotate_left
  · intro w hSw
    try dsimp only at hSw
    obtain ⟨q0, q1⟩ := hSw
    go_simp
    all_goals with_reducible rfl
  try simp only [Act.put, List.setIfInBounds_toArray, List.set_cons_zero, List.set_cons_succ]
  refine wpAnyH_take (i := 5) (oi := { dst := some 25, op := Go.Op.indexAddr 22 (Go.Operand.tmp 2) (Go.Operand.const (Go.Value.int Go.IntKind.i64 0)), type := 0, pos := "law.go:42", after := #[], guard := none }) (v := ?_) rfl (by kernel_rfl) (by kernel_rfl) (by kernel_rfl) (fun _ _ _ h => h) (Or.inl ⟨by rfl, ?_⟩) (by assumption) ?_
  rotate_left
  · intro w hSw
    try dsimp only at hSw
    obtain ⟨q0, q1⟩ := hSw
    go_simp
    all_goals with_reducible rfl
  try simp only [Act.put, List.setIfInBounds_toArray, List.set_cons_zero, List.set_cons_succ]
  refine wpAnyH_take (i := 6) (oi := { dst := some 26, op := Go.Op.load 3 (Go.Operand.tmp 25), type := 3, pos := "law.go:42", after := #[{ on := 5, ground := Go.Ground.data }], guard := none }) (v := ?_) rfl (by kernel_rfl) (by kernel_rfl) (by kernel_rfl) (fun _ _ _ h => h) (Or.inl ⟨by rfl, ?_⟩) (by assumption) ?_
  rotate_left
  · intro w hSw
    try dsimp only at hSw
    obtain ⟨q0, q1⟩ := hSw
    go_simp
    all_goals with_reducible rfl
  try simp only [Act.put, List.setIfInBounds_toArray, List.set_cons_zero, List.set_cons_succ]
  refine wpAnyH_take (i := 7) (oi := { dst := some 27, op := Go.Op.indexAddr 22 (Go.Operand.tmp 2) (Go.Operand.const (Go.Value.int Go.IntKind.i64 1)), type := 0, pos := "law.go:42", after := #[], guard := none }) (v := ?_) rfl (by kernel_rfl) (by kernel_rfl) (by kernel_rfl) (fun _ _ _ h => h) (Or.inl ⟨by rfl, ?_⟩) (by assumption) ?_
  rotate_left
  · intro w hSw
    try dsimp only at hSw
    obtain ⟨q0, q1⟩ := hSw
    go_simp
    all_goals with_reducible rfl
  try simp only [Act.put, List.setIfInBounds_toArray, List.set_cons_zero, List.set_cons_succ]
  refine wpAnyH_take (i := 8) (oi := { dst := some 28, op := Go.Op.load 3 (Go.Operand.tmp 27), type := 3, pos := "law.go:42", after := #[{ on := 7, ground := Go.Ground.data }], guard := none }) (v := ?_) rfl (by kernel_rfl) (by kernel_rfl) (by kernel_rfl) (fun _ _ _ h => h) (Or.inl ⟨by rfl, ?_⟩) (by assumption) ?_
  rotate_left
  · intro w hSw
    try dsimp only at hSw
    obtain ⟨q0, q1⟩ := hSw
    go_simp
    all_goals with_reducible rfl
  try simp only [Act.put, List.setIfInBounds_toArray, List.set_cons_zero, List.set_cons_succ]
  refine wpAnyH_ready (rs := [4]) (by kernel_rfl) (by simp) ?_
  refine AllReadyH.cons (o := { dst := some 24, op := Go.Op.call { callee := Go.Callee.value (Go.Operand.func 8), args := #[Go.Operand.tmp 21, Go.Operand.tmp 23], argTypes := #[3, 3] }, type := 24, pos := "law.go:42", after := #[{ on := 1, ground := Go.Ground.data }, { on := 3, ground := Go.Ground.data }], guard := none }) rfl (fun K hK => ?_) ?_
  · go_simp
    refine (jnew_any x0 x1 w.heap.size X0.drew HBX.out.size).mono ?_
    rintro e w1 ⟨rfl, hj, hb'⟩
    have hb : Below X0.heap.size X0 w1 := ⟨hb'.os, hb'.tape, hb'.output, hb'.size, hb'.block⟩
    have HJ0 : Hid (Jx 52 w.heap.size w1 X0.heap.size (Jf X0.heap.size (.slice none 0 0) fun _ => False) x0 (lastOf x1) []) := Lib.hid hj
    have HB0 := Lib.hid hb
    have hq1 := HCX.out _ hb
    clear hj hb hb'
    go_wp2_with fail
    refine hK.out _ _ ?_ (fun hH => ?_)
    · exact hq1
    clear hK K
    try simp only [Act.put, List.setIfInBounds_toArray, List.set_cons_zero, List.set_cons_succ]
    refine wpAnyH_ready (rs := [9]) (by kernel_rfl) (by simp) ?_
    refine AllReadyH.cons (o := { dst := some 29, op := Go.Op.call { callee := Go.Callee.value (Go.Operand.func 9), args := #[Go.Operand.tmp 26, Go.Operand.tmp 28], argTypes := #[3, 3] }, type := 26, pos := "law.go:42", after := #[{ on := 6, ground := Go.Ground.data }, { on := 8, ground := Go.Ground.data }, { on := 4, ground := Go.Ground.chain }], guard := none }) rfl (fun K hK => ?_) ?_
    · go_simp
      refine (dnew_any x0 x1 w.heap.size w1 (Nat.le_trans HBX.out.size HB0.out.size)).mono ?_
      rintro e w1' ⟨rfl, hj, hb⟩
      have H1 : Hid (Jp 52 42 w w1' X0.heap.size w1.heap.size _ _ x0 x0 (lastOf x1) [] []) := Lib.hid ⟨Below.next (Below.next HBX.out HB0.out) hb, HJ0.out.next hb, hj, fun k h1 h2 => by
        have := jf0 h1
        have := jf0 h2
        have := (HJ0.out.foot k h1).2
        omega⟩
      have hq2 := HCX.out _ (Below.next HB0.out hb)
      generalize Jf X0.heap.size (.slice none 0 0) (fun _ => False) = F0 at H1
      generalize Jf w1.heap.size (.slice none 0 0) (fun _ => False) = G0 at H1
      clear hj hb HJ0
      go_wp2_with fail
      refine hK.out _ _ ?_ (fun hH => ?_)
      · exact hq2
      clear hK K
      try simp only [Act.put, List.setIfInBounds_toArray, List.set_cons_zero, List.set_cons_succ]
      refine wpAnyH_take (i := 10) (oi := { dst := some 5, op := Go.Op.assign (Go.Operand.tmp 24), type := 24, pos := "law.go:42", after := #[{ on := 4, ground := Go.Ground.data }, { on := 9, ground := Go.Ground.chain }, { on := 0, ground := Go.Ground.phase }, { on := 1, ground := Go.Ground.phase }, { on := 2, ground := Go.Ground.phase }, { on := 3, ground := Go.Ground.phase }, { on := 4, ground := Go.Ground.phase }, { on := 5, ground := Go.Ground.textOnly Go.Departure.lateStores }, { on := 6, ground := Go.Ground.textOnly Go.Departure.lateStores }, { on := 7, ground := Go.Ground.textOnly Go.Departure.lateStores }, { on := 8, ground := Go.Ground.textOnly Go.Departure.lateStores }, { on := 9, ground := Go.Ground.textOnly Go.Departure.lateStoresUnsure }], guard := none }) (v := ?_) rfl (by kernel_rfl) (by kernel_rfl) (by kernel_rfl) (fun _ _ _ h => h) (Or.inl ⟨by rfl, ?_⟩) (by assumption) ?_
      rotate_left
      · intro w _hSw
        try dsimp only at _hSw
        go_simp
        all_goals with_reducible rfl
      try simp only [Act.put, List.setIfInBounds_toArray, List.set_cons_zero, List.set_cons_succ]
      refine wpAnyH_take (i := 11) (oi := { dst := some 6, op := Go.Op.assign (Go.Operand.tmp 29), type := 26, pos := "law.go:42", after := #[{ on := 9, ground := Go.Ground.data }, { on := 10, ground := Go.Ground.chain }, { on := 0, ground := Go.Ground.phase }, { on := 1, ground := Go.Ground.phase }, { on := 2, ground := Go.Ground.phase }, { on := 3, ground := Go.Ground.phase }, { on := 4, ground := Go.Ground.phase }, { on := 5, ground := Go.Ground.phase }, { on := 6, ground := Go.Ground.phase }, { on := 7, ground := Go.Ground.phase }, { on := 8, ground := Go.Ground.phase }, { on := 9, ground := Go.Ground.phase }, { on := 10, ground := Go.Ground.phase }], guard := none }) (v := ?_) rfl (by kernel_rfl) (by kernel_rfl) (by kernel_rfl) (fun _ _ _ h => h) (Or.inl ⟨by rfl, ?_⟩) (by assumption) ?_
      rotate_left
      · intro w _hSw
        try dsimp only at _hSw
        go_simp
        all_goals with_reducible rfl
      try simp only [Act.put, List.setIfInBounds_toArray, List.set_cons_zero, List.set_cons_succ]
      refine wpAnyH_done (by kernel_rfl) ?_ _
      clear HB0 HBX HCX
      generalize lastOf x1 = last at *
      generalize X0.heap.size = b at *
      generalize w1.heap.size = c at *
      by_cases hg : gL ls
      · go_wp2_with fail
        refine (awake_any _).mono ?_
        rintro e w2 ⟨rfl, hb⟩
        have H2 := Lib.hid (H1.out.next hb)
        clear hb H1
        go_wp2_with fail
        refine (great_yes a len cap ls hg _ (isLs_below H.out H2.out.bel)).mono ?_
        rintro e w3 ⟨rfl, hb⟩
        have H3 := Lib.hid (H2.out.next hb)
        clear hb H2
        go_wp2_with fail
        refine (awake_any _).mono ?_
        rintro e w4 ⟨rfl, hb⟩
        have H4 := Lib.hid (H3.out.next hb)
        clear hb H3
        go_wp2
        go_ret
        exact ⟨rfl, H4.out.bel⟩
      obtain ⟨hl30, hgl⟩ := gL_at hg
      have HG := Lib.hid hgl
      have HNG := fun w h => Lib.hid (great_no a len cap ls hg w h)
      have hlen : len ≤ 30 := by omega
      clear hgl hl30 hg
      go_wp2_with fail
      refine (awake_any _).mono ?_
      rintro e w2 ⟨rfl, hb⟩
      have H2 := Lib.hid (H1.out.next hb)
      clear hb H1
      go_wp2_with fail
      refine (HNG _ (isLs_below H.out H2.out.bel)).out.mono ?_
      rintro e w3 ⟨rfl, hb⟩
      have H3 := Lib.hid (H2.out.next hb)
      clear hb H2 HNG
      go_wp2_with fail
      go_loopw [43] (fun v43 wr => ∃ k : Nat, k ≤ len ∧ v43 = .int .i64 k ∧ ∃ F G uss, uss.length ≤ k ∧ Jp 52 42 w wr b c F G x0 x0 last uss uss) (fun v43 _ => len - (intOf v43).toNat)
      case atStart => exact ⟨0, Nat.zero_le _, rfl, F0, G0, [], Nat.le_refl _, H3.out⟩
      case round =>
        obtain ⟨k, hk, rfl, F, G, uss, hul, hp⟩ := hrel
        clear H3
        by_cases hlt : k < len
        · obtain ⟨gb, off, rfl, c0, hru⟩ := lcells_of H.out hp.bel hlt
          obtain ⟨_, hsm⟩ := HG.out k (by omega)
          have HP := Lib.hid hp
          generalize ls.getD k rn0 = r at *
          obtain ⟨ro0, rn0', ra, rl, rc, rus⟩ := r
          simp only at c0 hsm
          have HRU := Lib.hid hru
          have hrl := hru.1.size
          have hlc := hru.2.1
          have hna := hru.2.2
          simp only at hrl hlc hna
          have hr1000 := hsm.1
          clear hru hp
          go_wp2_with (at_builtin; refine wpList_appU0 rfl _ _ rfl rfl ra rl rc rfl rus (HRU.out.below HP.out.bel).1 hlc hna (by omega) ?_)
          intro a3 c3 w3 hr3 hb3
          have hP3 := HP.out.next hb3
          have HA := Lib.hid (jadd_any (uss := uss) (us := rus) (by omega) a3 rl c3 hsm w3 (hr3.isU hrl.symm).1 (fun g off e hF => by
            have := (hr3.addr e).1
            have := (HP.out.j.foot g hF).2
            omega) hP3.j)
          have HP3 := Lib.hid hP3
          clear hr3 hb3 hP3
          go_wp2_with fail
          refine HA.out.mono ?_
          rintro e w4 ⟨r, F', rfl, haw, how, _⟩
          have hP4 := HP3.out.add1 haw
          have hR := haw.r
          have hrr := haw.ru.1
          have hog : 0 < r.len → ∀ g off, r.a = some ⟨g, off, none⟩ → ¬ G g := fun h0 g off e hG => by
            by_cases he : addE x0 last uss rus = 0
            · obtain ⟨g', e', _, hg', _⟩ := how he
              rw [e'] at e
              cases e
              have := (HP3.out.m.foot _ hG).2
              omega
            · have e1 := hR.us'
              rw [if_neg he] at e1
              have e2 := hrr.size
              rw [e1] at e2
              simp at e2
              omega
          obtain ⟨ro, rn, ra', rl', rc', U⟩ := r
          simp only at hrr hog
          have hul2 : U.length ≤ 1000 := by
            have e1 := hR.us'
            simp only at e1
            rw [e1]
            split
            · exact hr1000
            · simp
          simp only [rv]
          have HRL := Lib.hid hrr.size
          have HOG := Lib.hid hog
          have HR7 := Lib.hid (Rb.new w4 ro rn ra' rl' rc')
          have hbA := Joins.below_alloc1 w4 (.cells #[.int .i64 ro, .int .i64 rn, .slice ra' rl' rc'] 32)
          have HRR4 := Lib.hid (isUs_below hrr hbA)
          have HNG7 : Hid (¬ G w4.heap.size) := Lib.hid fun hG => by have := (hP4.m.foot _ hG).2; omega
          have HRA := Lib.hid hR
          have HP4 := Lib.hid (hP4.next hbA)
          have HM := Lib.hid (dadd_any (uss := uss) (us := rus) (by omega) ra rl rc hsm _ (HRU.out.below HP4.out.bel).1 hlc hna HP4.out.m)
          clear haw hP4 HA HP3 how hrr hog hR hbA
          go_wp2_with fail
          refine HM.out.mono ?_
          rintro e w6 ⟨q, G', rfl, haw⟩
          have hP6 := HP4.out.add2 haw
          have eo := HRA.out.o'.trans haw.r.o'.symm
          have en := HRA.out.n'.trans haw.r.n'.symm
          have eu := HRA.out.us'.trans haw.r.us'.symm
          have hqq := haw.ru.1
          obtain ⟨qo, qn, qa, ql, qc, qus⟩ := q
          simp only at eo en eu hqq
          subst eo
          subst en
          subst eu
          have hql : rl' = ql := HRL.out.symm.trans hqq.size
          subst hql
          simp only [rv]
          have h7' := HR7.out.left haw.lv HNG7.out
          have hrr6 := isUs_left0 HRR4.out haw.lv HOG.out
          generalize w4.heap.size = p7 at *
          have hbA := Joins.below_alloc1 w6 (.cells #[.int .i64 ro, .int .i64 rn, .slice qa rl' qc] 32)
          have HR7 := Lib.hid (h7'.next hbA)
          have HR9 := Lib.hid (Rb.new w6 ro rn qa rl' qc)
          have HRR6 := Lib.hid (isUs_below hrr6 hbA)
          have HQQ6 := Lib.hid (isUs_below hqq hbA)
          have hP6' := hP6.next hbA
          generalize hv : addL x0 last uss rus = vss at *
          have hvl : vss.length ≤ k + 1 := by rw [← hv]; exact Nat.le_trans (addL_len x0 last uss rus) (by omega)
          obtain ⟨am, cm, rm, hc2, _, _, _, hcW⟩ := hP6'.m.open'
          obtain ⟨L, hL⟩ : ∃ L, vss.length = L := ⟨_, rfl⟩
          rw [hL] at hc2 hcW
          have HLEN := Lib.hid (fun W h => jlen_any (uss := vss) (F := F') (B := w.heap.size) (b := b) (o := x0) (last := last) W h)
          rw [hL] at HLEN
          have HP6 := Lib.hid hP6'
          have HCW : Hid (∀ W, Below (w6.alloc (.cells #[.int .i64 ro, .int .i64 rn, .slice qa rl' qc] 32)).heap.size (w6.alloc (.cells #[.int .i64 ro, .int .i64 rn, .slice qa rl' qc] 32)) W → (W.cell? ⟨p7, 0, none⟩ = some (.int .i64 ro) ∧ W.cell? ⟨p7, 1, none⟩ = some (.int .i64 rn) ∧ W.cell? ⟨p7, 2, none⟩ = some (.slice ra' rl' rc')) ∧ (W.cell? ⟨w6.heap.size, 0, none⟩ = some (.int .i64 ro) ∧ W.cell? ⟨w6.heap.size, 1, none⟩ = some (.int .i64 rn) ∧ W.cell? ⟨w6.heap.size, 2, none⟩ = some (.slice qa rl' qc)) ∧ W.cell? ⟨c, 2, none⟩ = some (.slice am L cm)) := Lib.hid fun W hW => ⟨⟨(HR7.out.next hW).c0, (HR7.out.next hW).c1, (HR7.out.next hW).c2⟩, ⟨(HR9.out.next hW).c0, (HR9.out.next hW).c1, (HR9.out.next hW).c2⟩, hcW W hW⟩
          have hS0 := HCW.out (w6.alloc (.cells #[.int .i64 ro, .int .i64 rn, .slice qa rl' qc] 32)).drew (Below.refl _ _).drew
          have HS := fun W h1 h2 => Lib.hid (ds_yes ro rn ra' qa rl' rc' qc U (by have := HRL.out; omega) W h1 h2)
          have HVL := Lib.hid hvl
          clear haw hP6 hP6' HM HP4 h7' hrr6 hqq hbA hcW HRR4 HR7 HR9 hc2 hv hvl hL
          go_wp2_with fail
          generalize w6.heap.size = p9 at *
          refine wp_region_held_drew (S := fun w' => (w'.cell? ⟨p7, 0, none⟩ = some (.int .i64 ro) ∧ w'.cell? ⟨p7, 1, none⟩ = some (.int .i64 rn) ∧ w'.cell? ⟨p7, 2, none⟩ = some (.slice ra' rl' rc')) ∧ (w'.cell? ⟨p9, 0, none⟩ = some (.int .i64 ro) ∧ w'.cell? ⟨p9, 1, none⟩ = some (.int .i64 rn) ∧ w'.cell? ⟨p9, 2, none⟩ = some (.slice qa rl' qc)) ∧ w'.cell? ⟨c, 2, none⟩ = some (.slice am L cm)) (by kernel_rfl) ?_ (fun hH => ?_)
          · exact hS0
          refine wpAnyH_take (i := 0) (oi := { dst := some 61, op := Go.Op.move (Go.Operand.tmp 10), type := 33, pos := "law.go:49", after := #[], guard := none }) (v := ?_) rfl (by kernel_rfl) (by kernel_rfl) (by kernel_rfl) (fun _ _ _ h => h) (Or.inl ⟨by rfl, ?_⟩) (by assumption) ?_
          rotate_left
          · intro w hSw
            try dsimp only at hSw
            obtain ⟨⟨q0, q1, q2⟩, ⟨q3, q4, q5⟩, q6⟩ := hSw
            go_simp
            all_goals with_reducible rfl
          try simp only [Act.put, List.setIfInBounds_toArray, List.set_cons_zero, List.set_cons_succ]
          refine wpAnyH_take (i := 1) (oi := { dst := some 62, op := Go.Op.move (Go.Operand.tmp 12), type := 3, pos := "law.go:49", after := #[], guard := none }) (v := ?_) rfl (by kernel_rfl) (by kernel_rfl) (by kernel_rfl) (fun _ _ _ h => h) (Or.inl ⟨by rfl, ?_⟩) (by assumption) ?_
          rotate_left
          · intro w hSw
            try dsimp only at hSw
            obtain ⟨⟨q0, q1, q2⟩, ⟨q3, q4, q5⟩, q6⟩ := hSw
            go_simp
            all_goals with_reducible rfl
          try simp only [Act.put, List.setIfInBounds_toArray, List.set_cons_zero, List.set_cons_succ]
          refine wpAnyH_take (i := 2) (oi := { dst := some 63, op := Go.Op.binOp Go.BinOp.neq 3 (Go.Operand.tmp 61) (Go.Operand.tmp 62) 3, type := 4, pos := "law.go:49", after := #[{ on := 0, ground := Go.Ground.data }, { on := 1, ground := Go.Ground.data }], guard := none }) (v := ?_) rfl (by kernel_rfl) (by kernel_rfl) (by kernel_rfl) (fun _ _ _ h => h) (Or.inl ⟨by rfl, ?_⟩) (by assumption) ?_
          rotate_left
          · intro w hSw
            try dsimp only at hSw
            obtain ⟨⟨q0, q1, q2⟩, ⟨q3, q4, q5⟩, q6⟩ := hSw
            go_simp
            all_goals with_reducible rfl
          try simp only [Act.put, List.setIfInBounds_toArray, List.set_cons_zero, List.set_cons_succ]
          refine wpAnyH_take (i := 3) (oi := { dst := some 64, op := Go.Op.move (Go.Operand.tmp 63), type := 4, pos := "law.go:49", after := #[{ on := 2, ground := Go.Ground.data }], guard := none }) (v := ?_) rfl (by kernel_rfl) (by kernel_rfl) (by kernel_rfl) (fun _ _ _ h => h) (Or.inl ⟨by rfl, ?_⟩) (by assumption) ?_
          rotate_left
          · intro w hSw
            try dsimp only at hSw
            obtain ⟨⟨q0, q1, q2⟩, ⟨q3, q4, q5⟩, q6⟩ := hSw
            go_simp
            all_goals with_reducible rfl
          try simp only [Act.put, List.setIfInBounds_toArray, List.set_cons_zero, List.set_cons_succ]
          refine wpAnyH_take (i := 4) (oi := { dst := some 65, op := Go.Op.load 32 (Go.Operand.tmp 9), type := 32, pos := "law.go:49", after := #[{ on := 3, ground := Go.Ground.guard }], guard := some (3, false) }) (v := ?_) rfl (by kernel_rfl) (by kernel_rfl) (by kernel_rfl) (fun _ _ _ h => h) (Or.inl ⟨by rfl, ?_⟩) (by assumption) ?_
          rotate_left
          · intro w hSw
            try dsimp only at hSw
            obtain ⟨⟨q0, q1, q2⟩, ⟨q3, q4, q5⟩, q6⟩ := hSw
            go_simp
            all_goals with_reducible rfl
          try simp only [Act.put, List.setIfInBounds_toArray, List.set_cons_zero, List.set_cons_succ]
          refine wpAnyH_take (i := 5) (oi := { dst := some 66, op := Go.Op.load 32 (Go.Operand.tmp 11), type := 32, pos := "law.go:49", after := #[{ on := 3, ground := Go.Ground.guard }], guard := some (3, false) }) (v := ?_) rfl (by kernel_rfl) (by kernel_rfl) (by kernel_rfl) (fun _ _ _ h => h) (Or.inl ⟨by rfl, ?_⟩) (by assumption) ?_
          rotate_left
          · intro w hSw
            try dsimp only at hSw
            obtain ⟨⟨q0, q1, q2⟩, ⟨q3, q4, q5⟩, q6⟩ := hSw
            go_simp
            all_goals with_reducible rfl
          try simp only [Act.put, List.setIfInBounds_toArray, List.set_cons_zero, List.set_cons_succ]
          refine wpAnyH_ready (rs := [6]) (by kernel_rfl) (by simp) ?_
          refine AllReadyH.cons (o := { dst := some 67, op := Go.Op.call { callee := Go.Callee.value (Go.Operand.func 14), args := #[Go.Operand.tmp 65, Go.Operand.tmp 66], argTypes := #[32, 32] }, type := 4, pos := "law.go:49", after := #[{ on := 4, ground := Go.Ground.data }, { on := 5, ground := Go.Ground.data }, { on := 3, ground := Go.Ground.chain }, { on := 3, ground := Go.Ground.guard }], guard := some (3, false) }) rfl (fun K hK => ?_) ?_
          · go_simp
            refine (HS (w6.alloc (.cells #[.int .i64 ro, .int .i64 rn, .slice qa rl' qc] 32)).drew (isUs_same HRR6.out fun _ _ _ => rfl) (isUs_same HQQ6.out fun _ _ _ => rfl)).out.mono ?_
            rintro e w7 ⟨rfl, hb'⟩
            have hb : Below (w6.alloc (.cells #[.int .i64 ro, .int .i64 rn, .slice qa rl' qc] 32)).heap.size (w6.alloc (.cells #[.int .i64 ro, .int .i64 rn, .slice qa rl' qc] 32)) w7 := ⟨hb'.os, hb'.tape, hb'.output, hb'.size, hb'.block⟩
            have HP7 := Lib.hid (HP6.out.next hb)
            have k7 := HCW.out _ hb
            clear hb hb'
            go_wp2_with fail
            refine hK.out _ _ ?_ (fun hH => ?_)
            · exact k7
            clear hK K
            try simp only [Act.put, List.setIfInBounds_toArray, List.set_cons_zero, List.set_cons_succ]
            refine wpAnyH_take (i := 7) (oi := { dst := some 68, op := Go.Op.unOp Go.UnOp.not 4 (Go.Operand.tmp 67), type := 4, pos := "law.go:49", after := #[{ on := 6, ground := Go.Ground.data }, { on := 3, ground := Go.Ground.guard }], guard := some (3, false) }) (v := ?_) rfl (by kernel_rfl) (by kernel_rfl) (by kernel_rfl) (fun _ _ _ h => h) (Or.inl ⟨by rfl, ?_⟩) (by assumption) ?_
            rotate_left
            · intro w hSw
              try dsimp only at hSw
              obtain ⟨⟨q0, q1, q2⟩, ⟨q3, q4, q5⟩, q6⟩ := hSw
              go_simp
              all_goals with_reducible rfl
            try simp only [Act.put, List.setIfInBounds_toArray, List.set_cons_zero, List.set_cons_succ]
            refine wpAnyH_take (i := 8) (oi := { dst := some 69, op := Go.Op.pick (Go.Operand.tmp 64) (Go.Operand.const (Go.Value.bool true)) (Go.Operand.tmp 68), type := 4, pos := "law.go:49", after := #[{ on := 3, ground := Go.Ground.data }, { on := 7, ground := Go.Ground.data }], guard := none }) (v := ?_) rfl (by kernel_rfl) (by kernel_rfl) (by kernel_rfl) (fun _ _ _ h => h) (Or.inl ⟨by rfl, ?_⟩) (by assumption) ?_
            rotate_left
            · intro w hSw
              try dsimp only at hSw
              obtain ⟨⟨q0, q1, q2⟩, ⟨q3, q4, q5⟩, q6⟩ := hSw
              go_simp
              all_goals with_reducible rfl
            try simp only [Act.put, List.setIfInBounds_toArray, List.set_cons_zero, List.set_cons_succ]
            refine wpAnyH_take (i := 9) (oi := { dst := some 70, op := Go.Op.move (Go.Operand.tmp 69), type := 4, pos := "law.go:49", after := #[{ on := 8, ground := Go.Ground.data }, { on := 6, ground := Go.Ground.chain }], guard := none }) (v := ?_) rfl (by kernel_rfl) (by kernel_rfl) (by kernel_rfl) (fun _ _ _ h => h) (Or.inl ⟨by rfl, ?_⟩) (by assumption) ?_
            rotate_left
            · intro w hSw
              try dsimp only at hSw
              obtain ⟨⟨q0, q1, q2⟩, ⟨q3, q4, q5⟩, q6⟩ := hSw
              go_simp
              all_goals with_reducible rfl
            try simp only [Act.put, List.setIfInBounds_toArray, List.set_cons_zero, List.set_cons_succ]
            refine wpAnyH_take (i := 10) (oi := { dst := some 71, op := Go.Op.move (Go.Operand.tmp 5), type := 24, pos := "law.go:49", after := #[{ on := 9, ground := Go.Ground.guard }], guard := some (9, false) }) (v := ?_) rfl (by kernel_rfl) (by kernel_rfl) (by kernel_rfl) (fun _ _ _ h => h) (Or.inl ⟨by rfl, ?_⟩) (by assumption) ?_
            rotate_left
            · intro w hSw
              try dsimp only at hSw
              obtain ⟨⟨q0, q1, q2⟩, ⟨q3, q4, q5⟩, q6⟩ := hSw
              go_simp
              all_goals with_reducible rfl
            try simp only [Act.put, List.setIfInBounds_toArray, List.set_cons_zero, List.set_cons_succ]
            refine wpAnyH_take (i := 12) (oi := { dst := some 73, op := Go.Op.move (Go.Operand.tmp 6), type := 26, pos := "law.go:49", after := #[{ on := 9, ground := Go.Ground.guard }], guard := some (9, false) }) (v := ?_) rfl (by kernel_rfl) (by kernel_rfl) (by kernel_rfl) (fun _ _ _ h => h) (Or.inl ⟨by rfl, ?_⟩) (by assumption) ?_
            rotate_left
            · intro w hSw
              try dsimp only at hSw
              obtain ⟨⟨q0, q1, q2⟩, ⟨q3, q4, q5⟩, q6⟩ := hSw
              go_simp
              all_goals with_reducible rfl
            try simp only [Act.put, List.setIfInBounds_toArray, List.set_cons_zero, List.set_cons_succ]
            refine wpAnyH_take (i := 13) (oi := { dst := some 74, op := Go.Op.nilCheck (Go.Operand.tmp 73), type := 0, pos := "law.go:49", after := #[{ on := 12, ground := Go.Ground.data }, { on := 9, ground := Go.Ground.guard }], guard := some (9, false) }) (v := ?_) rfl (by kernel_rfl) (by kernel_rfl) (by kernel_rfl) (fun _ _ _ h => h) (Or.inl ⟨by rfl, ?_⟩) (by assumption) ?_
            rotate_left
            · intro w hSw
              try dsimp only at hSw
              obtain ⟨⟨q0, q1, q2⟩, ⟨q3, q4, q5⟩, q6⟩ := hSw
              go_simp
              all_goals with_reducible rfl
            try simp only [Act.put, List.setIfInBounds_toArray, List.set_cons_zero, List.set_cons_succ]
            refine wpAnyH_take (i := 14) (oi := { dst := some 75, op := Go.Op.fieldAddr 42 (Go.Operand.tmp 74) 2, type := 0, pos := "law.go:49", after := #[{ on := 13, ground := Go.Ground.data }, { on := 9, ground := Go.Ground.guard }], guard := some (9, false) }) (v := ?_) rfl (by kernel_rfl) (by kernel_rfl) (by kernel_rfl) (fun _ _ _ h => h) (Or.inl ⟨by rfl, ?_⟩) (by assumption) ?_
            rotate_left
            · intro w hSw
              try dsimp only at hSw
              obtain ⟨⟨q0, q1, q2⟩, ⟨q3, q4, q5⟩, q6⟩ := hSw
              go_simp
              all_goals with_reducible rfl
            try simp only [Act.put, List.setIfInBounds_toArray, List.set_cons_zero, List.set_cons_succ]
            refine wpAnyH_take (i := 15) (oi := { dst := some 76, op := Go.Op.load 40 (Go.Operand.tmp 75), type := 40, pos := "law.go:49", after := #[{ on := 14, ground := Go.Ground.data }, { on := 9, ground := Go.Ground.guard }], guard := some (9, false) }) (v := ?_) rfl (by kernel_rfl) (by kernel_rfl) (by kernel_rfl) (fun _ _ _ h => h) (Or.inl ⟨by rfl, ?_⟩) (by assumption) ?_
            rotate_left
            · intro w hSw
              try dsimp only at hSw
              obtain ⟨⟨q0, q1, q2⟩, ⟨q3, q4, q5⟩, q6⟩ := hSw
              go_simp
              all_goals with_reducible rfl
            try simp only [Act.put, List.setIfInBounds_toArray, List.set_cons_zero, List.set_cons_succ]
            refine wpAnyH_take (i := 16) (oi := { dst := some 77, op := Go.Op.call { callee := Go.Callee.builtin Go.Builtin.len, args := #[Go.Operand.tmp 76], argTypes := #[40] }, type := 3, pos := "law.go:49", after := #[{ on := 15, ground := Go.Ground.data }, { on := 9, ground := Go.Ground.guard }], guard := some (9, false) }) (v := ?_) rfl (by kernel_rfl) (by kernel_rfl) (by kernel_rfl) (fun _ _ _ h => h) (Or.inl ⟨by rfl, ?_⟩) (by assumption) ?_
            rotate_left
            · intro w hSw
              try dsimp only at hSw
              obtain ⟨⟨q0, q1, q2⟩, ⟨q3, q4, q5⟩, q6⟩ := hSw
              go_simp
              all_goals with_reducible rfl
            try simp only [Act.put, List.setIfInBounds_toArray, List.set_cons_zero, List.set_cons_succ]
            refine wpAnyH_ready (rs := [11]) (by kernel_rfl) (by simp) ?_
            refine AllReadyH.cons (o := { dst := some 72, op := Go.Op.call { callee := Go.Callee.value (Go.Operand.func 15), args := #[Go.Operand.tmp 71], argTypes := #[24] }, type := 3, pos := "law.go:49", after := #[{ on := 10, ground := Go.Ground.data }, { on := 9, ground := Go.Ground.chain }, { on := 9, ground := Go.Ground.guard }], guard := some (9, false) }) rfl (fun K hK => ?_) ?_
            · go_simp
              refine (HLEN.out w7 HP7.out.j).mono ?_
              rintro e w8 ⟨rfl, rfl⟩
              go_wp2_with fail
              refine hK.out _ _ ?_ (fun hH => ?_)
              · exact k7
              clear hK K
              try simp only [Act.put, List.setIfInBounds_toArray, List.set_cons_zero, List.set_cons_succ]
              refine wpAnyH_take (i := 17) (oi := { dst := some 78, op := Go.Op.binOp Go.BinOp.neq 3 (Go.Operand.tmp 72) (Go.Operand.tmp 77) 3, type := 4, pos := "law.go:49", after := #[{ on := 11, ground := Go.Ground.data }, { on := 16, ground := Go.Ground.data }, { on := 9, ground := Go.Ground.guard }], guard := some (9, false) }) (v := ?_) rfl (by kernel_rfl) (by kernel_rfl) (by kernel_rfl) (fun _ _ _ h => h) (Or.inl ⟨by rfl, ?_⟩) (by assumption) ?_
              rotate_left
              · intro w hSw
                try dsimp only at hSw
                obtain ⟨⟨q0, q1, q2⟩, ⟨q3, q4, q5⟩, q6⟩ := hSw
                go_simp
                all_goals with_reducible rfl
              try simp only [Act.put, List.setIfInBounds_toArray, List.set_cons_zero, List.set_cons_succ]
              refine wpAnyH_take (i := 18) (oi := { dst := some 79, op := Go.Op.pick (Go.Operand.tmp 70) (Go.Operand.const (Go.Value.bool true)) (Go.Operand.tmp 78), type := 4, pos := "law.go:49", after := #[{ on := 9, ground := Go.Ground.data }, { on := 17, ground := Go.Ground.data }], guard := none }) (v := ?_) rfl (by kernel_rfl) (by kernel_rfl) (by kernel_rfl) (fun _ _ _ h => h) (Or.inl ⟨by rfl, ?_⟩) (by assumption) ?_
              rotate_left
              · intro w hSw
                try dsimp only at hSw
                obtain ⟨⟨q0, q1, q2⟩, ⟨q3, q4, q5⟩, q6⟩ := hSw
                go_simp
                all_goals with_reducible rfl
              try simp only [Act.put, List.setIfInBounds_toArray, List.set_cons_zero, List.set_cons_succ]
              refine wpAnyH_done (by kernel_rfl) ?_ _
              clear k7 hS0
              go_wp2
              go_roundw
              case rel => exact ⟨k + 1, by omega, by go_num, F', G', vss, HVL.out, HP7.out⟩
              case measure => simp [intOf]; omega
            exact AllReadyH.nil
          exact AllReadyH.nil
        · obtain rfl : k = len := by omega
          obtain ⟨W0, rfl⟩ : ∃ W, W = wr := ⟨_, rfl⟩
          obtain ⟨am, cm, rm, hc2, hrm, hom, hsmm, hcW⟩ := hp.m.open'
          obtain ⟨L, hL⟩ : ∃ L, uss.length = L := ⟨_, rfl⟩
          rw [hL] at hc2 hrm hcW
          have hL30 : L ≤ 30 := by omega
          have HAT := Lib.hid (fun i hi W h => jat_in (uss := uss) (F := F) (B := w.heap.size) (b := b) (o := x0) (last := last) i hi W h)
          have HOUT := Lib.hid (fun i hi W h => jat_out (uss := uss) (F := F) (B := w.heap.size) (b := b) (o := x0) (last := last) i hi W h)
          rw [hL] at HAT HOUT
          have HRM := Lib.hid hrm
          have HCW := Lib.hid hcW
          have HOM := Lib.hid hom
          have HSM := Lib.hid hsmm
          have HL := Lib.hid hL
          have HP := Lib.hid hp
          clear hp hrm hcW hom hsmm hL hul
          go_wp2_with fail
          go_loopw [86] (fun v86 wz => ∃ i : Nat, i ≤ L ∧ v86 = .int .i64 i ∧ Jp 52 42 w wz b c F G x0 x0 last uss uss ∧ Below W0.heap.size W0 wz) (fun v86 _ => L - (intOf v86).toNat)
          case atStart => exact ⟨0, Nat.zero_le _, rfl, HP.out, Below.refl _ _⟩
          case round =>
            obtain ⟨i, hi, rfl, hp, hbz⟩ := hrel
            clear HP hc2
            by_cases hil : i < L
            · have HC := Lib.hid (HAT.out i hil)
              have HP := Lib.hid hp
              have HBZ := Lib.hid hbz
              clear hp hbz HAT HOUT
              go_wp2_with fail
              refine (HC.out _ HP.out.j).mono ?_
              rintro e w3 ⟨r, rfl, hru, e1, e2, e3, hb⟩
              obtain ⟨gm, offm, rfl, m0, m1, m2, hmu⟩ := rcells_of HRM.out (Below.next HBZ.out hb) hil
              obtain ⟨f1, f2, f3⟩ := HOM.out.at' i (by rw [HL.out]; exact hil)
              rw [Nat.zero_add] at f2
              rw [← e1] at f1
              rw [← e2] at f2
              rw [← e3] at f3
              have hul : (uss.getD i []).length ≤ 1000 := (HSM.out _ (by
                have := HL.out
                rw [List.getD_eq_getElem?_getD, List.getElem?_eq_getElem (by omega)]
                exact List.getElem_mem (by omega))).1
              rw [← e3] at hul
              have hrl := hru.1.size
              have hml := hmu.1.size
              generalize rm.getD i rn0 = q at *
              obtain ⟨ro, rn, ra', rl', rc', U⟩ := r
              obtain ⟨qo, qn, qa, ql, qc, qus⟩ := q
              simp only at f1 f2 f3 hul hrl hml m0 m1 m2
              have f1 := f1.symm
              have f2 := f2.symm
              have f3 := f3.symm
              subst f1
              subst f2
              subst f3
              have hql : rl' = ql := hrl.symm.trans hml
              subst hql
              simp only [rv]
              have hbA := Joins.below_alloc1 w3 (.cells #[.int .i64 ro, .int .i64 rn, .slice ra' rl' rc'] 32)
              have hb3 := Below.next HBZ.out hb
              have hb4 := Below.next hb3 hbA
              obtain ⟨gm', offm', e', hfm⟩ := HRM.out.lies (by omega)
              cases e'
              have hgl := hfm.lt (by have := HRM.out.size; omega)
              have HRB := Lib.hid (Rb.new w3 ro rn ra' rl' rc')
              have HI1 := Lib.hid (isUs_below hru.1 hbA)
              have HI2 := Lib.hid (isUs_below hmu.1 hb4)
              have HP3 := Lib.hid ((HP.out.next hb).next hbA)
              have HB4 := Lib.hid hb4
              have hgl3 : gm < w3.heap.size := Nat.lt_of_lt_of_le hgl hb3.size
              have hgl4 : gm < (w3.alloc (.cells #[.int .i64 ro, .int .i64 rn, .slice ra' rl' rc'] 32)).heap.size := Nat.lt_of_lt_of_le hgl3 hbA.size
              have HK : Hid (∀ W, Below (w3.alloc (.cells #[.int .i64 ro, .int .i64 rn, .slice ra' rl' rc'] 32)).heap.size (w3.alloc (.cells #[.int .i64 ro, .int .i64 rn, .slice ra' rl' rc'] 32)) W → (W.cell? ⟨w3.heap.size, 0, none⟩ = some (.int .i64 ro) ∧ W.cell? ⟨w3.heap.size, 1, none⟩ = some (.int .i64 rn) ∧ W.cell? ⟨w3.heap.size, 2, none⟩ = some (.slice ra' rl' rc')) ∧ (W.cell? ⟨gm, offm + i * 3, none⟩ = some (.int .i64 ro) ∧ W.cell? ⟨gm, offm + i * 3 + 1, none⟩ = some (.int .i64 rn) ∧ W.cell? ⟨gm, offm + i * 3 + 2, none⟩ = some (.slice qa rl' qc)) ∧ W.cell? ⟨c, 2, none⟩ = some (.slice (some ⟨gm, offm, none⟩) L cm)) := Lib.hid fun W hW => ⟨⟨(HRB.out.next hW).c0, (HRB.out.next hW).c1, (HRB.out.next hW).c2⟩, ⟨(hW.cell hgl4).trans ((hbA.cell hgl3).trans m0), (hW.cell hgl4).trans ((hbA.cell hgl3).trans m1), (hW.cell hgl4).trans ((hbA.cell hgl3).trans m2)⟩, HCW.out W (Below.next HB4.out hW)⟩
              have hS0 := HK.out (w3.alloc (.cells #[.int .i64 ro, .int .i64 rn, .slice ra' rl' rc'] 32)).drew (Below.refl _ _).drew
              have HS := fun W h1 h2 => Lib.hid (ds_yes ro rn ra' qa rl' rc' qc U (by omega) W h1 h2)
              clear hb hru hmu hbA hb3 hb4 hfm hgl hgl3 hgl4 m0 m1 m2 e1 e2 e3 HC HP HBZ HRB
              go_wp2_with fail
              generalize w3.heap.size = p14 at *
              refine wp_region_held_drew (S := fun w' => (w'.cell? ⟨p14, 0, none⟩ = some (.int .i64 ro) ∧ w'.cell? ⟨p14, 1, none⟩ = some (.int .i64 rn) ∧ w'.cell? ⟨p14, 2, none⟩ = some (.slice ra' rl' rc')) ∧ (w'.cell? ⟨gm, offm + i * 3, none⟩ = some (.int .i64 ro) ∧ w'.cell? ⟨gm, offm + i * 3 + 1, none⟩ = some (.int .i64 rn) ∧ w'.cell? ⟨gm, offm + i * 3 + 2, none⟩ = some (.slice qa rl' qc)) ∧ w'.cell? ⟨c, 2, none⟩ = some (.slice (some ⟨gm, offm, none⟩) L cm)) (by kernel_rfl) ?_ (fun hH => ?_)
              · exact hS0
              refine wpAnyH_take (i := 0) (oi := { dst := some 95, op := Go.Op.move (Go.Operand.tmp 15), type := 4, pos := "law.go:54", after := #[], guard := none }) (v := ?_) rfl (by kernel_rfl) (by kernel_rfl) (by kernel_rfl) (fun _ _ _ h => h) (Or.inl ⟨by rfl, ?_⟩) (by assumption) ?_
              rotate_left
              · intro w hSw
                try dsimp only at hSw
                obtain ⟨⟨q0, q1, q2⟩, ⟨q3, q4, q5⟩, q6⟩ := hSw
                go_simp
                all_goals with_reducible rfl
              try simp only [Act.put, List.setIfInBounds_toArray, List.set_cons_zero, List.set_cons_succ]
              refine wpAnyH_take (i := 1) (oi := { dst := some 96, op := Go.Op.unOp Go.UnOp.not 4 (Go.Operand.tmp 95), type := 4, pos := "law.go:54", after := #[{ on := 0, ground := Go.Ground.data }], guard := none }) (v := ?_) rfl (by kernel_rfl) (by kernel_rfl) (by kernel_rfl) (fun _ _ _ h => h) (Or.inl ⟨by rfl, ?_⟩) (by assumption) ?_
              rotate_left
              · intro w hSw
                try dsimp only at hSw
                obtain ⟨⟨q0, q1, q2⟩, ⟨q3, q4, q5⟩, q6⟩ := hSw
                go_simp
                all_goals with_reducible rfl
              try simp only [Act.put, List.setIfInBounds_toArray, List.set_cons_zero, List.set_cons_succ]
              refine wpAnyH_take (i := 2) (oi := { dst := some 97, op := Go.Op.move (Go.Operand.tmp 96), type := 4, pos := "law.go:54", after := #[{ on := 1, ground := Go.Ground.data }], guard := none }) (v := ?_) rfl (by kernel_rfl) (by kernel_rfl) (by kernel_rfl) (fun _ _ _ h => h) (Or.inl ⟨by rfl, ?_⟩) (by assumption) ?_
              rotate_left
              · intro w hSw
                try dsimp only at hSw
                obtain ⟨⟨q0, q1, q2⟩, ⟨q3, q4, q5⟩, q6⟩ := hSw
                go_simp
                all_goals with_reducible rfl
              try simp only [Act.put, List.setIfInBounds_toArray, List.set_cons_zero, List.set_cons_succ]
              refine wpAnyH_take (i := 3) (oi := { dst := some 98, op := Go.Op.load 32 (Go.Operand.tmp 14), type := 32, pos := "law.go:54", after := #[{ on := 2, ground := Go.Ground.guard }], guard := some (2, false) }) (v := ?_) rfl (by kernel_rfl) (by kernel_rfl) (by kernel_rfl) (fun _ _ _ h => h) (Or.inl ⟨by rfl, ?_⟩) (by assumption) ?_
              rotate_left
              · intro w hSw
                try dsimp only at hSw
                obtain ⟨⟨q0, q1, q2⟩, ⟨q3, q4, q5⟩, q6⟩ := hSw
                go_simp
                all_goals with_reducible rfl
              try simp only [Act.put, List.setIfInBounds_toArray, List.set_cons_zero, List.set_cons_succ]
              refine wpAnyH_take (i := 4) (oi := { dst := some 99, op := Go.Op.move (Go.Operand.tmp 6), type := 26, pos := "law.go:54", after := #[{ on := 2, ground := Go.Ground.guard }], guard := some (2, false) }) (v := ?_) rfl (by kernel_rfl) (by kernel_rfl) (by kernel_rfl) (fun _ _ _ h => h) (Or.inl ⟨by rfl, ?_⟩) (by assumption) ?_
              rotate_left
              · intro w hSw
                try dsimp only at hSw
                obtain ⟨⟨q0, q1, q2⟩, ⟨q3, q4, q5⟩, q6⟩ := hSw
                go_simp
                all_goals with_reducible rfl
              try simp only [Act.put, List.setIfInBounds_toArray, List.set_cons_zero, List.set_cons_succ]
              refine wpAnyH_take (i := 5) (oi := { dst := some 100, op := Go.Op.nilCheck (Go.Operand.tmp 99), type := 0, pos := "law.go:54", after := #[{ on := 4, ground := Go.Ground.data }, { on := 2, ground := Go.Ground.guard }], guard := some (2, false) }) (v := ?_) rfl (by kernel_rfl) (by kernel_rfl) (by kernel_rfl) (fun _ _ _ h => h) (Or.inl ⟨by rfl, ?_⟩) (by assumption) ?_
              rotate_left
              · intro w hSw
                try dsimp only at hSw
                obtain ⟨⟨q0, q1, q2⟩, ⟨q3, q4, q5⟩, q6⟩ := hSw
                go_simp
                all_goals with_reducible rfl
              try simp only [Act.put, List.setIfInBounds_toArray, List.set_cons_zero, List.set_cons_succ]
              refine wpAnyH_take (i := 6) (oi := { dst := some 101, op := Go.Op.fieldAddr 42 (Go.Operand.tmp 100) 2, type := 0, pos := "law.go:54", after := #[{ on := 5, ground := Go.Ground.data }, { on := 2, ground := Go.Ground.guard }], guard := some (2, false) }) (v := ?_) rfl (by kernel_rfl) (by kernel_rfl) (by kernel_rfl) (fun _ _ _ h => h) (Or.inl ⟨by rfl, ?_⟩) (by assumption) ?_
              rotate_left
              · intro w hSw
                try dsimp only at hSw
                obtain ⟨⟨q0, q1, q2⟩, ⟨q3, q4, q5⟩, q6⟩ := hSw
                go_simp
                all_goals with_reducible rfl
              try simp only [Act.put, List.setIfInBounds_toArray, List.set_cons_zero, List.set_cons_succ]
              refine wpAnyH_take (i := 7) (oi := { dst := some 102, op := Go.Op.load 40 (Go.Operand.tmp 101), type := 40, pos := "law.go:54", after := #[{ on := 6, ground := Go.Ground.data }, { on := 2, ground := Go.Ground.guard }], guard := some (2, false) }) (v := ?_) rfl (by kernel_rfl) (by kernel_rfl) (by kernel_rfl) (fun _ _ _ h => h) (Or.inl ⟨by rfl, ?_⟩) (by assumption) ?_
              rotate_left
              · intro w hSw
                try dsimp only at hSw
                obtain ⟨⟨q0, q1, q2⟩, ⟨q3, q4, q5⟩, q6⟩ := hSw
                go_simp
                all_goals with_reducible rfl
              try simp only [Act.put, List.setIfInBounds_toArray, List.set_cons_zero, List.set_cons_succ]
              refine wpAnyH_take (i := 8) (oi := { dst := some 103, op := Go.Op.move (Go.Operand.tmp 13), type := 3, pos := "law.go:54", after := #[{ on := 2, ground := Go.Ground.guard }], guard := some (2, false) }) (v := ?_) rfl (by kernel_rfl) (by kernel_rfl) (by kernel_rfl) (fun _ _ _ h => h) (Or.inl ⟨by rfl, ?_⟩) (by assumption) ?_
              rotate_left
              · intro w hSw
                try dsimp only at hSw
                obtain ⟨⟨q0, q1, q2⟩, ⟨q3, q4, q5⟩, q6⟩ := hSw
                go_simp
                all_goals with_reducible rfl
              try simp only [Act.put, List.setIfInBounds_toArray, List.set_cons_zero, List.set_cons_succ]
              refine wpAnyH_take (i := 9) (oi := { dst := some 104, op := Go.Op.indexAddr 40 (Go.Operand.tmp 102) (Go.Operand.tmp 103), type := 0, pos := "law.go:54", after := #[{ on := 7, ground := Go.Ground.data }, { on := 8, ground := Go.Ground.data }, { on := 2, ground := Go.Ground.guard }], guard := some (2, false) }) (v := ?_) rfl (by kernel_rfl) (by kernel_rfl) (by kernel_rfl) (fun _ _ _ h => h) (Or.inl ⟨by rfl, ?_⟩) (by assumption) ?_
              rotate_left
              · intro w hSw
                try dsimp only at hSw
                obtain ⟨⟨q0, q1, q2⟩, ⟨q3, q4, q5⟩, q6⟩ := hSw
                go_simp
                all_goals with_reducible rfl
              try simp only [Act.put, List.setIfInBounds_toArray, List.set_cons_zero, List.set_cons_succ]
              refine wpAnyH_take (i := 10) (oi := { dst := some 105, op := Go.Op.load 32 (Go.Operand.tmp 104), type := 32, pos := "law.go:54", after := #[{ on := 9, ground := Go.Ground.data }, { on := 2, ground := Go.Ground.guard }], guard := some (2, false) }) (v := ?_) rfl (by kernel_rfl) (by kernel_rfl) (by kernel_rfl) (fun _ _ _ h => h) (Or.inl ⟨by rfl, ?_⟩) (by assumption) ?_
              rotate_left
              · intro w hSw
                try dsimp only at hSw
                obtain ⟨⟨q0, q1, q2⟩, ⟨q3, q4, q5⟩, q6⟩ := hSw
                go_simp
                all_goals with_reducible rfl
              try simp only [Act.put, List.setIfInBounds_toArray, List.set_cons_zero, List.set_cons_succ]
              refine wpAnyH_ready (rs := [11]) (by kernel_rfl) (by simp) ?_
              refine AllReadyH.cons (o := { dst := some 106, op := Go.Op.call { callee := Go.Callee.value (Go.Operand.func 14), args := #[Go.Operand.tmp 98, Go.Operand.tmp 105], argTypes := #[32, 32] }, type := 4, pos := "law.go:54", after := #[{ on := 3, ground := Go.Ground.data }, { on := 10, ground := Go.Ground.data }, { on := 2, ground := Go.Ground.chain }, { on := 2, ground := Go.Ground.guard }], guard := some (2, false) }) rfl (fun K hK => ?_) ?_
              · go_simp
                refine (HS (w3.alloc (.cells #[.int .i64 ro, .int .i64 rn, .slice ra' rl' rc'] 32)).drew (isUs_same HI1.out fun _ _ _ => rfl) (isUs_same HI2.out fun _ _ _ => rfl)).out.mono ?_
                rintro e w7 ⟨rfl, hb'⟩
                have hb : Below (w3.alloc (.cells #[.int .i64 ro, .int .i64 rn, .slice ra' rl' rc'] 32)).heap.size (w3.alloc (.cells #[.int .i64 ro, .int .i64 rn, .slice ra' rl' rc'] 32)) w7 := ⟨hb'.os, hb'.tape, hb'.output, hb'.size, hb'.block⟩
                have HP7 := Lib.hid (HP3.out.next hb)
                have HB7 := Lib.hid (Below.next HB4.out hb)
                have k7 := HK.out _ hb
                clear hb hb'
                go_wp2_with fail
                refine hK.out _ _ ?_ (fun hH => ?_)
                · exact k7
                clear hK K
                try simp only [Act.put, List.setIfInBounds_toArray, List.set_cons_zero, List.set_cons_succ]
                refine wpAnyH_take (i := 12) (oi := { dst := some 107, op := Go.Op.unOp Go.UnOp.not 4 (Go.Operand.tmp 106), type := 4, pos := "law.go:54", after := #[{ on := 11, ground := Go.Ground.data }, { on := 2, ground := Go.Ground.guard }], guard := some (2, false) }) (v := ?_) rfl (by kernel_rfl) (by kernel_rfl) (by kernel_rfl) (fun _ _ _ h => h) (Or.inl ⟨by rfl, ?_⟩) (by assumption) ?_
                rotate_left
                · intro w hSw
                  try dsimp only at hSw
                  obtain ⟨⟨q0, q1, q2⟩, ⟨q3, q4, q5⟩, q6⟩ := hSw
                  go_simp
                  all_goals with_reducible rfl
                try simp only [Act.put, List.setIfInBounds_toArray, List.set_cons_zero, List.set_cons_succ]
                refine wpAnyH_take (i := 13) (oi := { dst := some 108, op := Go.Op.pick (Go.Operand.tmp 97) (Go.Operand.const (Go.Value.bool true)) (Go.Operand.tmp 107), type := 4, pos := "law.go:54", after := #[{ on := 2, ground := Go.Ground.data }, { on := 12, ground := Go.Ground.data }], guard := none }) (v := ?_) rfl (by kernel_rfl) (by kernel_rfl) (by kernel_rfl) (fun _ _ _ h => h) (Or.inl ⟨by rfl, ?_⟩) (by assumption) ?_
                rotate_left
                · intro w hSw
                  try dsimp only at hSw
                  obtain ⟨⟨q0, q1, q2⟩, ⟨q3, q4, q5⟩, q6⟩ := hSw
                  go_simp
                  all_goals with_reducible rfl
                try simp only [Act.put, List.setIfInBounds_toArray, List.set_cons_zero, List.set_cons_succ]
                refine wpAnyH_done (by kernel_rfl) ?_ _
                clear k7 hS0
                go_wp2
                go_roundw
                case rel => exact ⟨i + 1, by omega, by go_num, HP7.out, HB7.out⟩
                case measure => simp [intOf]; omega
              exact AllReadyH.nil
            · obtain rfl : i = L := by omega
              have HC1 := Lib.hid (HOUT.out (-1) (.inl (by omega)))
              have HC2 := Lib.hid (HOUT.out (i : Int) (.inr (Int.le_refl _)))
              have HP := Lib.hid hp
              have HBZ := Lib.hid hbz
              clear hp hbz HAT HOUT
              go_wp2_with fail
              refine (HC1.out _ HP.out.j).mono ?_
              rintro e w3 ⟨rfl, hb⟩
              have hbA := Joins.below_alloc1 w3 (.cells #[.int .i64 0, .int .i64 0, .slice none 0 0] 32)
              have HP3 := Lib.hid ((HP.out.next hb).next hbA)
              have h4 := HCW.out _ (Below.next (Below.next HBZ.out hb) hbA)
              clear hb hbA HP HBZ HC1
              simp only [rv, rn0]
              go_wp2_with fail
              refine (HC2.out _ HP3.out.j).mono ?_
              rintro e w5 ⟨rfl, hb⟩
              have HP5 := Lib.hid ((HP3.out.next hb).next (Joins.below_alloc1 w5 (.cells #[.int .i64 0, .int .i64 0, .slice none 0 0] 32)))
              clear hb HP3 HC2 h4
              simp only [rv, rn0]
              go_wp2
              go_ret
              exact ⟨rfl, HP5.out.bel⟩
    exact AllReadyH.nil
  exact AllReadyH.nil
end Go.Proofs.Ytonjdpchocdghaa
