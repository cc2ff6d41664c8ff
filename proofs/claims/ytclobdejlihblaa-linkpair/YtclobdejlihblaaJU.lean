/- pairEnds. -/
import Derived.Test.YtclobdejlihblaaJV
namespace Go.Proofs.Ytclobdejlihblaa
open Go Go.RowKit
set_option maxRecDepth 20000
theorem wpList_appS1 {ops : Array Oper} {rest : List Oper} {o : Oper} {a : Act} {Q : Exit → Act → World → Prop} {w : World} (hgd : o.guard = none) (s x : Operand)
    (ho : o.op = .call { callee := .builtin .append, args := #[s, x], argTypes := #[51, 51] })
    (B : Nat) (ao : Option Addr) (n co : Nat) (l : List ByteArray) (hln : l.length = n) (hs : a.eval s = .slice ao n co) (hrow : RowS B w (.slice ao n co) l) (ad : Addr) (hx : a.eval x = .slice (some ad) 1 1) (u : ByteArray) (hu : SsAt w (some ad) 1 [u]) (hb : n ≤ 100000) (hB : B ≤ w.heap.size)
    (h : ∀ a' c' w', RowS B w' (.slice a' (n + 1) c') (l ++ [u]) → w.grownBy w' (Value.slice ao n co).ownBlock → wpList Try.prog ops Q rest (a.put o.dst (.slice a' (n + 1) c')) w') :
    wpList Try.prog ops Q (o :: rest) a w := by
  subst hln
  exact wpList_appS hgd s x ho B _ l hs hrow (some ad) 1 1 hx [u] hu (Nat.le_refl _) (fun e => by cases e) (by omega) hB (fun a' c' w' h1 h2 _ => h a' c' w' h1 h2)
section
variable {B : Nat} {w0 w w' : World} {b bs br c cs cr : Nat} {E F : En}
/-- A row of texts grows. -/
theorem Tq.rowS {v : Value} {l : List ByteArray} (h : Tq B w0 w b bs br E c cs cr F) (hr : RowS B w v l) (hg : w.grownBy w' v.ownBlock) : Tq B w0 w' b bs br E c cs cr F := h.grown hg fun j hj => by
  obtain ⟨cur, hc⟩ := hr.typ j hj
  exact ⟨(hr.lt j hj).1, cur, _, _, hc, by decide, by decide, by decide, by decide⟩
theorem Tq.rowF {v : Value} {l : List Fra} (h : Tq B w0 w b bs br E c cs cr F) (hr : RowF B w v l) (hg : w.grownBy w' v.ownBlock) : Tq B w0 w' b bs br E c cs cr F := h.grown hg fun j hj => by
  obtain ⟨cur, hc⟩ := hr.typ j hj
  exact ⟨(hr.lt j hj).1, cur, _, _, hc, by decide, by decide, by decide, by decide⟩
end
theorem pe_room {x0 x1 : Int} {ts : List ByteArray} {R : Nat} {ep : Int} {m D j : Nat} : (bAt x0 x1 ts R ep m D j).q + (bAt x0 x1 ts R ep m D j).ps.length ≤ m + ts.length := by
  unfold bAt endB
  simp only [List.length_drop, List.length_take]
  omega
def lenOf : Value → Nat
  | .slice _ n _ => n
  | _ => 0
set_option maxHeartbeats 32000000 in
theorem ends_yes (x0 x1 : Int) (a : Option Addr) (len cap : Nat) (h30 : len ≤ 30) (ts : List ByteArray) (hsh : ∀ d ∈ ts, d.size ≤ 50) (w : World) (hi : SsAt w a len ts) :
    Calls Try.prog 29 #[.agg #[.int .i64 x0, .int .i64 x1], .slice a len cap] w fun e w' => e = .returned (.bool true) ∧ Below w.heap.size w w' := by
  have HLN := Lib.hid hi.size
  have HI := Lib.hid hi
  have hsh := Lib.hid hsh
  clear hi
  have hx : (w.alloc (.cells #[.int .i64 x0, .int .i64 x1] 57)).heap[w.heap.size]? = some (.cells #[.int .i64 x0, .int .i64 x1] 57 (0, 0)) := heap_alloc_new w _
  have HW := Lib.hid (Joins.below_alloc1 w (.cells #[.int .i64 x0, .int .i64 x1] 57))
  have hsz : (w.alloc (.cells #[.int .i64 x0, .int .i64 x1] 57)).heap.size = w.heap.size + 1 := by simp
  go_enter Try.func29, Try.ntmps29
  go_wp2_with fail
  obtain ⟨W0, hW0⟩ : ∃ W, w.alloc (.cells #[.int .i64 x0, .int .i64 x1] 57) = W := ⟨_, rfl⟩
  rw [hW0] at hx HW hsz ⊢
  clear hW0
  generalize hB0 : w.heap.size = B0 at *
  have HB0 := Lib.hid hB0
  have HX := Lib.hid hx
  have HSZ := Lib.hid hsz
  have z0 : W0.cell? ⟨B0, 0, none⟩ = some (.int .i64 x0) := cell_at hx 0 _ rfl
  have z1 : W0.cell? ⟨B0, 1, none⟩ = some (.int .i64 x1) := cell_at hx 1 _ rfl
  clear hx hB0 hsz
  go_wp2_with fail
  refine wp_region_held_drew (S := fun w' => w'.cell? ⟨B0, 0, none⟩ = some (.int .i64 x0) ∧ w'.cell? ⟨B0, 1, none⟩ = some (.int .i64 x1)) (by kernel_rfl) ?_ (fun hH => ?_)
  · exact ⟨z0, z1⟩
  refine wpAnyH_take (i := 0) (oi := { dst := some 15, op := Go.Op.indexAddr 57 (Go.Operand.tmp 2) (Go.Operand.const (Go.Value.int Go.IntKind.i64 0)), type := 0, pos := "law.go:125", after := #[], guard := none }) (v := ?_) rfl (by kernel_rfl) (by kernel_rfl) (by kernel_rfl) (fun _ _ _ h => h) (Or.inl ⟨by rfl, ?_⟩) (by assumption) ?_
  rotate_left
  · intro w hSw
    try dsimp only at hSw
    obtain ⟨q0, q1⟩ := hSw
    go_simp
    all_goals with_reducible rfl
  try simp only [Act.put, List.setIfInBounds_toArray, List.set_cons_zero, List.set_cons_succ]
  refine wpAnyH_take (i := 1) (oi := { dst := some 16, op := Go.Op.load 3 (Go.Operand.tmp 15), type := 3, pos := "law.go:125", after := #[{ on := 0, ground := Go.Ground.data }], guard := none }) (v := ?_) rfl (by kernel_rfl) (by kernel_rfl) (by kernel_rfl) (fun _ _ _ h => h) (Or.inl ⟨by rfl, ?_⟩) (by assumption) ?_
  rotate_left
  · intro w hSw
    try dsimp only at hSw
    obtain ⟨q0, q1⟩ := hSw
    go_simp
    all_goals with_reducible rfl
  try simp only [Act.put, List.setIfInBounds_toArray, List.set_cons_zero, List.set_cons_succ]
  refine wpAnyH_take (i := 2) (oi := { dst := some 17, op := Go.Op.indexAddr 57 (Go.Operand.tmp 2) (Go.Operand.const (Go.Value.int Go.IntKind.i64 1)), type := 0, pos := "law.go:125", after := #[], guard := none }) (v := ?_) rfl (by kernel_rfl) (by kernel_rfl) (by kernel_rfl) (fun _ _ _ h => h) (Or.inl ⟨by rfl, ?_⟩) (by assumption) ?_
  rotate_left
  · intro w hSw
    try dsimp only at hSw
    obtain ⟨q0, q1⟩ := hSw
    go_simp
    all_goals with_reducible rfl
  try simp only [Act.put, List.setIfInBounds_toArray, List.set_cons_zero, List.set_cons_succ]
  refine wpAnyH_take (i := 3) (oi := { dst := some 18, op := Go.Op.load 3 (Go.Operand.tmp 17), type := 3, pos := "law.go:125", after := #[{ on := 2, ground := Go.Ground.data }], guard := none }) (v := ?_) rfl (by kernel_rfl) (by kernel_rfl) (by kernel_rfl) (fun _ _ _ h => h) (Or.inl ⟨by rfl, ?_⟩) (by assumption) ?_
  rotate_left
  · intro w hSw
    try dsimp only at hSw
    obtain ⟨q0, q1⟩ := hSw
    go_simp
    all_goals with_reducible rfl
  try simp only [Act.put, List.setIfInBounds_toArray, List.set_cons_zero, List.set_cons_succ]
  refine wpAnyH_take (i := 5) (oi := { dst := some 20, op := Go.Op.indexAddr 57 (Go.Operand.tmp 2) (Go.Operand.const (Go.Value.int Go.IntKind.i64 0)), type := 0, pos := "law.go:125", after := #[], guard := none }) (v := ?_) rfl (by kernel_rfl) (by kernel_rfl) (by kernel_rfl) (fun _ _ _ h => h) (Or.inl ⟨by rfl, ?_⟩) (by assumption) ?_
  rotate_left
  · intro w hSw
    try dsimp only at hSw
    obtain ⟨q0, q1⟩ := hSw
    go_simp
    all_goals with_reducible rfl
  try simp only [Act.put, List.setIfInBounds_toArray, List.set_cons_zero, List.set_cons_succ]
  refine wpAnyH_take (i := 6) (oi := { dst := some 21, op := Go.Op.load 3 (Go.Operand.tmp 20), type := 3, pos := "law.go:125", after := #[{ on := 5, ground := Go.Ground.data }], guard := none }) (v := ?_) rfl (by kernel_rfl) (by kernel_rfl) (by kernel_rfl) (fun _ _ _ h => h) (Or.inl ⟨by rfl, ?_⟩) (by assumption) ?_
  rotate_left
  · intro w hSw
    try dsimp only at hSw
    obtain ⟨q0, q1⟩ := hSw
    go_simp
    all_goals with_reducible rfl
  try simp only [Act.put, List.setIfInBounds_toArray, List.set_cons_zero, List.set_cons_succ]
  refine wpAnyH_take (i := 7) (oi := { dst := some 22, op := Go.Op.indexAddr 57 (Go.Operand.tmp 2) (Go.Operand.const (Go.Value.int Go.IntKind.i64 1)), type := 0, pos := "law.go:125", after := #[], guard := none }) (v := ?_) rfl (by kernel_rfl) (by kernel_rfl) (by kernel_rfl) (fun _ _ _ h => h) (Or.inl ⟨by rfl, ?_⟩) (by assumption) ?_
  rotate_left
  · intro w hSw
    try dsimp only at hSw
    obtain ⟨q0, q1⟩ := hSw
    go_simp
    all_goals with_reducible rfl
  try simp only [Act.put, List.setIfInBounds_toArray, List.set_cons_zero, List.set_cons_succ]
  refine wpAnyH_take (i := 8) (oi := { dst := some 23, op := Go.Op.load 3 (Go.Operand.tmp 22), type := 3, pos := "law.go:125", after := #[{ on := 7, ground := Go.Ground.data }], guard := none }) (v := ?_) rfl (by kernel_rfl) (by kernel_rfl) (by kernel_rfl) (fun _ _ _ h => h) (Or.inl ⟨by rfl, ?_⟩) (by assumption) ?_
  rotate_left
  · intro w hSw
    try dsimp only at hSw
    obtain ⟨q0, q1⟩ := hSw
    go_simp
    all_goals with_reducible rfl
  try simp only [Act.put, List.setIfInBounds_toArray, List.set_cons_zero, List.set_cons_succ]
  refine wpAnyH_ready (rs := [4]) (by kernel_rfl) (by simp) ?_
  refine AllReadyH.cons (o := { dst := some 19, op := Go.Op.call { callee := Go.Callee.value (Go.Operand.func 9), args := #[Go.Operand.const (Go.Value.int Go.IntKind.i64 1), Go.Operand.tmp 16, Go.Operand.tmp 18, Go.Operand.const (Go.Value.bool false)], argTypes := #[3, 3, 3, 4] }, type := 24, pos := "law.go:125", after := #[{ on := 1, ground := Go.Ground.data }, { on := 3, ground := Go.Ground.data }], guard := none }) rfl (fun K hK => ?_) ?_
  · go_simp
    refine (tu_new (B := B0) (w0 := w) (w := W0.drew) 1 x0 x1 false HW.out.drew (by have := HSZ.out; show B0 ≤ W0.heap.size; omega)).mono ?_
    rintro e w1 ⟨rfl, ⟨bs, br, h⟩, hb⟩
    have hx1 := (hb.block B0 (by show B0 < W0.heap.size; rw [HSZ.out]; omega)).trans HX.out
    have d0 : w1.cell? ⟨B0, 0, none⟩ = some (.int .i64 x0) := cell_at hx1 0 _ rfl
    have d1 : w1.cell? ⟨B0, 1, none⟩ = some (.int .i64 x1) := cell_at hx1 1 _ rfl
    have HX1 := Lib.hid hx1
    have H1 : Hid (Tu B0 w w1 W0.heap.size bs br (endA x0 x1 ts 0 0)) := Lib.hid h
    clear h hb hx1
    go_wp2_with fail
    refine hK.out _ _ ?_ (fun hH => ?_)
    · exact ⟨d0, d1⟩
    clear hK K
    try simp only [Act.put, List.setIfInBounds_toArray, List.set_cons_zero, List.set_cons_succ]
    refine wpAnyH_ready (rs := [9]) (by kernel_rfl) (by simp) ?_
    refine AllReadyH.cons (o := { dst := some 24, op := Go.Op.call { callee := Go.Callee.value (Go.Operand.func 9), args := #[Go.Operand.const (Go.Value.int Go.IntKind.i64 0), Go.Operand.tmp 21, Go.Operand.tmp 23, Go.Operand.const (Go.Value.bool true)], argTypes := #[3, 3, 3, 4] }, type := 24, pos := "law.go:125", after := #[{ on := 6, ground := Go.Ground.data }, { on := 8, ground := Go.Ground.data }, { on := 4, ground := Go.Ground.chain }], guard := none }) rfl (fun K hK => ?_) ?_
    · go_simp
      refine (tq_new 0 x0 x1 true H1.out).mono ?_
      rintro e w2 ⟨rfl, ⟨cs, cr, h⟩, hb⟩
      have hx2 := (hb.block B0 (Array.getElem?_eq_some_iff.1 HX1.out).1).trans HX1.out
      have g0 : w2.cell? ⟨B0, 0, none⟩ = some (.int .i64 x0) := cell_at hx2 0 _ rfl
      have g1 : w2.cell? ⟨B0, 1, none⟩ = some (.int .i64 x1) := cell_at hx2 1 _ rfl
      have HX2 := Lib.hid hx2
      have H2 : Hid (Tq B0 w w2 W0.heap.size bs br (endA x0 x1 ts 0 0) w1.heap.size cs cr (endB x0 x1 ts 0 0 0)) := Lib.hid h
      clear h hb hx2
      go_wp2_with fail
      refine hK.out _ _ ?_ (fun hH => ?_)
      · exact ⟨g0, g1⟩
      clear hK K
      try simp only [Act.put, List.setIfInBounds_toArray, List.set_cons_zero, List.set_cons_succ]
      refine wpAnyH_take (i := 10) (oi := { dst := some 5, op := Go.Op.assign (Go.Operand.tmp 19), type := 24, pos := "law.go:125", after := #[{ on := 4, ground := Go.Ground.data }, { on := 9, ground := Go.Ground.chain }, { on := 0, ground := Go.Ground.phase }, { on := 1, ground := Go.Ground.phase }, { on := 2, ground := Go.Ground.phase }, { on := 3, ground := Go.Ground.phase }, { on := 4, ground := Go.Ground.phase }, { on := 5, ground := Go.Ground.textOnly Go.Departure.lateStores }, { on := 6, ground := Go.Ground.textOnly Go.Departure.lateStores }, { on := 7, ground := Go.Ground.textOnly Go.Departure.lateStores }, { on := 8, ground := Go.Ground.textOnly Go.Departure.lateStores }, { on := 9, ground := Go.Ground.textOnly Go.Departure.lateStoresUnsure }], guard := none }) (v := ?_) rfl (by kernel_rfl) (by kernel_rfl) (by kernel_rfl) (fun _ _ _ h => h) (Or.inl ⟨by rfl, ?_⟩) (by assumption) ?_
      rotate_left
      · intro w hSw
        try dsimp only at hSw
        obtain ⟨q0, q1⟩ := hSw
        go_simp
        all_goals with_reducible rfl
      try simp only [Act.put, List.setIfInBounds_toArray, List.set_cons_zero, List.set_cons_succ]
      refine wpAnyH_take (i := 11) (oi := { dst := some 6, op := Go.Op.assign (Go.Operand.tmp 24), type := 24, pos := "law.go:125", after := #[{ on := 9, ground := Go.Ground.data }, { on := 10, ground := Go.Ground.chain }, { on := 0, ground := Go.Ground.phase }, { on := 1, ground := Go.Ground.phase }, { on := 2, ground := Go.Ground.phase }, { on := 3, ground := Go.Ground.phase }, { on := 4, ground := Go.Ground.phase }, { on := 5, ground := Go.Ground.phase }, { on := 6, ground := Go.Ground.phase }, { on := 7, ground := Go.Ground.phase }, { on := 8, ground := Go.Ground.phase }, { on := 9, ground := Go.Ground.phase }, { on := 10, ground := Go.Ground.phase }], guard := none }) (v := ?_) rfl (by kernel_rfl) (by kernel_rfl) (by kernel_rfl) (fun _ _ _ h => h) (Or.inl ⟨by rfl, ?_⟩) (by assumption) ?_
      rotate_left
      · intro w hSw
        try dsimp only at hSw
        obtain ⟨q0, q1⟩ := hSw
        go_simp
        all_goals with_reducible rfl
      try simp only [Act.put, List.setIfInBounds_toArray, List.set_cons_zero, List.set_cons_succ]
      refine wpAnyH_done (by kernel_rfl) ?_ _
      clear d0 d1 z0 z1 g0 g1 HX1
      have HSZ3 := Lib.hid (show W0.heap.size = W0.heap.size from rfl)
      generalize W0.heap.size = b at *
      generalize w1.heap.size = c at *
      go_wp2_with fail
      obtain ⟨R, hR1, hR2, hR3⟩ := roomR x1
      have HR : Hid (Rcv.roomOf x1 = (R : Int) ∧ 1 ≤ R ∧ R ≤ 16) := Lib.hid ⟨hR1, hR2, hR3⟩
      clear hR1 hR2 hR3
      go_loopw [7, 8, 35] (fun v7 v8 v35 wr => ∃ r : Nat, r ≤ 2 * len + 2 ∧ v35 = .int .i64 r ∧ ∃ (m nx : Nat) (ep : Int) (bs br cs cr : Nat) (ag : Option Addr) (cg : Nat), v7 = .slice ag m cg ∧ v8 = .int .i64 (nx : Int) ∧ Tq B0 w wr b bs br (endA x0 x1 ts m nx) c cs cr (endB x0 x1 ts ep m m) ∧ RowS B0 wr (.slice ag m cg) (ts.take m) ∧ m ≤ nx ∧ nx ≤ len ∧ (ep = 1 ∨ ep = 0 ∧ m = 0) ∧ (r ≤ m ∨ m = len)) (fun _ _ v35 _ => 2 * len + 2 - (intOf v35).toNat)
      case atStart => exact ⟨0, Nat.zero_le _, rfl, 0, 0, 0, _, _, _, _, none, 0, rfl, rfl, H2.out, rowS_nil _ _, Nat.le_refl _, Nat.zero_le _, .inr ⟨rfl, rfl⟩, .inl (Nat.le_refl _)⟩
      case round =>
        obtain ⟨r, hr, rfl, m, nx, ep, bs, br, cs, cr, ag, cg, rfl, rfl, h, hs, hmn, hn, hep, hpro⟩ := hrel
        clear H2
        have HEP := Lib.hid hep
        have HPRO := Lib.hid hpro
        clear hep hpro
        by_cases hlt : r < 2 * len + 2
        · have kr : decide ((r : Int) < 2 * (len : Int) + 2) = true := decide_eq_true (by omega)
          have H3 := Lib.hid h
          have HS3 := Lib.hid hs
          clear h hs
          go_wp2_with fail
          go_loopw [8] (fun v8 wr => ∃ nx2 : Nat, nx ≤ nx2 ∧ nx2 ≤ len ∧ v8 = .int .i64 (nx2 : Int) ∧ Tq B0 w wr b bs br (endA x0 x1 ts m nx2) c cs cr (endB x0 x1 ts ep m m) ∧ RowS B0 wr (.slice ag m cg) (ts.take m)) (fun v8 _ => len - (intOf v8).toNat)
          case atStart => exact ⟨nx, Nat.le_refl _, hn, rfl, H3.out, HS3.out⟩
          case round =>
            obtain ⟨nx2, hnx2, hn2, rfl, h, hs⟩ := hrel
            clear H3 HS3
            have hmn2 : m ≤ nx2 := by omega
            by_cases hlt2 : nx2 < len
            · obtain ⟨gt, off, rfl, hgl, hc⟩ := HI.out.lies (by omega)
              have c0 := (h.bel.cell (p := ⟨gt, off + nx2, none⟩) (by rw [← HB0.out]; exact hgl)).trans (hc nx2 (by rw [HLN.out]; exact hlt2))
              obtain ⟨x, hxx⟩ : ∃ x, ts.getD nx2 emp = x := ⟨_, rfl⟩
              have HXX := Lib.hid hxx
              rw [hxx] at c0
              have HXS : Hid (x.size ≤ 1000) := Lib.hid (by have := hsh.out _ (getD_mem (i := nx2) (ds := ts) (by rw [HLN.out]; exact hlt2)); rw [hxx] at this; omega)
              obtain ⟨oe, hoe⟩ : ∃ n, (endA x0 x1 ts m nx2).offe = n := ⟨_, rfl⟩
              have HOE := Lib.hid hoe
              have H3 := Lib.hid h
              have HS3 := Lib.hid hs
              clear h hs hc hgl hxx
              by_cases hz : oe = 0
              · have HO : Hid ((endA x0 x1 ts m nx2).off x = endA x0 x1 ts m (nx2 + 1)) := Lib.hid (by rw [← HXX.out]; exact pa_off hmn2 (by rw [HLN.out]; exact hlt2) (hoe.trans hz))
                subst hz
                clear hoe
                go_wp2_with fail
                refine (tq_offE x HO.out HOE.out HXS.out H3.out).mono ?_
                rintro e w4 ⟨rfl, h, ho⟩
                have H4 := Lib.hid h
                have HS4 := Lib.hid (HS3.out.oth ho)
                clear h ho H3 HS3 HO c0
                go_wp2
                go_roundw
                case rel => exact ⟨nx2 + 1, by omega, by omega, by go_num, H4.out, HS4.out⟩
                case measure => simp [intOf]; omega
              · have HO : Hid ((endA x0 x1 ts m nx2).off x = endA x0 x1 ts m nx2) := Lib.hid (off_nz _ _ (by rw [hoe]; exact hz))
                have HPR : Hid (nx2 = len ∨ m < nx2) := Lib.hid (.inr (pa_full (x0 := x0) (x1 := x1) (ts := ts) hmn2 (by rw [HLN.out]; omega) (by rw [HLN.out]; exact h30) (by rw [hoe]; exact hz)))
                have kz : (oe == 0) = false := beq_eq_false_iff_ne.2 hz
                have kz2 : decide (oe = 0) = false := decide_eq_false hz
                clear hoe hz
                go_wp2_with fail
                refine (tq_offE x HO.out HOE.out HXS.out H3.out).mono ?_
                rintro e wr2 ⟨rfl, h, ho⟩
                have H4 := Lib.hid h
                have HS4 := Lib.hid (HS3.out.oth ho)
                clear h ho H3 HS3 HO c0
                go_wp2_with fail
                obtain ⟨D, hD⟩ : ∃ D, nx2 - m = D := ⟨_, rfl⟩
                obtain ⟨G, hG⟩ : ∃ G, (endA x0 x1 ts m nx2).frames = G := ⟨_, rfl⟩
                obtain ⟨L, hL⟩ : ∃ L, max D 1 = L := ⟨_, rfl⟩
                have HD := Lib.hid hD
                have HGF := Lib.hid hG
                have HLL := Lib.hid hL
                have HGL : Hid (G.length = L) := Lib.hid (by rw [← hG, pe_len (by rw [HLN.out]; exact hn2), hD, hL])
                have HGG : Hid (∀ j, j < L → ∃ s d, G.getD j fr0 = (1, s, 0, d) ∧ ((D = 0 ∧ s = 0 ∧ d = ⟨#[]⟩) ∨ (j < D ∧ s = ((m + j + 1 : Nat) : Int) ∧ d = ts.getD (m + j) emp))) := Lib.hid fun j hj => by
                  have := pe_get (x0 := x0) (x1 := x1) (ts := ts) (k := m) (nx := nx2) (by rw [HLN.out]; exact hn2) (j := j) (by rw [hD, hL]; exact hj)
                  rw [hG, hD] at this
                  exact this
                clear hD hG hL
                refine (tq_frames HGF.out HGL.out H4.out).mono ?_
                rintro e w5 ⟨al, cl, rfl, hr, hb, h⟩
                have H5 := Lib.hid h
                have HR5 := Lib.hid hr
                have HS5 := Lib.hid (HS4.out.below hb)
                have HBL : Hid (∃ n, wr2.heap.size = n) := Lib.hid ⟨_, rfl⟩
                obtain ⟨Bl, hBl⟩ := HBL.out
                rw [hBl] at HR5
                clear hr hb h H4 HS4 hBl HBL
                rcases HR5.out.2 with ⟨hv, h0⟩ | ⟨gf, cap', cur, hv, _⟩
                · rw [HGL.out] at h0
                  have := HLL.out
                  omega
                rw [HGL.out] at hv
                cases hv
                have hL31 : L ≤ 31 := by have := HLL.out; have := HD.out; omega
                go_wp2_with fail
                go_loopw [55] (fun v55 wr => ∃ j : Nat, j ≤ L ∧ v55 = .int .i64 j ∧ ∃ cs cr, Tq B0 w wr b bs br (endA x0 x1 ts m nx2) c cs cr (bAt x0 x1 ts R ep m D j) ∧ RowS B0 wr (.slice ag m cg) (ts.take m) ∧ RowF Bl wr (.slice (some ⟨gf, 0, none⟩) L cl) G) (fun v55 _ => L - (intOf v55).toNat)
                case atStart => exact ⟨0, Nat.zero_le _, rfl, _, _, by rw [show bAt x0 x1 ts R ep m D 0 = endB x0 x1 ts ep m m by unfold bAt; simp]; exact H5.out, HS5.out, HR5.out⟩
                case round =>
                  obtain ⟨j, hj, rfl, cs, cr, h, hs, hr⟩ := hrel
                  clear H5 HS5 HR5
                  by_cases hlt3 : j < L
                  · obtain ⟨s, dd, hfr, hcase⟩ := HGG.out j hlt3
                    obtain ⟨d0, d1, d2, d3⟩ := RowF.f4n hr HGL.out j hlt3
                    rw [hfr] at d0 d1 d2 d3
                    simp only at d0 d1 d2 d3
                    have HE1 := Lib.hid (pe_hear1 (x0 := x0) (ep := ep) HR.out.1 HR.out.2.1 (show m + D ≤ ts.length by rw [HLN.out]; have := HD.out; omega) HEP.out hcase)
                    have HE2 := Lib.hid (pe_hear2 (x0 := x0) (ep := ep) HR.out.1 (show m + D ≤ ts.length by rw [HLN.out]; have := HD.out; omega) hcase)
                    have HDS : Hid (dd.size ≤ 1000) := Lib.hid (by
                      rcases hcase with ⟨_, _, e⟩ | ⟨hjD, _, e⟩
                      · rw [e]; decide
                      · have := hsh.out _ (getD_mem (i := m + j) (ds := ts) (by rw [HLN.out]; have := HD.out; omega))
                        rw [e]; omega)
                    obtain ⟨an, han⟩ : ∃ an, (bAt x0 x1 ts R ep m D j).anew (1, s, 0, dd) = an := ⟨_, rfl⟩
                    obtain ⟨an2, han2⟩ : ∃ an, (bAt x0 x1 ts R ep m D (j + 1)).anew (1, s, 0, dd) = an := ⟨_, rfl⟩
                    have HAN := Lib.hid han
                    have HAN2 := Lib.hid han2
                    have hbl := Joins.below_alloc1 wr (.cells #[.int .i64 1, .int .i64 s, .int .i64 0, .string dd] 31)
                    have H6 := Lib.hid (h.next hbl).swap
                    have HS6 := Lib.hid (hs.below hbl)
                    have HR6 := Lib.hid (hr.below hbl)
                    have HF6 : Hid (Fb (wr.alloc (.cells #[.int .i64 1, .int .i64 s, .int .i64 0, .string dd] 31)) wr.heap.size (1, s, 0, dd)) := Lib.hid (heap_alloc_new wr _)
                    clear h hs hr hbl han han2 hfr hcase
                    go_wp2_with fail
                    refine (tq_hearE (f := (1, s, 0, dd)) HE1.out HAN.out HDS.out (by have := pe_room (x0 := x0) (x1 := x1) (ts := ts) (R := R) (ep := ep) (m := m) (D := D) (j := j); rw [HLN.out] at this; omega) H6.out).mono ?_
                    rintro e w7 ⟨rfl, ⟨cs7, cr7, h⟩, ho⟩
                    have H7 := Lib.hid h
                    have HS7 := Lib.hid (HS6.out.oth ho)
                    have HR7 := Lib.hid (HR6.out.oth ho)
                    have hf7 := HF6.out.oth ho
                    have z0 := hf7.c0
                    have z1 := hf7.c1
                    have z2 := hf7.c2
                    have z3 := hf7.c3
                    simp only at z0 z1 z2 z3
                    clear h ho hf7 H6 HS6 HR6 HF6 d0 d1 d2 d3 HE1 HAN
                    go_wp2_with fail
                    refine (tq_hearE (f := (1, s, 0, dd)) HE2.out HAN2.out HDS.out (by have := pe_room (x0 := x0) (x1 := x1) (ts := ts) (R := R) (ep := ep) (m := m) (D := D) (j := j + 1); rw [HLN.out] at this; omega) H7.out).mono ?_
                    rintro e w8 ⟨rfl, ⟨cs8, cr8, h⟩, ho⟩
                    have H8 := Lib.hid h.swap
                    have HS8 := Lib.hid (HS7.out.oth ho)
                    have HR8 := Lib.hid (HR7.out.oth ho)
                    clear h ho H7 HS7 HR7 z0 z1 z2 z3 HE2 HAN2
                    go_wp2
                    go_roundw
                    case rel => exact ⟨j + 1, by omega, by go_num, _, _, H8.out, HS8.out, HR8.out⟩
                    case measure => simp [intOf]; omega
                  · obtain rfl : j = L := by omega
                    obtain ⟨m1, hm1⟩ : ∃ m1, m + min D R = m1 := ⟨_, rfl⟩
                    have HM1 := Lib.hid hm1
                    have hB : bAt x0 x1 ts R ep m D j = endB x0 x1 ts 1 m m1 := by
                      have := HLL.out
                      unfold bAt
                      rw [if_neg (by omega), show min (min j D) R = min D R by omega, hm1]
                    rw [hB] at h
                    have hm1n : m1 ≤ ts.length := by rw [HLN.out]; have := HD.out; omega
                    have HM1N := Lib.hid hm1n
                    have H6 := Lib.hid h.swap
                    have HS6 := Lib.hid hs
                    have p5 := h.t2.c5
                    clear h hs hr hB hm1 hm1n
                    by_cases hmm : m < m1
                    · have HP := Lib.hid (pb_pop (x0 := x0) (x1 := x1) (ep := 1) hmm HM1N.out)
                      obtain ⟨hd0, hhd0⟩ : ∃ x, ts.getD m emp = x := ⟨_, rfl⟩
                      have HHD0 := Lib.hid hhd0
                      rw [hhd0] at HP
                      clear hhd0
                      go_wp2_with fail
                      refine (tq_popE HP.out.1 HP.out.2.1 HP.out.2.2 (by unfold endB; simp only [List.length_drop, List.length_take]; rw [HLN.out]; omega) H6.out).mono ?_
                      rintro e w7 ⟨rfl, h, ho⟩
                      have H7 := Lib.hid h
                      have HS7 := Lib.hid (HS6.out.oth ho)
                      clear h ho H6 HS6 HP p5
                      go_wp2_with fail
                      go_loopw [7, 11, 12] (fun v7 v11 v12 wr => ∃ (q : Nat) (he : Bool) (hd : ByteArray) (ag : Option Addr) (cg : Nat), q ≤ m1 ∧ v7 = .slice ag q cg ∧ v11 = .string hd ∧ v12 = .bool he ∧ RowS B0 wr (.slice ag q cg) (ts.take q) ∧ (he = true → q < m1 ∧ hd = ts.getD q emp ∧ Tq B0 w wr c cs cr (endB x0 x1 ts 1 (q + 1) m1) b bs br (endA x0 x1 ts m nx2)) ∧ (he = false → q = m1 ∧ Tq B0 w wr c cs cr (endB x0 x1 ts 1 m1 m1) b bs br (endA x0 x1 ts m nx2))) (fun v7 _ _ _ => m1 - lenOf v7)
                      case atStart => exact ⟨m, true, hd0, ag, cg, by omega, rfl, rfl, rfl, HS7.out, fun _ => ⟨hmm, HHD0.out.symm, H7.out⟩, (fun e => by cases e)⟩
                      case round =>
                        obtain ⟨q, he, hd, ag, cg, hq, rfl, rfl, rfl, hs, hyes, hno⟩ := hrel
                        clear H7 HS7
                        cases he with
                        | true =>
                          obtain ⟨hlt4, hhd, h⟩ := hyes rfl
                          have HHD := Lib.hid hhd
                          have hq2 : q < ts.length := by have := HM1N.out; omega
                          have HTK := Lib.hid (take_snoc hq2)
                          have hl : (ts.take q).length = q := by rw [List.length_take]; omega
                          have HL := Lib.hid hl
                          have H8 := Lib.hid (h.next (Joins.below_alloc1 wr (.cells #[.string hd] 9)))
                          have HS8 := Lib.hid (hs.alloc (.cells #[.string hd] 9))
                          have hq30 : q ≤ 30 := by rw [HLN.out] at hq2; omega
                          clear hyes hno h hs hhd hq2 hl
                          go_wp2_with (at_builtin; refine wpList_appS1 rfl (.tmp 83) (.tmp 85) rfl B0 ag q cg (ts.take q) HL.out rfl HS8.out _ rfl hd (ssAt_one wr hd) (by omega) H8.out.le ?_; intro a5 c5 w5 hr5 hg5; have H9 := Lib.hid (H8.out.rowS HS8.out hg5); have HS9 := Lib.hid hr5; have p9 := H9.out.t1.c5; clear hr5 hg5 H8 HS8)
                          have HS9 : Hid (RowS B0 w5 (.slice a5 (q + 1) c5) (ts.take (q + 1))) := Lib.hid (by have := HS9.out; rw [HHD.out, ← HTK.out] at this; exact this)
                          by_cases hlt5 : q + 1 < m1
                          · have HP := Lib.hid (pb_pop (x0 := x0) (x1 := x1) (ep := 1) hlt5 HM1N.out)
                            refine (tq_popE HP.out.1 HP.out.2.1 HP.out.2.2 (by unfold endB; simp only [List.length_drop, List.length_take]; rw [HLN.out]; omega) H9.out).mono ?_
                            rintro e wa ⟨rfl, h, ho⟩
                            have HA := Lib.hid h
                            have HSA := Lib.hid (HS9.out.oth ho)
                            clear h ho H9 HS9 HP p9
                            obtain ⟨hd2, hhd2⟩ : ∃ x, ts.getD (q + 1) emp = x := ⟨_, rfl⟩
                            have HHD2 := Lib.hid hhd2
                            rw [hhd2]
                            clear hhd2
                            go_wp2
                            go_roundw
                            case rel => exact ⟨q + 1, true, hd2, a5, c5, by omega, rfl, rfl, rfl, HSA.out, fun _ => ⟨hlt5, HHD2.out.symm, HA.out⟩, (fun e => by cases e)⟩
                            case measure => simp only [lenOf]; omega
                          · obtain rfl : m1 = q + 1 := by omega
                            have HP := Lib.hid (pb_none (x0 := x0) (x1 := x1) (ep := 1) HM1N.out)
                            refine (tq_popE HP.out.1 HP.out.2.1 HP.out.2.2 (by unfold endB; simp only [List.length_drop, List.length_take]; rw [HLN.out]; omega) H9.out).mono ?_
                            rintro e wa ⟨rfl, h, ho⟩
                            have HA := Lib.hid h
                            have HSA := Lib.hid (HS9.out.oth ho)
                            clear h ho H9 HS9 HP p9
                            unfold emp
                            go_wp2
                            go_roundw
                            case rel => exact ⟨q + 1, false, _, a5, c5, by omega, rfl, rfl, rfl, HSA.out, (fun e => by cases e), fun _ => ⟨rfl, HA.out⟩⟩
                            case measure => simp only [lenOf]; omega
                        | false =>
                          obtain ⟨rfl, h⟩ := hno rfl
                          have H8 := Lib.hid h
                          have HS8 := Lib.hid hs
                          clear hyes hno h hs
                          have HF8 := Lib.hid (pb_frames1 (x0 := x0) (x1 := x1) (Nat.le_refl q) HM1N.out)
                          go_wp2_with fail
                          refine (tq_frames (n := 1) HF8.out rfl H8.out).mono ?_
                          rintro e wb ⟨am, cm, rfl, hr, hb, h⟩
                          have HB := Lib.hid h.swap
                          have HSB := Lib.hid (HS8.out.below hb)
                          have HRB := Lib.hid hr
                          clear hr hb h H8 HS8 HF8
                          rcases HRB.out.2 with ⟨hv, h0⟩ | ⟨gm, cap', cur, hv, _⟩
                          · cases h0
                          cases hv
                          go_wp2_with fail
                          go_loopw [90] (fun v90 wr2 => ∃ j : Nat, j ≤ 1 ∧ v90 = .int .i64 j ∧ ∃ bs br, Tq B0 w wr2 b bs br (endA x0 x1 ts (if j = 0 then m else q) nx2) c cs cr (endB x0 x1 ts 1 q q) ∧ RowS B0 wr2 (.slice ag q cg) (ts.take q) ∧ RowF wr.heap.size wr2 (.slice (some ⟨gm, 0, none⟩) 1 cm) [(1, 0, (q : Int), ⟨#[]⟩)]) (fun v90 _ => 1 - (intOf v90).toNat)
                          case atStart => exact ⟨0, Nat.zero_le _, rfl, _, _, HB.out, HSB.out, HRB.out⟩
                          case round =>
                            obtain ⟨j, hj, rfl, bs, br, h, hs, hr⟩ := hrel
                            clear HB HSB HRB
                            by_cases hj0 : j = 0
                            · subst hj0
                              obtain ⟨d0, d1, d2, d3⟩ := RowF.f4n hr rfl 0 (by decide)
                              change wr.cell? ⟨gm, 0, none⟩ = some (.int .i64 1) at d0
                              change wr.cell? ⟨gm, 1, none⟩ = some (.int .i64 0) at d1
                              change wr.cell? ⟨gm, 2, none⟩ = some (.int .i64 (q : Int)) at d2
                              change wr.cell? ⟨gm, 3, none⟩ = some (.string ⟨#[]⟩) at d3
                              rw [if_pos rfl] at h
                              have HAH := Lib.hid (pa_hear (x0 := x0) (x1 := x1) (ts := ts) (k := m) (nx := nx2) (f := (1, 0, (q : Int), ⟨#[]⟩)) ⟨rfl, rfl, by show (0 : Nat) ≤ 1000; decide⟩ (by rw [HLN.out]; exact hn2) hmn2)
                              have HAK : Hid (m + ackM m (nx2 - m) (q : Int) = q) := Lib.hid (pe_ack (by have := HM1.out; omega) (by have := HM1.out; have := HD.out; omega))
                              have hbl := Joins.below_alloc1 wr (.cells #[.int .i64 1, .int .i64 0, .int .i64 (q : Int), .string ⟨#[]⟩] 31)
                              have HC := Lib.hid (h.next hbl)
                              have HSC := Lib.hid (hs.below hbl)
                              have HRC := Lib.hid (hr.below hbl)
                              clear h hs hr hbl
                              go_wp2_with fail
                              refine (tq_hearE (f := (1, 0, (q : Int), ⟨#[]⟩)) HAH.out.1 HAH.out.2.1 (by show (0 : Nat) ≤ 1000; decide) (by unfold endA; simp) HC.out).mono ?_
                              rintro e wd ⟨rfl, ⟨bs9, br9, h⟩, ho⟩
                              try simp only at h
                              rw [HAK.out] at h
                              have HD9 := Lib.hid h
                              have HSD := Lib.hid (HSC.out.oth ho)
                              have HRD := Lib.hid (HRC.out.oth ho)
                              clear h ho HC HSC HRC d0 d1 d2 d3 HAH HAK
                              go_wp2
                              go_roundw
                              case rel => exact ⟨1, Nat.le_refl _, rfl, _, _, HD9.out, HSD.out, HRD.out⟩
                              case measure => simp [intOf]
                            · obtain rfl : j = 1 := by omega
                              rw [if_neg hj0] at h
                              have HC := Lib.hid h
                              have HSC := Lib.hid hs
                              clear h hs hr hj0
                              go_wp2
                              go_roundw
                              case rel => exact ⟨r + 1, by omega, by go_num, q, nx2, 1, _, _, _, _, ag, cg, rfl, rfl, HC.out, HSC.out, by have := HM1.out; have := HD.out; omega, hn2, .inl rfl, by have := HM1.out; have := HD.out; have := HR.out; have := HPRO.out; have := HPR.out; omega⟩
                              case measure => simp [intOf]; omega
                    · obtain rfl : m1 = m := by have := HM1.out; omega
                      have HP := Lib.hid (pb_none (x0 := x0) (x1 := x1) (ep := 1) HM1N.out)
                      unfold emp at HP
                      go_wp2_with fail
                      refine (tq_popE HP.out.1 HP.out.2.1 HP.out.2.2 (by unfold endB; simp only [List.length_drop, List.length_take]; rw [HLN.out]; omega) H6.out).mono ?_
                      rintro e w7 ⟨rfl, h, ho⟩
                      have H7 := Lib.hid h
                      have HS7 := Lib.hid (HS6.out.oth ho)
                      clear h ho H6 HS6 HP p5
                      go_wp2_with fail
                      go_loopw [7, 11, 12] (fun v7 v11 v12 wr => ∃ (q : Nat) (he : Bool) (hd : ByteArray) (ag : Option Addr) (cg : Nat), q ≤ m1 ∧ v7 = .slice ag q cg ∧ v11 = .string hd ∧ v12 = .bool he ∧ RowS B0 wr (.slice ag q cg) (ts.take q) ∧ (he = true → q < m1 ∧ hd = ts.getD q emp ∧ Tq B0 w wr c cs cr (endB x0 x1 ts 1 (q + 1) m1) b bs br (endA x0 x1 ts m1 nx2)) ∧ (he = false → q = m1 ∧ Tq B0 w wr c cs cr (endB x0 x1 ts 1 m1 m1) b bs br (endA x0 x1 ts m1 nx2))) (fun v7 _ _ _ => m1 - lenOf v7)
                      case atStart => exact ⟨m1, false, _, ag, cg, Nat.le_refl _, rfl, rfl, rfl, HS7.out, (fun e => by cases e), fun _ => ⟨rfl, H7.out⟩⟩
                      case round =>
                        obtain ⟨q, he, hd, ag, cg, hq, rfl, rfl, rfl, hs, hyes, hno⟩ := hrel
                        clear H7 HS7
                        cases he with
                        | true =>
                          obtain ⟨hlt4, hhd, h⟩ := hyes rfl
                          have HHD := Lib.hid hhd
                          have hq2 : q < ts.length := by have := HM1N.out; omega
                          have HTK := Lib.hid (take_snoc hq2)
                          have hl : (ts.take q).length = q := by rw [List.length_take]; omega
                          have HL := Lib.hid hl
                          have H8 := Lib.hid (h.next (Joins.below_alloc1 wr (.cells #[.string hd] 9)))
                          have HS8 := Lib.hid (hs.alloc (.cells #[.string hd] 9))
                          have hq30 : q ≤ 30 := by rw [HLN.out] at hq2; omega
                          clear hyes hno h hs hhd hq2 hl
                          go_wp2_with (at_builtin; refine wpList_appS1 rfl (.tmp 83) (.tmp 85) rfl B0 ag q cg (ts.take q) HL.out rfl HS8.out _ rfl hd (ssAt_one wr hd) (by omega) H8.out.le ?_; intro a5 c5 w5 hr5 hg5; have H9 := Lib.hid (H8.out.rowS HS8.out hg5); have HS9 := Lib.hid hr5; have p9 := H9.out.t1.c5; clear hr5 hg5 H8 HS8)
                          have HS9 : Hid (RowS B0 w5 (.slice a5 (q + 1) c5) (ts.take (q + 1))) := Lib.hid (by have := HS9.out; rw [HHD.out, ← HTK.out] at this; exact this)
                          by_cases hlt5 : q + 1 < m1
                          · have HP := Lib.hid (pb_pop (x0 := x0) (x1 := x1) (ep := 1) hlt5 HM1N.out)
                            refine (tq_popE HP.out.1 HP.out.2.1 HP.out.2.2 (by unfold endB; simp only [List.length_drop, List.length_take]; rw [HLN.out]; omega) H9.out).mono ?_
                            rintro e wa ⟨rfl, h, ho⟩
                            have HA := Lib.hid h
                            have HSA := Lib.hid (HS9.out.oth ho)
                            clear h ho H9 HS9 HP p9
                            obtain ⟨hd2, hhd2⟩ : ∃ x, ts.getD (q + 1) emp = x := ⟨_, rfl⟩
                            have HHD2 := Lib.hid hhd2
                            rw [hhd2]
                            clear hhd2
                            go_wp2
                            go_roundw
                            case rel => exact ⟨q + 1, true, hd2, a5, c5, by omega, rfl, rfl, rfl, HSA.out, fun _ => ⟨hlt5, HHD2.out.symm, HA.out⟩, (fun e => by cases e)⟩
                            case measure => simp only [lenOf]; omega
                          · obtain rfl : m1 = q + 1 := by omega
                            have HP := Lib.hid (pb_none (x0 := x0) (x1 := x1) (ep := 1) HM1N.out)
                            refine (tq_popE HP.out.1 HP.out.2.1 HP.out.2.2 (by unfold endB; simp only [List.length_drop, List.length_take]; rw [HLN.out]; omega) H9.out).mono ?_
                            rintro e wa ⟨rfl, h, ho⟩
                            have HA := Lib.hid h
                            have HSA := Lib.hid (HS9.out.oth ho)
                            clear h ho H9 HS9 HP p9
                            unfold emp
                            go_wp2
                            go_roundw
                            case rel => exact ⟨q + 1, false, _, a5, c5, by omega, rfl, rfl, rfl, HSA.out, (fun e => by cases e), fun _ => ⟨rfl, HA.out⟩⟩
                            case measure => simp only [lenOf]; omega
                        | false =>
                          obtain ⟨rfl, h⟩ := hno rfl
                          have H8 := Lib.hid h
                          have HS8 := Lib.hid hs
                          clear hyes hno h hs
                          have HF8 := Lib.hid (pb_frames1 (x0 := x0) (x1 := x1) (Nat.le_refl q) HM1N.out)
                          go_wp2_with fail
                          refine (tq_frames (n := 1) HF8.out rfl H8.out).mono ?_
                          rintro e wb ⟨am, cm, rfl, hr, hb, h⟩
                          have HB := Lib.hid h.swap
                          have HSB := Lib.hid (HS8.out.below hb)
                          have HRB := Lib.hid hr
                          clear hr hb h H8 HS8 HF8
                          rcases HRB.out.2 with ⟨hv, h0⟩ | ⟨gm, cap', cur, hv, _⟩
                          · cases h0
                          cases hv
                          go_wp2_with fail
                          go_loopw [90] (fun v90 wr2 => ∃ j : Nat, j ≤ 1 ∧ v90 = .int .i64 j ∧ ∃ bs br, Tq B0 w wr2 b bs br (endA x0 x1 ts (if j = 0 then q else q) nx2) c cs cr (endB x0 x1 ts 1 q q) ∧ RowS B0 wr2 (.slice ag q cg) (ts.take q) ∧ RowF wr.heap.size wr2 (.slice (some ⟨gm, 0, none⟩) 1 cm) [(1, 0, (q : Int), ⟨#[]⟩)]) (fun v90 _ => 1 - (intOf v90).toNat)
                          case atStart => exact ⟨0, Nat.zero_le _, rfl, _, _, HB.out, HSB.out, HRB.out⟩
                          case round =>
                            obtain ⟨j, hj, rfl, bs, br, h, hs, hr⟩ := hrel
                            clear HB HSB HRB
                            by_cases hj0 : j = 0
                            · subst hj0
                              obtain ⟨d0, d1, d2, d3⟩ := RowF.f4n hr rfl 0 (by decide)
                              change wr.cell? ⟨gm, 0, none⟩ = some (.int .i64 1) at d0
                              change wr.cell? ⟨gm, 1, none⟩ = some (.int .i64 0) at d1
                              change wr.cell? ⟨gm, 2, none⟩ = some (.int .i64 (q : Int)) at d2
                              change wr.cell? ⟨gm, 3, none⟩ = some (.string ⟨#[]⟩) at d3
                              rw [if_pos rfl] at h
                              have HAH := Lib.hid (pa_hear (x0 := x0) (x1 := x1) (ts := ts) (k := q) (nx := nx2) (f := (1, 0, (q : Int), ⟨#[]⟩)) ⟨rfl, rfl, by show (0 : Nat) ≤ 1000; decide⟩ (by rw [HLN.out]; exact hn2) hmn2)
                              have HAK : Hid (q + ackM q (nx2 - q) (q : Int) = q) := Lib.hid (pe_ack (by have := HM1.out; omega) (by have := HM1.out; have := HD.out; omega))
                              have hbl := Joins.below_alloc1 wr (.cells #[.int .i64 1, .int .i64 0, .int .i64 (q : Int), .string ⟨#[]⟩] 31)
                              have HC := Lib.hid (h.next hbl)
                              have HSC := Lib.hid (hs.below hbl)
                              have HRC := Lib.hid (hr.below hbl)
                              clear h hs hr hbl
                              go_wp2_with fail
                              refine (tq_hearE (f := (1, 0, (q : Int), ⟨#[]⟩)) HAH.out.1 HAH.out.2.1 (by show (0 : Nat) ≤ 1000; decide) (by unfold endA; simp) HC.out).mono ?_
                              rintro e wd ⟨rfl, ⟨bs9, br9, h⟩, ho⟩
                              try simp only at h
                              rw [HAK.out] at h
                              have HD9 := Lib.hid h
                              have HSD := Lib.hid (HSC.out.oth ho)
                              have HRD := Lib.hid (HRC.out.oth ho)
                              clear h ho HC HSC HRC d0 d1 d2 d3 HAH HAK
                              go_wp2
                              go_roundw
                              case rel => exact ⟨1, Nat.le_refl _, rfl, _, _, HD9.out, HSD.out, HRD.out⟩
                              case measure => simp [intOf]
                            · obtain rfl : j = 1 := by omega
                              rw [if_neg hj0] at h
                              have HC := Lib.hid h
                              have HSC := Lib.hid hs
                              clear h hs hr hj0
                              go_wp2
                              go_roundw
                              case rel => exact ⟨r + 1, by omega, by go_num, q, nx2, 1, _, _, _, _, ag, cg, rfl, rfl, HC.out, HSC.out, by have := HM1.out; have := HD.out; omega, hn2, .inl rfl, by have := HM1.out; have := HD.out; have := HR.out; have := HPRO.out; have := HPR.out; omega⟩
                              case measure => simp [intOf]; omega
            · have kn : decide ((nx2 : Int) < (len : Int)) = false := decide_eq_false (by omega)
              have HPR : Hid (nx2 = len ∨ m < nx2) := Lib.hid (.inl (by omega))
              have H4 := Lib.hid h
              have HS4 := Lib.hid hs
              clear h hs
              go_wp2_with fail
              obtain ⟨D, hD⟩ : ∃ D, nx2 - m = D := ⟨_, rfl⟩
              obtain ⟨G, hG⟩ : ∃ G, (endA x0 x1 ts m nx2).frames = G := ⟨_, rfl⟩
              obtain ⟨L, hL⟩ : ∃ L, max D 1 = L := ⟨_, rfl⟩
              have HD := Lib.hid hD
              have HGF := Lib.hid hG
              have HLL := Lib.hid hL
              have HGL : Hid (G.length = L) := Lib.hid (by rw [← hG, pe_len (by rw [HLN.out]; exact hn2), hD, hL])
              have HGG : Hid (∀ j, j < L → ∃ s d, G.getD j fr0 = (1, s, 0, d) ∧ ((D = 0 ∧ s = 0 ∧ d = ⟨#[]⟩) ∨ (j < D ∧ s = ((m + j + 1 : Nat) : Int) ∧ d = ts.getD (m + j) emp))) := Lib.hid fun j hj => by
                have := pe_get (x0 := x0) (x1 := x1) (ts := ts) (k := m) (nx := nx2) (by rw [HLN.out]; exact hn2) (j := j) (by rw [hD, hL]; exact hj)
                rw [hG, hD] at this
                exact this
              clear hD hG hL
              refine (tq_frames HGF.out HGL.out H4.out).mono ?_
              rintro e w5 ⟨al, cl, rfl, hr, hb, h⟩
              have H5 := Lib.hid h
              have HR5 := Lib.hid hr
              have HS5 := Lib.hid (HS4.out.below hb)
              have HBL : Hid (∃ n, wr.heap.size = n) := Lib.hid ⟨_, rfl⟩
              obtain ⟨Bl, hBl⟩ := HBL.out
              rw [hBl] at HR5
              clear hr hb h H4 HS4 hBl HBL
              rcases HR5.out.2 with ⟨hv, h0⟩ | ⟨gf, cap', cur, hv, _⟩
              · rw [HGL.out] at h0
                have := HLL.out
                omega
              rw [HGL.out] at hv
              cases hv
              have hL31 : L ≤ 31 := by have := HLL.out; have := HD.out; omega
              go_wp2_with fail
              go_loopw [55] (fun v55 wr => ∃ j : Nat, j ≤ L ∧ v55 = .int .i64 j ∧ ∃ cs cr, Tq B0 w wr b bs br (endA x0 x1 ts m nx2) c cs cr (bAt x0 x1 ts R ep m D j) ∧ RowS B0 wr (.slice ag m cg) (ts.take m) ∧ RowF Bl wr (.slice (some ⟨gf, 0, none⟩) L cl) G) (fun v55 _ => L - (intOf v55).toNat)
              case atStart => exact ⟨0, Nat.zero_le _, rfl, _, _, by rw [show bAt x0 x1 ts R ep m D 0 = endB x0 x1 ts ep m m by unfold bAt; simp]; exact H5.out, HS5.out, HR5.out⟩
              case round =>
                obtain ⟨j, hj, rfl, cs, cr, h, hs, hr⟩ := hrel
                clear H5 HS5 HR5
                by_cases hlt3 : j < L
                · obtain ⟨s, dd, hfr, hcase⟩ := HGG.out j hlt3
                  obtain ⟨d0, d1, d2, d3⟩ := RowF.f4n hr HGL.out j hlt3
                  rw [hfr] at d0 d1 d2 d3
                  simp only at d0 d1 d2 d3
                  have HE1 := Lib.hid (pe_hear1 (x0 := x0) (ep := ep) HR.out.1 HR.out.2.1 (show m + D ≤ ts.length by rw [HLN.out]; have := HD.out; omega) HEP.out hcase)
                  have HE2 := Lib.hid (pe_hear2 (x0 := x0) (ep := ep) HR.out.1 (show m + D ≤ ts.length by rw [HLN.out]; have := HD.out; omega) hcase)
                  have HDS : Hid (dd.size ≤ 1000) := Lib.hid (by
                    rcases hcase with ⟨_, _, e⟩ | ⟨hjD, _, e⟩
                    · rw [e]; decide
                    · have := hsh.out _ (getD_mem (i := m + j) (ds := ts) (by rw [HLN.out]; have := HD.out; omega))
                      rw [e]; omega)
                  obtain ⟨an, han⟩ : ∃ an, (bAt x0 x1 ts R ep m D j).anew (1, s, 0, dd) = an := ⟨_, rfl⟩
                  obtain ⟨an2, han2⟩ : ∃ an, (bAt x0 x1 ts R ep m D (j + 1)).anew (1, s, 0, dd) = an := ⟨_, rfl⟩
                  have HAN := Lib.hid han
                  have HAN2 := Lib.hid han2
                  have hbl := Joins.below_alloc1 wr (.cells #[.int .i64 1, .int .i64 s, .int .i64 0, .string dd] 31)
                  have H6 := Lib.hid (h.next hbl).swap
                  have HS6 := Lib.hid (hs.below hbl)
                  have HR6 := Lib.hid (hr.below hbl)
                  have HF6 : Hid (Fb (wr.alloc (.cells #[.int .i64 1, .int .i64 s, .int .i64 0, .string dd] 31)) wr.heap.size (1, s, 0, dd)) := Lib.hid (heap_alloc_new wr _)
                  clear h hs hr hbl han han2 hfr hcase
                  go_wp2_with fail
                  refine (tq_hearE (f := (1, s, 0, dd)) HE1.out HAN.out HDS.out (by have := pe_room (x0 := x0) (x1 := x1) (ts := ts) (R := R) (ep := ep) (m := m) (D := D) (j := j); rw [HLN.out] at this; omega) H6.out).mono ?_
                  rintro e w7 ⟨rfl, ⟨cs7, cr7, h⟩, ho⟩
                  have H7 := Lib.hid h
                  have HS7 := Lib.hid (HS6.out.oth ho)
                  have HR7 := Lib.hid (HR6.out.oth ho)
                  have hf7 := HF6.out.oth ho
                  have z0 := hf7.c0
                  have z1 := hf7.c1
                  have z2 := hf7.c2
                  have z3 := hf7.c3
                  simp only at z0 z1 z2 z3
                  clear h ho hf7 H6 HS6 HR6 HF6 d0 d1 d2 d3 HE1 HAN
                  go_wp2_with fail
                  refine (tq_hearE (f := (1, s, 0, dd)) HE2.out HAN2.out HDS.out (by have := pe_room (x0 := x0) (x1 := x1) (ts := ts) (R := R) (ep := ep) (m := m) (D := D) (j := j + 1); rw [HLN.out] at this; omega) H7.out).mono ?_
                  rintro e w8 ⟨rfl, ⟨cs8, cr8, h⟩, ho⟩
                  have H8 := Lib.hid h.swap
                  have HS8 := Lib.hid (HS7.out.oth ho)
                  have HR8 := Lib.hid (HR7.out.oth ho)
                  clear h ho H7 HS7 HR7 z0 z1 z2 z3 HE2 HAN2
                  go_wp2
                  go_roundw
                  case rel => exact ⟨j + 1, by omega, by go_num, _, _, H8.out, HS8.out, HR8.out⟩
                  case measure => simp [intOf]; omega
                · obtain rfl : j = L := by omega
                  obtain ⟨m1, hm1⟩ : ∃ m1, m + min D R = m1 := ⟨_, rfl⟩
                  have HM1 := Lib.hid hm1
                  have hB : bAt x0 x1 ts R ep m D j = endB x0 x1 ts 1 m m1 := by
                    have := HLL.out
                    unfold bAt
                    rw [if_neg (by omega), show min (min j D) R = min D R by omega, hm1]
                  rw [hB] at h
                  have hm1n : m1 ≤ ts.length := by rw [HLN.out]; have := HD.out; omega
                  have HM1N := Lib.hid hm1n
                  have H6 := Lib.hid h.swap
                  have HS6 := Lib.hid hs
                  have p5 := h.t2.c5
                  clear h hs hr hB hm1 hm1n
                  by_cases hmm : m < m1
                  · have HP := Lib.hid (pb_pop (x0 := x0) (x1 := x1) (ep := 1) hmm HM1N.out)
                    obtain ⟨hd0, hhd0⟩ : ∃ x, ts.getD m emp = x := ⟨_, rfl⟩
                    have HHD0 := Lib.hid hhd0
                    rw [hhd0] at HP
                    clear hhd0
                    go_wp2_with fail
                    refine (tq_popE HP.out.1 HP.out.2.1 HP.out.2.2 (by unfold endB; simp only [List.length_drop, List.length_take]; rw [HLN.out]; omega) H6.out).mono ?_
                    rintro e w7 ⟨rfl, h, ho⟩
                    have H7 := Lib.hid h
                    have HS7 := Lib.hid (HS6.out.oth ho)
                    clear h ho H6 HS6 HP p5
                    go_wp2_with fail
                    go_loopw [7, 11, 12] (fun v7 v11 v12 wr => ∃ (q : Nat) (he : Bool) (hd : ByteArray) (ag : Option Addr) (cg : Nat), q ≤ m1 ∧ v7 = .slice ag q cg ∧ v11 = .string hd ∧ v12 = .bool he ∧ RowS B0 wr (.slice ag q cg) (ts.take q) ∧ (he = true → q < m1 ∧ hd = ts.getD q emp ∧ Tq B0 w wr c cs cr (endB x0 x1 ts 1 (q + 1) m1) b bs br (endA x0 x1 ts m nx2)) ∧ (he = false → q = m1 ∧ Tq B0 w wr c cs cr (endB x0 x1 ts 1 m1 m1) b bs br (endA x0 x1 ts m nx2))) (fun v7 _ _ _ => m1 - lenOf v7)
                    case atStart => exact ⟨m, true, hd0, ag, cg, by omega, rfl, rfl, rfl, HS7.out, fun _ => ⟨hmm, HHD0.out.symm, H7.out⟩, (fun e => by cases e)⟩
                    case round =>
                      obtain ⟨q, he, hd, ag, cg, hq, rfl, rfl, rfl, hs, hyes, hno⟩ := hrel
                      clear H7 HS7
                      cases he with
                      | true =>
                        obtain ⟨hlt4, hhd, h⟩ := hyes rfl
                        have HHD := Lib.hid hhd
                        have hq2 : q < ts.length := by have := HM1N.out; omega
                        have HTK := Lib.hid (take_snoc hq2)
                        have hl : (ts.take q).length = q := by rw [List.length_take]; omega
                        have HL := Lib.hid hl
                        have H8 := Lib.hid (h.next (Joins.below_alloc1 wr (.cells #[.string hd] 9)))
                        have HS8 := Lib.hid (hs.alloc (.cells #[.string hd] 9))
                        have hq30 : q ≤ 30 := by rw [HLN.out] at hq2; omega
                        clear hyes hno h hs hhd hq2 hl
                        go_wp2_with (at_builtin; refine wpList_appS1 rfl (.tmp 83) (.tmp 85) rfl B0 ag q cg (ts.take q) HL.out rfl HS8.out _ rfl hd (ssAt_one wr hd) (by omega) H8.out.le ?_; intro a5 c5 w5 hr5 hg5; have H9 := Lib.hid (H8.out.rowS HS8.out hg5); have HS9 := Lib.hid hr5; have p9 := H9.out.t1.c5; clear hr5 hg5 H8 HS8)
                        have HS9 : Hid (RowS B0 w5 (.slice a5 (q + 1) c5) (ts.take (q + 1))) := Lib.hid (by have := HS9.out; rw [HHD.out, ← HTK.out] at this; exact this)
                        by_cases hlt5 : q + 1 < m1
                        · have HP := Lib.hid (pb_pop (x0 := x0) (x1 := x1) (ep := 1) hlt5 HM1N.out)
                          refine (tq_popE HP.out.1 HP.out.2.1 HP.out.2.2 (by unfold endB; simp only [List.length_drop, List.length_take]; rw [HLN.out]; omega) H9.out).mono ?_
                          rintro e wa ⟨rfl, h, ho⟩
                          have HA := Lib.hid h
                          have HSA := Lib.hid (HS9.out.oth ho)
                          clear h ho H9 HS9 HP p9
                          obtain ⟨hd2, hhd2⟩ : ∃ x, ts.getD (q + 1) emp = x := ⟨_, rfl⟩
                          have HHD2 := Lib.hid hhd2
                          rw [hhd2]
                          clear hhd2
                          go_wp2
                          go_roundw
                          case rel => exact ⟨q + 1, true, hd2, a5, c5, by omega, rfl, rfl, rfl, HSA.out, fun _ => ⟨hlt5, HHD2.out.symm, HA.out⟩, (fun e => by cases e)⟩
                          case measure => simp only [lenOf]; omega
                        · obtain rfl : m1 = q + 1 := by omega
                          have HP := Lib.hid (pb_none (x0 := x0) (x1 := x1) (ep := 1) HM1N.out)
                          refine (tq_popE HP.out.1 HP.out.2.1 HP.out.2.2 (by unfold endB; simp only [List.length_drop, List.length_take]; rw [HLN.out]; omega) H9.out).mono ?_
                          rintro e wa ⟨rfl, h, ho⟩
                          have HA := Lib.hid h
                          have HSA := Lib.hid (HS9.out.oth ho)
                          clear h ho H9 HS9 HP p9
                          unfold emp
                          go_wp2
                          go_roundw
                          case rel => exact ⟨q + 1, false, _, a5, c5, by omega, rfl, rfl, rfl, HSA.out, (fun e => by cases e), fun _ => ⟨rfl, HA.out⟩⟩
                          case measure => simp only [lenOf]; omega
                      | false =>
                        obtain ⟨rfl, h⟩ := hno rfl
                        have H8 := Lib.hid h
                        have HS8 := Lib.hid hs
                        clear hyes hno h hs
                        have HF8 := Lib.hid (pb_frames1 (x0 := x0) (x1 := x1) (Nat.le_refl q) HM1N.out)
                        go_wp2_with fail
                        refine (tq_frames (n := 1) HF8.out rfl H8.out).mono ?_
                        rintro e wb ⟨am, cm, rfl, hr, hb, h⟩
                        have HB := Lib.hid h.swap
                        have HSB := Lib.hid (HS8.out.below hb)
                        have HRB := Lib.hid hr
                        clear hr hb h H8 HS8 HF8
                        rcases HRB.out.2 with ⟨hv, h0⟩ | ⟨gm, cap', cur, hv, _⟩
                        · cases h0
                        cases hv
                        go_wp2_with fail
                        go_loopw [90] (fun v90 wr2 => ∃ j : Nat, j ≤ 1 ∧ v90 = .int .i64 j ∧ ∃ bs br, Tq B0 w wr2 b bs br (endA x0 x1 ts (if j = 0 then m else q) nx2) c cs cr (endB x0 x1 ts 1 q q) ∧ RowS B0 wr2 (.slice ag q cg) (ts.take q) ∧ RowF wr.heap.size wr2 (.slice (some ⟨gm, 0, none⟩) 1 cm) [(1, 0, (q : Int), ⟨#[]⟩)]) (fun v90 _ => 1 - (intOf v90).toNat)
                        case atStart => exact ⟨0, Nat.zero_le _, rfl, _, _, HB.out, HSB.out, HRB.out⟩
                        case round =>
                          obtain ⟨j, hj, rfl, bs, br, h, hs, hr⟩ := hrel
                          clear HB HSB HRB
                          by_cases hj0 : j = 0
                          · subst hj0
                            obtain ⟨d0, d1, d2, d3⟩ := RowF.f4n hr rfl 0 (by decide)
                            change wr.cell? ⟨gm, 0, none⟩ = some (.int .i64 1) at d0
                            change wr.cell? ⟨gm, 1, none⟩ = some (.int .i64 0) at d1
                            change wr.cell? ⟨gm, 2, none⟩ = some (.int .i64 (q : Int)) at d2
                            change wr.cell? ⟨gm, 3, none⟩ = some (.string ⟨#[]⟩) at d3
                            rw [if_pos rfl] at h
                            have HAH := Lib.hid (pa_hear (x0 := x0) (x1 := x1) (ts := ts) (k := m) (nx := nx2) (f := (1, 0, (q : Int), ⟨#[]⟩)) ⟨rfl, rfl, by show (0 : Nat) ≤ 1000; decide⟩ (by rw [HLN.out]; exact hn2) hmn2)
                            have HAK : Hid (m + ackM m (nx2 - m) (q : Int) = q) := Lib.hid (pe_ack (by have := HM1.out; omega) (by have := HM1.out; have := HD.out; omega))
                            have hbl := Joins.below_alloc1 wr (.cells #[.int .i64 1, .int .i64 0, .int .i64 (q : Int), .string ⟨#[]⟩] 31)
                            have HC := Lib.hid (h.next hbl)
                            have HSC := Lib.hid (hs.below hbl)
                            have HRC := Lib.hid (hr.below hbl)
                            clear h hs hr hbl
                            go_wp2_with fail
                            refine (tq_hearE (f := (1, 0, (q : Int), ⟨#[]⟩)) HAH.out.1 HAH.out.2.1 (by show (0 : Nat) ≤ 1000; decide) (by unfold endA; simp) HC.out).mono ?_
                            rintro e wd ⟨rfl, ⟨bs9, br9, h⟩, ho⟩
                            try simp only at h
                            rw [HAK.out] at h
                            have HD9 := Lib.hid h
                            have HSD := Lib.hid (HSC.out.oth ho)
                            have HRD := Lib.hid (HRC.out.oth ho)
                            clear h ho HC HSC HRC d0 d1 d2 d3 HAH HAK
                            go_wp2
                            go_roundw
                            case rel => exact ⟨1, Nat.le_refl _, rfl, _, _, HD9.out, HSD.out, HRD.out⟩
                            case measure => simp [intOf]
                          · obtain rfl : j = 1 := by omega
                            rw [if_neg hj0] at h
                            have HC := Lib.hid h
                            have HSC := Lib.hid hs
                            clear h hs hr hj0
                            go_wp2
                            go_roundw
                            case rel => exact ⟨r + 1, by omega, by go_num, q, nx2, 1, _, _, _, _, ag, cg, rfl, rfl, HC.out, HSC.out, by have := HM1.out; have := HD.out; omega, hn2, .inl rfl, by have := HM1.out; have := HD.out; have := HR.out; have := HPRO.out; have := HPR.out; omega⟩
                            case measure => simp [intOf]; omega
                  · obtain rfl : m1 = m := by have := HM1.out; omega
                    have HP := Lib.hid (pb_none (x0 := x0) (x1 := x1) (ep := 1) HM1N.out)
                    unfold emp at HP
                    go_wp2_with fail
                    refine (tq_popE HP.out.1 HP.out.2.1 HP.out.2.2 (by unfold endB; simp only [List.length_drop, List.length_take]; rw [HLN.out]; omega) H6.out).mono ?_
                    rintro e w7 ⟨rfl, h, ho⟩
                    have H7 := Lib.hid h
                    have HS7 := Lib.hid (HS6.out.oth ho)
                    clear h ho H6 HS6 HP p5
                    go_wp2_with fail
                    go_loopw [7, 11, 12] (fun v7 v11 v12 wr => ∃ (q : Nat) (he : Bool) (hd : ByteArray) (ag : Option Addr) (cg : Nat), q ≤ m1 ∧ v7 = .slice ag q cg ∧ v11 = .string hd ∧ v12 = .bool he ∧ RowS B0 wr (.slice ag q cg) (ts.take q) ∧ (he = true → q < m1 ∧ hd = ts.getD q emp ∧ Tq B0 w wr c cs cr (endB x0 x1 ts 1 (q + 1) m1) b bs br (endA x0 x1 ts m1 nx2)) ∧ (he = false → q = m1 ∧ Tq B0 w wr c cs cr (endB x0 x1 ts 1 m1 m1) b bs br (endA x0 x1 ts m1 nx2))) (fun v7 _ _ _ => m1 - lenOf v7)
                    case atStart => exact ⟨m1, false, _, ag, cg, Nat.le_refl _, rfl, rfl, rfl, HS7.out, (fun e => by cases e), fun _ => ⟨rfl, H7.out⟩⟩
                    case round =>
                      obtain ⟨q, he, hd, ag, cg, hq, rfl, rfl, rfl, hs, hyes, hno⟩ := hrel
                      clear H7 HS7
                      cases he with
                      | true =>
                        obtain ⟨hlt4, hhd, h⟩ := hyes rfl
                        have HHD := Lib.hid hhd
                        have hq2 : q < ts.length := by have := HM1N.out; omega
                        have HTK := Lib.hid (take_snoc hq2)
                        have hl : (ts.take q).length = q := by rw [List.length_take]; omega
                        have HL := Lib.hid hl
                        have H8 := Lib.hid (h.next (Joins.below_alloc1 wr (.cells #[.string hd] 9)))
                        have HS8 := Lib.hid (hs.alloc (.cells #[.string hd] 9))
                        have hq30 : q ≤ 30 := by rw [HLN.out] at hq2; omega
                        clear hyes hno h hs hhd hq2 hl
                        go_wp2_with (at_builtin; refine wpList_appS1 rfl (.tmp 83) (.tmp 85) rfl B0 ag q cg (ts.take q) HL.out rfl HS8.out _ rfl hd (ssAt_one wr hd) (by omega) H8.out.le ?_; intro a5 c5 w5 hr5 hg5; have H9 := Lib.hid (H8.out.rowS HS8.out hg5); have HS9 := Lib.hid hr5; have p9 := H9.out.t1.c5; clear hr5 hg5 H8 HS8)
                        have HS9 : Hid (RowS B0 w5 (.slice a5 (q + 1) c5) (ts.take (q + 1))) := Lib.hid (by have := HS9.out; rw [HHD.out, ← HTK.out] at this; exact this)
                        by_cases hlt5 : q + 1 < m1
                        · have HP := Lib.hid (pb_pop (x0 := x0) (x1 := x1) (ep := 1) hlt5 HM1N.out)
                          refine (tq_popE HP.out.1 HP.out.2.1 HP.out.2.2 (by unfold endB; simp only [List.length_drop, List.length_take]; rw [HLN.out]; omega) H9.out).mono ?_
                          rintro e wa ⟨rfl, h, ho⟩
                          have HA := Lib.hid h
                          have HSA := Lib.hid (HS9.out.oth ho)
                          clear h ho H9 HS9 HP p9
                          obtain ⟨hd2, hhd2⟩ : ∃ x, ts.getD (q + 1) emp = x := ⟨_, rfl⟩
                          have HHD2 := Lib.hid hhd2
                          rw [hhd2]
                          clear hhd2
                          go_wp2
                          go_roundw
                          case rel => exact ⟨q + 1, true, hd2, a5, c5, by omega, rfl, rfl, rfl, HSA.out, fun _ => ⟨hlt5, HHD2.out.symm, HA.out⟩, (fun e => by cases e)⟩
                          case measure => simp only [lenOf]; omega
                        · obtain rfl : m1 = q + 1 := by omega
                          have HP := Lib.hid (pb_none (x0 := x0) (x1 := x1) (ep := 1) HM1N.out)
                          refine (tq_popE HP.out.1 HP.out.2.1 HP.out.2.2 (by unfold endB; simp only [List.length_drop, List.length_take]; rw [HLN.out]; omega) H9.out).mono ?_
                          rintro e wa ⟨rfl, h, ho⟩
                          have HA := Lib.hid h
                          have HSA := Lib.hid (HS9.out.oth ho)
                          clear h ho H9 HS9 HP p9
                          unfold emp
                          go_wp2
                          go_roundw
                          case rel => exact ⟨q + 1, false, _, a5, c5, by omega, rfl, rfl, rfl, HSA.out, (fun e => by cases e), fun _ => ⟨rfl, HA.out⟩⟩
                          case measure => simp only [lenOf]; omega
                      | false =>
                        obtain ⟨rfl, h⟩ := hno rfl
                        have H8 := Lib.hid h
                        have HS8 := Lib.hid hs
                        clear hyes hno h hs
                        have HF8 := Lib.hid (pb_frames1 (x0 := x0) (x1 := x1) (Nat.le_refl q) HM1N.out)
                        go_wp2_with fail
                        refine (tq_frames (n := 1) HF8.out rfl H8.out).mono ?_
                        rintro e wb ⟨am, cm, rfl, hr, hb, h⟩
                        have HB := Lib.hid h.swap
                        have HSB := Lib.hid (HS8.out.below hb)
                        have HRB := Lib.hid hr
                        clear hr hb h H8 HS8 HF8
                        rcases HRB.out.2 with ⟨hv, h0⟩ | ⟨gm, cap', cur, hv, _⟩
                        · cases h0
                        cases hv
                        go_wp2_with fail
                        go_loopw [90] (fun v90 wr2 => ∃ j : Nat, j ≤ 1 ∧ v90 = .int .i64 j ∧ ∃ bs br, Tq B0 w wr2 b bs br (endA x0 x1 ts (if j = 0 then q else q) nx2) c cs cr (endB x0 x1 ts 1 q q) ∧ RowS B0 wr2 (.slice ag q cg) (ts.take q) ∧ RowF wr.heap.size wr2 (.slice (some ⟨gm, 0, none⟩) 1 cm) [(1, 0, (q : Int), ⟨#[]⟩)]) (fun v90 _ => 1 - (intOf v90).toNat)
                        case atStart => exact ⟨0, Nat.zero_le _, rfl, _, _, HB.out, HSB.out, HRB.out⟩
                        case round =>
                          obtain ⟨j, hj, rfl, bs, br, h, hs, hr⟩ := hrel
                          clear HB HSB HRB
                          by_cases hj0 : j = 0
                          · subst hj0
                            obtain ⟨d0, d1, d2, d3⟩ := RowF.f4n hr rfl 0 (by decide)
                            change wr.cell? ⟨gm, 0, none⟩ = some (.int .i64 1) at d0
                            change wr.cell? ⟨gm, 1, none⟩ = some (.int .i64 0) at d1
                            change wr.cell? ⟨gm, 2, none⟩ = some (.int .i64 (q : Int)) at d2
                            change wr.cell? ⟨gm, 3, none⟩ = some (.string ⟨#[]⟩) at d3
                            rw [if_pos rfl] at h
                            have HAH := Lib.hid (pa_hear (x0 := x0) (x1 := x1) (ts := ts) (k := q) (nx := nx2) (f := (1, 0, (q : Int), ⟨#[]⟩)) ⟨rfl, rfl, by show (0 : Nat) ≤ 1000; decide⟩ (by rw [HLN.out]; exact hn2) hmn2)
                            have HAK : Hid (q + ackM q (nx2 - q) (q : Int) = q) := Lib.hid (pe_ack (by have := HM1.out; omega) (by have := HM1.out; have := HD.out; omega))
                            have hbl := Joins.below_alloc1 wr (.cells #[.int .i64 1, .int .i64 0, .int .i64 (q : Int), .string ⟨#[]⟩] 31)
                            have HC := Lib.hid (h.next hbl)
                            have HSC := Lib.hid (hs.below hbl)
                            have HRC := Lib.hid (hr.below hbl)
                            clear h hs hr hbl
                            go_wp2_with fail
                            refine (tq_hearE (f := (1, 0, (q : Int), ⟨#[]⟩)) HAH.out.1 HAH.out.2.1 (by show (0 : Nat) ≤ 1000; decide) (by unfold endA; simp) HC.out).mono ?_
                            rintro e wd ⟨rfl, ⟨bs9, br9, h⟩, ho⟩
                            try simp only at h
                            rw [HAK.out] at h
                            have HD9 := Lib.hid h
                            have HSD := Lib.hid (HSC.out.oth ho)
                            have HRD := Lib.hid (HRC.out.oth ho)
                            clear h ho HC HSC HRC d0 d1 d2 d3 HAH HAK
                            go_wp2
                            go_roundw
                            case rel => exact ⟨1, Nat.le_refl _, rfl, _, _, HD9.out, HSD.out, HRD.out⟩
                            case measure => simp [intOf]
                          · obtain rfl : j = 1 := by omega
                            rw [if_neg hj0] at h
                            have HC := Lib.hid h
                            have HSC := Lib.hid hs
                            clear h hs hr hj0
                            go_wp2
                            go_roundw
                            case rel => exact ⟨r + 1, by omega, by go_num, q, nx2, 1, _, _, _, _, ag, cg, rfl, rfl, HC.out, HSC.out, by have := HM1.out; have := HD.out; omega, hn2, .inl rfl, by have := HM1.out; have := HD.out; have := HR.out; have := HPRO.out; have := HPR.out; omega⟩
                            case measure => simp [intOf]; omega
        · have hm : m = len := by have := HPRO.out; omega
          subst hm
          obtain rfl : nx = m := by omega
          have H3 := Lib.hid h
          have hts : ts.take nx = ts := List.take_of_length_le (by rw [HLN.out]; exact Nat.le_refl _)
          rw [hts] at hs
          have HS3 := Lib.hid hs
          clear h hs hts
          go_wp2_with fail
          refine (same_yes _ _ nx _ _ ts (by omega) _ (HS3.out.isS HLN.out.symm).1 (ssAt_below HI.out H3.out.bel (Nat.le_of_eq HB0.out))).mono ?_
          rintro e w5 ⟨rfl, e1, e2, e3, e4⟩
          have H5 := Lib.hid (H3.out.asit e1 e2 e3 e4)
          have p4 := H5.out.t1.c4
          clear e1 e2 e3 e4 H3 HS3
          go_wp2_with fail
          refine (tu_unack (n := 0) (by show ((ts.take nx).drop nx).length = 0; rw [ds_len (by rw [HLN.out]; exact Nat.le_refl _)]; omega) _ H5.out.t1).mono ?_
          rintro e w6 ⟨rfl, rfl⟩
          go_wp2
          go_ret
          exact ⟨rfl, by rw [HB0.out]; exact H5.out.bel⟩
    exact AllReadyH.nil
  exact AllReadyH.nil
end Go.Proofs.Ytclobdejlihblaa
