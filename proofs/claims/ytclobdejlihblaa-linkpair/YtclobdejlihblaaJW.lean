/- LinkPair. -/
import Derived.Test.YtclobdejlihblaaJU
import Derived.Test.YtclobdejlihblaaJF
import Derived.Deep.CutRange
namespace Go.Proofs.Ytclobdejlihblaa
open Go Go.RowKit
set_option maxRecDepth 20000
theorem wpList_appFs {ops : Array Oper} {rest : List Oper} {o : Oper} {a : Act} {Q : Exit → Act → World → Prop} {w : World} (hgd : o.guard = none) (s x : Operand)
    (ho : o.op = .call { callee := .builtin .append, args := #[s, x], argTypes := #[54, 54] })
    (B : Nat) (ao : Option Addr) (n co : Nat) (l : List Fra) (hln : l.length = n) (hs : a.eval s = .slice ao n co) (hrow : RowF B w (.slice ao n co) l) (ax : Option Addr) (len cx : Nat) (hx : a.eval x = .slice ax len cx) (us : List Fra) (hu : FsAt w ax len us) (hc : len ≤ cx) (hn : ax = none → cx = 0) (sm : Nat) (hsm : n + len = sm) (hb : sm ≤ 100000) (hB : B ≤ w.heap.size)
    (h : ∀ a' c' w', RowF B w' (.slice a' sm c') (l ++ us) → w.grownBy w' (Value.slice ao n co).ownBlock → ((Value.slice a' sm c').ownBlock = (Value.slice ao n co).ownBlock ∨ (Value.slice a' sm c').ownBlock = some w.heap.size) → wpList Try.prog ops Q rest (a.put o.dst (.slice a' sm c')) w') :
    wpList Try.prog ops Q (o :: rest) a w := by
  subst hln hsm
  exact wpList_appF hgd s x ho B _ l hs hrow ax len cx hx us hu hc hn (by omega) hB h
/-- The rows of a law over a road. -/
structure RW (B0 : Nat) (wr : World) (x0 x1 : Int) (a1 : Option Addr) (n1 c1 : Nat) (TH : List Fra) (a2 : Option Addr) (n2 c2 : Nat) (BK : List Fra) (ag : Option Addr) (q cg : Nat) (l : List ByteArray) : Prop where
  th : RowF B0 wr (.slice a1 n1 c1) TH
  bk : RowF B0 wr (.slice a2 n2 c2) BK
  got : RowS B0 wr (.slice ag q cg) l
  ne : ∀ j, (Value.slice a1 n1 c1).ownBlock = some j → (Value.slice a2 n2 c2).ownBlock ≠ some j
  box : wr.heap[B0]? = some (.cells #[.int .i64 x0, .int .i64 x1] 57 (0, 0))
section
variable {B0 : Nat} {wr w' : World} {x0 x1 : Int} {a1 a2 ag a' : Option Addr} {n1 c1 n2 c2 q cg n' c' : Nat} {TH BK TH' : List Fra} {l l' : List ByteArray}
theorem RW.oth (h : RW B0 wr x0 x1 a1 n1 c1 TH a2 n2 c2 BK ag q cg l) (ho : OthL wr w') : RW B0 w' x0 x1 a1 n1 c1 TH a2 n2 c2 BK ag q cg l :=
  ⟨h.th.oth ho, h.bk.oth ho, h.got.oth ho, h.ne, (ho _ _ _ _ h.box (by decide) (by decide) (by decide) (by decide)).trans h.box⟩
theorem RW.next (h : RW B0 wr x0 x1 a1 n1 c1 TH a2 n2 c2 BK ag q cg l) (hb : Below wr.heap.size wr w') : RW B0 w' x0 x1 a1 n1 c1 TH a2 n2 c2 BK ag q cg l := h.oth (OthL.ofBelow hb)
theorem rowF_not {v : Value} {fs : List Fra} {X : Nat} {cur : Array Value} {t : TypeId} (h : RowF B0 wr v fs) (hX : wr.heap[X]? = some (.cells cur t (0, 0))) (ht : t ≠ 31) : some X ≠ v.ownBlock := fun e => by
  obtain ⟨c, hc⟩ := h.typ X e.symm
  exact two_types hX hc ht rfl
theorem rowS_not {v : Value} {fs : List ByteArray} {X : Nat} {cur : Array Value} {t : TypeId} (h : RowS B0 wr v fs) (hX : wr.heap[X]? = some (.cells cur t (0, 0))) (ht : t ≠ 9) : some X ≠ v.ownBlock := fun e => by
  obtain ⟨c, hc⟩ := h.typ X e.symm
  exact two_types hX hc ht rfl
theorem lt_of_blk {X : Nat} {o : Obj} (h : wr.heap[X]? = some o) : X < wr.heap.size := (Array.getElem?_eq_some_iff.1 h).1
theorem keptF {v u : Value} {fs : List Fra} (h : RowF B0 wr v fs) (hg : wr.grownBy w' u.ownBlock) (hne : ∀ j, v.ownBlock = some j → u.ownBlock ≠ some j) : RowF B0 w' v fs := h.same fun j hj => hg.block j (h.lt j hj).2 (fun e => hne j hj e.symm)
theorem keptS {v u : Value} {fs : List ByteArray} (h : RowS B0 wr v fs) (hg : wr.grownBy w' u.ownBlock) (hne : ∀ j, v.ownBlock = some j → u.ownBlock ≠ some j) : RowS B0 w' v fs := h.same fun j hj => hg.block j (h.lt j hj).2 (fun e => hne j hj e.symm)
theorem neFS {v u : Value} {fs : List Fra} {ts : List ByteArray} (h : RowF B0 wr v fs) (k : RowS B0 wr u ts) : ∀ j, u.ownBlock = some j → v.ownBlock ≠ some j := fun j hj hv => by
  obtain ⟨c, hc⟩ := h.typ j hv
  obtain ⟨c', hc'⟩ := k.typ j hj
  exact two_types hc hc' (by decide) rfl
theorem neSF {v u : Value} {fs : List Fra} {ts : List ByteArray} (h : RowF B0 wr v fs) (k : RowS B0 wr u ts) : ∀ j, v.ownBlock = some j → u.ownBlock ≠ some j := fun j hj hv => neFS h k j hv hj
/-- What is on its way there grows. -/
theorem RW.appT (h : RW B0 wr x0 x1 a1 n1 c1 TH a2 n2 c2 BK ag q cg l) (hr : RowF B0 w' (.slice a' n' c') TH') (hg : wr.grownBy w' (Value.slice a1 n1 c1).ownBlock) (ho : (Value.slice a' n' c').ownBlock = (Value.slice a1 n1 c1).ownBlock ∨ (Value.slice a' n' c').ownBlock = some wr.heap.size) : RW B0 w' x0 x1 a' n' c' TH' a2 n2 c2 BK ag q cg l :=
  ⟨hr, keptF h.bk hg (fun j hj hk => h.ne j hk hj), keptS h.got hg (neFS h.th h.got), fun j hj hk => by
    rcases ho with ho | ho
    · exact h.ne j (ho ▸ hj) hk
    · rw [ho] at hj
      cases hj
      have := (h.bk.lt _ hk).2
      omega, (hg.block _ (lt_of_blk h.box) (rowF_not h.th h.box (by decide))).trans h.box⟩
/-- What is on its way back grows. -/
theorem RW.appB (h : RW B0 wr x0 x1 a1 n1 c1 TH a2 n2 c2 BK ag q cg l) (hr : RowF B0 w' (.slice a' n' c') TH') (hg : wr.grownBy w' (Value.slice a2 n2 c2).ownBlock) (ho : (Value.slice a' n' c').ownBlock = (Value.slice a2 n2 c2).ownBlock ∨ (Value.slice a' n' c').ownBlock = some wr.heap.size) : RW B0 w' x0 x1 a1 n1 c1 TH a' n' c' TH' ag q cg l :=
  ⟨keptF h.th hg (fun j hj hk => h.ne j hj hk), hr, keptS h.got hg (neFS h.bk h.got), fun j hj hk => by
    rcases ho with ho | ho
    · exact h.ne j hj (ho ▸ hk)
    · rw [ho] at hk
      cases hk
      have := (h.th.lt _ hj).2
      omega, (hg.block _ (lt_of_blk h.box) (rowF_not h.bk h.box (by decide))).trans h.box⟩
/-- What was popped grows. -/
theorem RW.appS (h : RW B0 wr x0 x1 a1 n1 c1 TH a2 n2 c2 BK ag q cg l) (hr : RowS B0 w' (.slice a' n' c') l') (hg : wr.grownBy w' (Value.slice ag q cg).ownBlock) : RW B0 w' x0 x1 a1 n1 c1 TH a2 n2 c2 BK a' n' c' l' :=
  ⟨keptF h.th hg (neSF h.th h.got), keptF h.bk hg (neSF h.bk h.got), hr, h.ne, (hg.block _ (lt_of_blk h.box) (rowS_not h.got h.box (by decide))).trans h.box⟩
end
theorem pb_back {x0 x1 : Int} {ts : List ByteArray} {ep : Int} {q m : Nat} (hp : PB ts ep q m) : ∀ f ∈ (endB x0 x1 ts ep q m).frames, backOk f := fun f hf => by
  rcases pb_frames f hf with h | h
  · exact h
  · rcases hp.2.2 with e | ⟨rfl, _⟩
    · exact absurd e h
    · rw [pb_frames0] at hf
      cases hf
theorem pb_fewf {x0 x1 : Int} {ts : List ByteArray} {ep : Int} {q m : Nat} : (endB x0 x1 ts ep q m).frames.length ≤ 1 := by
  unfold En.frames
  split
  · simp
  · rw [if_pos (show (endB x0 x1 ts ep q m).ds.length = 0 from rfl)]
    simp
theorem pb_q {x0 x1 : Int} {ts : List ByteArray} {ep : Int} {q m : Nat} (hp : PB ts ep q m) : (endB x0 x1 ts ep q m).q + (endB x0 x1 ts ep q m).ps.length ≤ ts.length := by
  obtain ⟨h1, h2, _⟩ := hp
  unfold endB
  simp only [ds_len h2]
  omega
theorem all_app {p : Fra → Prop} {l m : List Fra} (h : ∀ f ∈ l, p f) (k : ∀ f ∈ m, p f) : ∀ f ∈ l ++ m, p f := fun f hf => (List.mem_append.1 hf).elim (h f) (k f)
theorem fra_mem {l : List Fra} {i : Nat} (hi : i < l.length) : l.getD i fr0 ∈ l := by
  have e : l.getD i fr0 = l[i] := by simp [List.getD_eq_getElem?_getD, hi]
  rw [e]; exact List.getElem_mem _
theorem ssAt_front {w : World} {a : Option Addr} {len : Nat} {ts : List ByteArray} (h : SsAt w a len ts) {q : Nat} (hq : q ≤ len) : SsAt w a q (ts.take q) := by
  have hs := h.size
  refine ⟨by rw [List.length_take]; omega, fun h0 => ?_⟩
  obtain ⟨b, off, e, hl, hf⟩ := h.lies (by omega)
  refine ⟨b, off, e, hl, fun i hi => ?_⟩
  rw [List.length_take] at hi
  rw [hf i (by omega)]
  simp only [List.getD_eq_getElem?_getD, List.getElem?_take]
  rw [if_pos (by omega)]
theorem pb_pop_any {x0 x1 : Int} {ts : List ByteArray} {ep : Int} {q m : Nat} (hp : PB ts ep q m) : ∃ hd he, (endB x0 x1 ts ep q m).ps.headD emp = hd ∧ (!(endB x0 x1 ts ep q m).ps.isEmpty) = he ∧ (he = true → q < m ∧ hd = ts.getD q emp ∧ (endB x0 x1 ts ep q m).pop = endB x0 x1 ts ep (q + 1) m) ∧ (he = false → q = m ∧ (endB x0 x1 ts ep q m).pop = endB x0 x1 ts ep m m) := by
  obtain ⟨h1, h2, _⟩ := hp
  rcases Nat.lt_or_ge q m with h | h
  · obtain ⟨e1, e2, e3⟩ := pb_pop (x0 := x0) (x1 := x1) (ts := ts) (ep := ep) h h2
    exact ⟨_, _, e2, e3, fun _ => ⟨h, rfl, e1⟩, (fun e => by cases e)⟩
  · obtain rfl : q = m := by omega
    obtain ⟨e1, e2, e3⟩ := pb_none (x0 := x0) (x1 := x1) (ts := ts) (ep := ep) h2
    exact ⟨_, _, e2, e3, (fun e => by cases e), fun _ => ⟨rfl, e1⟩⟩
theorem mem_getD {ts : List ByteArray} {d : ByteArray} (h : d ∈ ts) : ∃ j, j < ts.length ∧ ts.getD j emp = d := by
  obtain ⟨j, hj, rfl⟩ := List.getElem_of_mem h
  exact ⟨j, hj, by simp [List.getD_eq_getElem?_getD, hj]⟩
theorem pair_div (p : Int) (h : 0 ≤ p) : p.tdiv 2 = p / 2 := Int.tdiv_eq_ediv_of_nonneg h
theorem pair_w (p : Int) (h0 : 0 ≤ p) (h1 : p ≤ 65535) : wrap64 (IntKind.u16.wrap (p.tdiv 2)) = p.tdiv 2 := by
  have e : IntKind.u16.wrap (p.tdiv 2) = p.tdiv 2 := by
    rw [pair_div p h0]
    simp only [IntKind.wrap, IntKind.bits, IntKind.signed]
    simp
    omega
  rw [e, pair_div p h0]; unfold wrap64; omega
theorem pair_ix (p : Int) (h0 : 0 ≤ p) (_h1 : p ≤ 65535) (n : Nat) (hn : 0 < n) : ∃ J : Nat, J < n ∧ (p.tdiv 2).tmod (n : Int) = (J : Int) := by
  rw [pair_div p h0, Int.tmod_eq_emod_of_nonneg (by omega)]
  have h1 := Int.emod_nonneg (p / 2) (show (n : Int) ≠ 0 by omega)
  have h2 := Int.emod_lt_of_pos (p / 2) (show (0 : Int) < (n : Int) by omega)
  exact ⟨((p / 2) % (n : Int)).toNat, by omega, by omega⟩
set_option maxHeartbeats 8000000 in
theorem pair_long (x0 x1 : Int) (a : Option Addr) (len cap : Nat) (ts : List ByteArray) (a9 : Option Addr) (len2 cap2 : Nat) (hc : 30 < len) (w : World) :
    Calls Try.prog 4 #[.agg #[.int .i64 x0, .int .i64 x1], .slice a len cap, .slice a9 len2 cap2] w fun e w' => e = .returned (.bool true) ∧ Below w.heap.size w w' := by
  have k1 : decide ((30 : Int) < (len : Int)) = true := decide_eq_true (by omega)
  have hx : (w.alloc (.cells #[.int .i64 x0, .int .i64 x1] 57)).heap[w.heap.size]? = some (.cells #[.int .i64 x0, .int .i64 x1] 57 (0, 0)) := heap_alloc_new w _
  have HW := Lib.hid (Joins.below_alloc1 w (.cells #[.int .i64 x0, .int .i64 x1] 57))
  have hsz : (w.alloc (.cells #[.int .i64 x0, .int .i64 x1] 57)).heap.size = w.heap.size + 1 := by simp
  go_enter Try.func4, Try.ntmps4
  go_wp2_with fail
  obtain ⟨W0, hW0⟩ : ∃ W, w.alloc (.cells #[.int .i64 x0, .int .i64 x1] 57) = W := ⟨_, rfl⟩
  rw [hW0] at hx HW hsz ⊢
  clear hW0
  generalize hB0 : w.heap.size = B0 at *
  have HB0 := Lib.hid hB0
  have HX := Lib.hid hx
  have HSZ := Lib.hid hsz
  have z0 : W0.cell? ⟨B0, 0, none⟩ = some (.int .i64 x0) := cell_at hx 0 _ rfl
  have z1 : W0.cell? ⟨B0, 1, none⟩ = some (.int .i64 x1) := cell_at hx 1 _ rfl
  clear hx hB0 hsz
  go_wp2_with fail
  refine wp_region_held_drew (S := fun w' => w'.cell? ⟨B0, 0, none⟩ = some (.int .i64 x0) ∧ w'.cell? ⟨B0, 1, none⟩ = some (.int .i64 x1)) (by kernel_rfl) ?_ (fun hH => ?_)
  · exact ⟨z0, z1⟩
  refine wpAnyH_take (i := 0) (oi := { dst := some 19, op := Go.Op.indexAddr 57 (Go.Operand.tmp 3) (Go.Operand.const (Go.Value.int Go.IntKind.i64 0)), type := 0, pos := "law.go:85", after := #[], guard := none }) (v := ?_) rfl (by kernel_rfl) (by kernel_rfl) (by kernel_rfl) (fun _ _ _ h => h) (Or.inl ⟨by rfl, ?_⟩) (by assumption) ?_
  rotate_left
  · intro w hSw
    try dsimp only at hSw
    obtain ⟨q0, q1⟩ := hSw
    go_simp
    all_goals with_reducible rfl
  try simp only [Act.put, List.setIfInBounds_toArray, List.set_cons_zero, List.set_cons_succ]
  refine wpAnyH_take (i := 1) (oi := { dst := some 20, op := Go.Op.load 3 (Go.Operand.tmp 19), type := 3, pos := "law.go:85", after := #[{ on := 0, ground := Go.Ground.data }], guard := none }) (v := ?_) rfl (by kernel_rfl) (by kernel_rfl) (by kernel_rfl) (fun _ _ _ h => h) (Or.inl ⟨by rfl, ?_⟩) (by assumption) ?_
  rotate_left
  · intro w hSw
    try dsimp only at hSw
    obtain ⟨q0, q1⟩ := hSw
    go_simp
    all_goals with_reducible rfl
  try simp only [Act.put, List.setIfInBounds_toArray, List.set_cons_zero, List.set_cons_succ]
  refine wpAnyH_take (i := 2) (oi := { dst := some 21, op := Go.Op.indexAddr 57 (Go.Operand.tmp 3) (Go.Operand.const (Go.Value.int Go.IntKind.i64 1)), type := 0, pos := "law.go:85", after := #[], guard := none }) (v := ?_) rfl (by kernel_rfl) (by kernel_rfl) (by kernel_rfl) (fun _ _ _ h => h) (Or.inl ⟨by rfl, ?_⟩) (by assumption) ?_
  rotate_left
  · intro w hSw
    try dsimp only at hSw
    obtain ⟨q0, q1⟩ := hSw
    go_simp
    all_goals with_reducible rfl
  try simp only [Act.put, List.setIfInBounds_toArray, List.set_cons_zero, List.set_cons_succ]
  refine wpAnyH_take (i := 3) (oi := { dst := some 22, op := Go.Op.load 3 (Go.Operand.tmp 21), type := 3, pos := "law.go:85", after := #[{ on := 2, ground := Go.Ground.data }], guard := none }) (v := ?_) rfl (by kernel_rfl) (by kernel_rfl) (by kernel_rfl) (fun _ _ _ h => h) (Or.inl ⟨by rfl, ?_⟩) (by assumption) ?_
  rotate_left
  · intro w hSw
    try dsimp only at hSw
    obtain ⟨q0, q1⟩ := hSw
    go_simp
    all_goals with_reducible rfl
  try simp only [Act.put, List.setIfInBounds_toArray, List.set_cons_zero, List.set_cons_succ]
  refine wpAnyH_take (i := 5) (oi := { dst := some 24, op := Go.Op.indexAddr 57 (Go.Operand.tmp 3) (Go.Operand.const (Go.Value.int Go.IntKind.i64 0)), type := 0, pos := "law.go:85", after := #[], guard := none }) (v := ?_) rfl (by kernel_rfl) (by kernel_rfl) (by kernel_rfl) (fun _ _ _ h => h) (Or.inl ⟨by rfl, ?_⟩) (by assumption) ?_
  rotate_left
  · intro w hSw
    try dsimp only at hSw
    obtain ⟨q0, q1⟩ := hSw
    go_simp
    all_goals with_reducible rfl
  try simp only [Act.put, List.setIfInBounds_toArray, List.set_cons_zero, List.set_cons_succ]
  refine wpAnyH_take (i := 6) (oi := { dst := some 25, op := Go.Op.load 3 (Go.Operand.tmp 24), type := 3, pos := "law.go:85", after := #[{ on := 5, ground := Go.Ground.data }], guard := none }) (v := ?_) rfl (by kernel_rfl) (by kernel_rfl) (by kernel_rfl) (fun _ _ _ h => h) (Or.inl ⟨by rfl, ?_⟩) (by assumption) ?_
  rotate_left
  · intro w hSw
    try dsimp only at hSw
    obtain ⟨q0, q1⟩ := hSw
    go_simp
    all_goals with_reducible rfl
  try simp only [Act.put, List.setIfInBounds_toArray, List.set_cons_zero, List.set_cons_succ]
  refine wpAnyH_take (i := 7) (oi := { dst := some 26, op := Go.Op.indexAddr 57 (Go.Operand.tmp 3) (Go.Operand.const (Go.Value.int Go.IntKind.i64 1)), type := 0, pos := "law.go:85", after := #[], guard := none }) (v := ?_) rfl (by kernel_rfl) (by kernel_rfl) (by kernel_rfl) (fun _ _ _ h => h) (Or.inl ⟨by rfl, ?_⟩) (by assumption) ?_
  rotate_left
  · intro w hSw
    try dsimp only at hSw
    obtain ⟨q0, q1⟩ := hSw
    go_simp
    all_goals with_reducible rfl
  try simp only [Act.put, List.setIfInBounds_toArray, List.set_cons_zero, List.set_cons_succ]
  refine wpAnyH_take (i := 8) (oi := { dst := some 27, op := Go.Op.load 3 (Go.Operand.tmp 26), type := 3, pos := "law.go:85", after := #[{ on := 7, ground := Go.Ground.data }], guard := none }) (v := ?_) rfl (by kernel_rfl) (by kernel_rfl) (by kernel_rfl) (fun _ _ _ h => h) (Or.inl ⟨by rfl, ?_⟩) (by assumption) ?_
  rotate_left
  · intro w hSw
    try dsimp only at hSw
    obtain ⟨q0, q1⟩ := hSw
    go_simp
    all_goals with_reducible rfl
  try simp only [Act.put, List.setIfInBounds_toArray, List.set_cons_zero, List.set_cons_succ]
  refine wpAnyH_ready (rs := [4]) (by kernel_rfl) (by simp) ?_
  refine AllReadyH.cons (o := { dst := some 23, op := Go.Op.call { callee := Go.Callee.value (Go.Operand.func 9), args := #[Go.Operand.const (Go.Value.int Go.IntKind.i64 1), Go.Operand.tmp 20, Go.Operand.tmp 22, Go.Operand.const (Go.Value.bool false)], argTypes := #[3, 3, 3, 4] }, type := 24, pos := "law.go:85", after := #[{ on := 1, ground := Go.Ground.data }, { on := 3, ground := Go.Ground.data }], guard := none }) rfl (fun K hK => ?_) ?_
  · go_simp
    refine (tu_new (B := B0) (w0 := w) (w := W0.drew) 1 x0 x1 false HW.out.drew (by have := HSZ.out; show B0 ≤ W0.heap.size; omega)).mono ?_
    rintro e w1 ⟨rfl, ⟨bs, br, h⟩, hb⟩
    have hx1 := (hb.block B0 (by show B0 < W0.heap.size; rw [HSZ.out]; omega)).trans HX.out
    have d0 : w1.cell? ⟨B0, 0, none⟩ = some (.int .i64 x0) := cell_at hx1 0 _ rfl
    have d1 : w1.cell? ⟨B0, 1, none⟩ = some (.int .i64 x1) := cell_at hx1 1 _ rfl
    have HX1 := Lib.hid hx1
    have H1 : Hid (Tu B0 w w1 W0.heap.size bs br (endA x0 x1 ts 0 0)) := Lib.hid h
    clear h hb hx1
    go_wp2_with fail
    refine hK.out _ _ ?_ (fun hH => ?_)
    · exact ⟨d0, d1⟩
    clear hK K
    try simp only [Act.put, List.setIfInBounds_toArray, List.set_cons_zero, List.set_cons_succ]
    refine wpAnyH_ready (rs := [9]) (by kernel_rfl) (by simp) ?_
    refine AllReadyH.cons (o := { dst := some 28, op := Go.Op.call { callee := Go.Callee.value (Go.Operand.func 9), args := #[Go.Operand.const (Go.Value.int Go.IntKind.i64 0), Go.Operand.tmp 25, Go.Operand.tmp 27, Go.Operand.const (Go.Value.bool true)], argTypes := #[3, 3, 3, 4] }, type := 24, pos := "law.go:85", after := #[{ on := 6, ground := Go.Ground.data }, { on := 8, ground := Go.Ground.data }, { on := 4, ground := Go.Ground.chain }], guard := none }) rfl (fun K hK => ?_) ?_
    · go_simp
      refine (tq_new 0 x0 x1 true H1.out).mono ?_
      rintro e w2 ⟨rfl, ⟨cs, cr, h⟩, hb⟩
      have hx2 := (hb.block B0 (Array.getElem?_eq_some_iff.1 HX1.out).1).trans HX1.out
      have g0 : w2.cell? ⟨B0, 0, none⟩ = some (.int .i64 x0) := cell_at hx2 0 _ rfl
      have g1 : w2.cell? ⟨B0, 1, none⟩ = some (.int .i64 x1) := cell_at hx2 1 _ rfl
      have HX2 := Lib.hid hx2
      have H2 : Hid (Tq B0 w w2 W0.heap.size bs br (endA x0 x1 ts 0 0) w1.heap.size cs cr (endB x0 x1 ts 0 0 0)) := Lib.hid h
      clear h hb hx2
      go_wp2_with fail
      refine hK.out _ _ ?_ (fun hH => ?_)
      · exact ⟨g0, g1⟩
      clear hK K
      try simp only [Act.put, List.setIfInBounds_toArray, List.set_cons_zero, List.set_cons_succ]
      refine wpAnyH_take (i := 10) (oi := { dst := some 7, op := Go.Op.assign (Go.Operand.tmp 23), type := 24, pos := "law.go:85", after := #[{ on := 4, ground := Go.Ground.data }, { on := 9, ground := Go.Ground.chain }, { on := 0, ground := Go.Ground.phase }, { on := 1, ground := Go.Ground.phase }, { on := 2, ground := Go.Ground.phase }, { on := 3, ground := Go.Ground.phase }, { on := 4, ground := Go.Ground.phase }, { on := 5, ground := Go.Ground.textOnly Go.Departure.lateStores }, { on := 6, ground := Go.Ground.textOnly Go.Departure.lateStores }, { on := 7, ground := Go.Ground.textOnly Go.Departure.lateStores }, { on := 8, ground := Go.Ground.textOnly Go.Departure.lateStores }, { on := 9, ground := Go.Ground.textOnly Go.Departure.lateStoresUnsure }], guard := none }) (v := ?_) rfl (by kernel_rfl) (by kernel_rfl) (by kernel_rfl) (fun _ _ _ h => h) (Or.inl ⟨by rfl, ?_⟩) (by assumption) ?_
      rotate_left
      · intro w hSw
        try dsimp only at hSw
        obtain ⟨q0, q1⟩ := hSw
        go_simp
        all_goals with_reducible rfl
      try simp only [Act.put, List.setIfInBounds_toArray, List.set_cons_zero, List.set_cons_succ]
      refine wpAnyH_take (i := 11) (oi := { dst := some 8, op := Go.Op.assign (Go.Operand.tmp 28), type := 24, pos := "law.go:85", after := #[{ on := 9, ground := Go.Ground.data }, { on := 10, ground := Go.Ground.chain }, { on := 0, ground := Go.Ground.phase }, { on := 1, ground := Go.Ground.phase }, { on := 2, ground := Go.Ground.phase }, { on := 3, ground := Go.Ground.phase }, { on := 4, ground := Go.Ground.phase }, { on := 5, ground := Go.Ground.phase }, { on := 6, ground := Go.Ground.phase }, { on := 7, ground := Go.Ground.phase }, { on := 8, ground := Go.Ground.phase }, { on := 9, ground := Go.Ground.phase }, { on := 10, ground := Go.Ground.phase }], guard := none }) (v := ?_) rfl (by kernel_rfl) (by kernel_rfl) (by kernel_rfl) (fun _ _ _ h => h) (Or.inl ⟨by rfl, ?_⟩) (by assumption) ?_
      rotate_left
      · intro w hSw
        try dsimp only at hSw
        obtain ⟨q0, q1⟩ := hSw
        go_simp
        all_goals with_reducible rfl
      try simp only [Act.put, List.setIfInBounds_toArray, List.set_cons_zero, List.set_cons_succ]
      refine wpAnyH_done (by kernel_rfl) ?_ _
      clear d0 d1 z0 z1 g0 g1 HX1
      have HSZ3 := Lib.hid (show W0.heap.size = W0.heap.size from rfl)
      generalize W0.heap.size = b at *
      generalize w1.heap.size = c at *
      go_wp2_with fail
      refine (awake_yes _).mono ?_
      rintro e w3 ⟨rfl, hb⟩
      have H3 := Lib.hid (H2.out.next hb)
      have HX3 : Hid (w3.heap[B0]? = some (.cells #[.int .i64 x0, .int .i64 x1] 57 (0, 0))) := Lib.hid ((hb.block B0 (Array.getElem?_eq_some_iff.1 HX2.out).1).trans HX2.out)
      clear hb H2 HX2
      go_wp2_with fail
      refine (awake_yes _).mono ?_
      rintro e w4 ⟨rfl, hb⟩
      have H4 := Lib.hid (H3.out.next hb)
      clear hb H3 HX3
      go_wp2
      go_ret
      exact ⟨rfl, by rw [HB0.out]; exact H4.out.bel⟩
    exact AllReadyH.nil
  exact AllReadyH.nil
set_option maxHeartbeats 8000000 in
theorem pair_many (x0 x1 : Int) (a : Option Addr) (len cap : Nat) (ts : List ByteArray) (a9 : Option Addr) (len2 cap2 : Nat) (hc : ¬ 30 < len) (hc2 : 200 < len2) (w : World) :
    Calls Try.prog 4 #[.agg #[.int .i64 x0, .int .i64 x1], .slice a len cap, .slice a9 len2 cap2] w fun e w' => e = .returned (.bool true) ∧ Below w.heap.size w w' := by
  have k1 : decide ((30 : Int) < (len : Int)) = false := decide_eq_false (by omega)
  have k2 : decide ((200 : Int) < (len2 : Int)) = true := decide_eq_true (by omega)
  have hx : (w.alloc (.cells #[.int .i64 x0, .int .i64 x1] 57)).heap[w.heap.size]? = some (.cells #[.int .i64 x0, .int .i64 x1] 57 (0, 0)) := heap_alloc_new w _
  have HW := Lib.hid (Joins.below_alloc1 w (.cells #[.int .i64 x0, .int .i64 x1] 57))
  have hsz : (w.alloc (.cells #[.int .i64 x0, .int .i64 x1] 57)).heap.size = w.heap.size + 1 := by simp
  go_enter Try.func4, Try.ntmps4
  go_wp2_with fail
  obtain ⟨W0, hW0⟩ : ∃ W, w.alloc (.cells #[.int .i64 x0, .int .i64 x1] 57) = W := ⟨_, rfl⟩
  rw [hW0] at hx HW hsz ⊢
  clear hW0
  generalize hB0 : w.heap.size = B0 at *
  have HB0 := Lib.hid hB0
  have HX := Lib.hid hx
  have HSZ := Lib.hid hsz
  have z0 : W0.cell? ⟨B0, 0, none⟩ = some (.int .i64 x0) := cell_at hx 0 _ rfl
  have z1 : W0.cell? ⟨B0, 1, none⟩ = some (.int .i64 x1) := cell_at hx 1 _ rfl
  clear hx hB0 hsz
  go_wp2_with fail
  refine wp_region_held_drew (S := fun w' => w'.cell? ⟨B0, 0, none⟩ = some (.int .i64 x0) ∧ w'.cell? ⟨B0, 1, none⟩ = some (.int .i64 x1)) (by kernel_rfl) ?_ (fun hH => ?_)
  · exact ⟨z0, z1⟩
  refine wpAnyH_take (i := 0) (oi := { dst := some 19, op := Go.Op.indexAddr 57 (Go.Operand.tmp 3) (Go.Operand.const (Go.Value.int Go.IntKind.i64 0)), type := 0, pos := "law.go:85", after := #[], guard := none }) (v := ?_) rfl (by kernel_rfl) (by kernel_rfl) (by kernel_rfl) (fun _ _ _ h => h) (Or.inl ⟨by rfl, ?_⟩) (by assumption) ?_
  rotate_left
  · intro w hSw
    try dsimp only at hSw
    obtain ⟨q0, q1⟩ := hSw
    go_simp
    all_goals with_reducible rfl
  try simp only [Act.put, List.setIfInBounds_toArray, List.set_cons_zero, List.set_cons_succ]
  refine wpAnyH_take (i := 1) (oi := { dst := some 20, op := Go.Op.load 3 (Go.Operand.tmp 19), type := 3, pos := "law.go:85", after := #[{ on := 0, ground := Go.Ground.data }], guard := none }) (v := ?_) rfl (by kernel_rfl) (by kernel_rfl) (by kernel_rfl) (fun _ _ _ h => h) (Or.inl ⟨by rfl, ?_⟩) (by assumption) ?_
  rotate_left
  · intro w hSw
    try dsimp only at hSw
    obtain ⟨q0, q1⟩ := hSw
    go_simp
    all_goals with_reducible rfl
  try simp only [Act.put, List.setIfInBounds_toArray, List.set_cons_zero, List.set_cons_succ]
  refine wpAnyH_take (i := 2) (oi := { dst := some 21, op := Go.Op.indexAddr 57 (Go.Operand.tmp 3) (Go.Operand.const (Go.Value.int Go.IntKind.i64 1)), type := 0, pos := "law.go:85", after := #[], guard := none }) (v := ?_) rfl (by kernel_rfl) (by kernel_rfl) (by kernel_rfl) (fun _ _ _ h => h) (Or.inl ⟨by rfl, ?_⟩) (by assumption) ?_
  rotate_left
  · intro w hSw
    try dsimp only at hSw
    obtain ⟨q0, q1⟩ := hSw
    go_simp
    all_goals with_reducible rfl
  try simp only [Act.put, List.setIfInBounds_toArray, List.set_cons_zero, List.set_cons_succ]
  refine wpAnyH_take (i := 3) (oi := { dst := some 22, op := Go.Op.load 3 (Go.Operand.tmp 21), type := 3, pos := "law.go:85", after := #[{ on := 2, ground := Go.Ground.data }], guard := none }) (v := ?_) rfl (by kernel_rfl) (by kernel_rfl) (by kernel_rfl) (fun _ _ _ h => h) (Or.inl ⟨by rfl, ?_⟩) (by assumption) ?_
  rotate_left
  · intro w hSw
    try dsimp only at hSw
    obtain ⟨q0, q1⟩ := hSw
    go_simp
    all_goals with_reducible rfl
  try simp only [Act.put, List.setIfInBounds_toArray, List.set_cons_zero, List.set_cons_succ]
  refine wpAnyH_take (i := 5) (oi := { dst := some 24, op := Go.Op.indexAddr 57 (Go.Operand.tmp 3) (Go.Operand.const (Go.Value.int Go.IntKind.i64 0)), type := 0, pos := "law.go:85", after := #[], guard := none }) (v := ?_) rfl (by kernel_rfl) (by kernel_rfl) (by kernel_rfl) (fun _ _ _ h => h) (Or.inl ⟨by rfl, ?_⟩) (by assumption) ?_
  rotate_left
  · intro w hSw
    try dsimp only at hSw
    obtain ⟨q0, q1⟩ := hSw
    go_simp
    all_goals with_reducible rfl
  try simp only [Act.put, List.setIfInBounds_toArray, List.set_cons_zero, List.set_cons_succ]
  refine wpAnyH_take (i := 6) (oi := { dst := some 25, op := Go.Op.load 3 (Go.Operand.tmp 24), type := 3, pos := "law.go:85", after := #[{ on := 5, ground := Go.Ground.data }], guard := none }) (v := ?_) rfl (by kernel_rfl) (by kernel_rfl) (by kernel_rfl) (fun _ _ _ h => h) (Or.inl ⟨by rfl, ?_⟩) (by assumption) ?_
  rotate_left
  · intro w hSw
    try dsimp only at hSw
    obtain ⟨q0, q1⟩ := hSw
    go_simp
    all_goals with_reducible rfl
  try simp only [Act.put, List.setIfInBounds_toArray, List.set_cons_zero, List.set_cons_succ]
  refine wpAnyH_take (i := 7) (oi := { dst := some 26, op := Go.Op.indexAddr 57 (Go.Operand.tmp 3) (Go.Operand.const (Go.Value.int Go.IntKind.i64 1)), type := 0, pos := "law.go:85", after := #[], guard := none }) (v := ?_) rfl (by kernel_rfl) (by kernel_rfl) (by kernel_rfl) (fun _ _ _ h => h) (Or.inl ⟨by rfl, ?_⟩) (by assumption) ?_
  rotate_left
  · intro w hSw
    try dsimp only at hSw
    obtain ⟨q0, q1⟩ := hSw
    go_simp
    all_goals with_reducible rfl
  try simp only [Act.put, List.setIfInBounds_toArray, List.set_cons_zero, List.set_cons_succ]
  refine wpAnyH_take (i := 8) (oi := { dst := some 27, op := Go.Op.load 3 (Go.Operand.tmp 26), type := 3, pos := "law.go:85", after := #[{ on := 7, ground := Go.Ground.data }], guard := none }) (v := ?_) rfl (by kernel_rfl) (by kernel_rfl) (by kernel_rfl) (fun _ _ _ h => h) (Or.inl ⟨by rfl, ?_⟩) (by assumption) ?_
  rotate_left
  · intro w hSw
    try dsimp only at hSw
    obtain ⟨q0, q1⟩ := hSw
    go_simp
    all_goals with_reducible rfl
  try simp only [Act.put, List.setIfInBounds_toArray, List.set_cons_zero, List.set_cons_succ]
  refine wpAnyH_ready (rs := [4]) (by kernel_rfl) (by simp) ?_
  refine AllReadyH.cons (o := { dst := some 23, op := Go.Op.call { callee := Go.Callee.value (Go.Operand.func 9), args := #[Go.Operand.const (Go.Value.int Go.IntKind.i64 1), Go.Operand.tmp 20, Go.Operand.tmp 22, Go.Operand.const (Go.Value.bool false)], argTypes := #[3, 3, 3, 4] }, type := 24, pos := "law.go:85", after := #[{ on := 1, ground := Go.Ground.data }, { on := 3, ground := Go.Ground.data }], guard := none }) rfl (fun K hK => ?_) ?_
  · go_simp
    refine (tu_new (B := B0) (w0 := w) (w := W0.drew) 1 x0 x1 false HW.out.drew (by have := HSZ.out; show B0 ≤ W0.heap.size; omega)).mono ?_
    rintro e w1 ⟨rfl, ⟨bs, br, h⟩, hb⟩
    have hx1 := (hb.block B0 (by show B0 < W0.heap.size; rw [HSZ.out]; omega)).trans HX.out
    have d0 : w1.cell? ⟨B0, 0, none⟩ = some (.int .i64 x0) := cell_at hx1 0 _ rfl
    have d1 : w1.cell? ⟨B0, 1, none⟩ = some (.int .i64 x1) := cell_at hx1 1 _ rfl
    have HX1 := Lib.hid hx1
    have H1 : Hid (Tu B0 w w1 W0.heap.size bs br (endA x0 x1 ts 0 0)) := Lib.hid h
    clear h hb hx1
    go_wp2_with fail
    refine hK.out _ _ ?_ (fun hH => ?_)
    · exact ⟨d0, d1⟩
    clear hK K
    try simp only [Act.put, List.setIfInBounds_toArray, List.set_cons_zero, List.set_cons_succ]
    refine wpAnyH_ready (rs := [9]) (by kernel_rfl) (by simp) ?_
    refine AllReadyH.cons (o := { dst := some 28, op := Go.Op.call { callee := Go.Callee.value (Go.Operand.func 9), args := #[Go.Operand.const (Go.Value.int Go.IntKind.i64 0), Go.Operand.tmp 25, Go.Operand.tmp 27, Go.Operand.const (Go.Value.bool true)], argTypes := #[3, 3, 3, 4] }, type := 24, pos := "law.go:85", after := #[{ on := 6, ground := Go.Ground.data }, { on := 8, ground := Go.Ground.data }, { on := 4, ground := Go.Ground.chain }], guard := none }) rfl (fun K hK => ?_) ?_
    · go_simp
      refine (tq_new 0 x0 x1 true H1.out).mono ?_
      rintro e w2 ⟨rfl, ⟨cs, cr, h⟩, hb⟩
      have hx2 := (hb.block B0 (Array.getElem?_eq_some_iff.1 HX1.out).1).trans HX1.out
      have g0 : w2.cell? ⟨B0, 0, none⟩ = some (.int .i64 x0) := cell_at hx2 0 _ rfl
      have g1 : w2.cell? ⟨B0, 1, none⟩ = some (.int .i64 x1) := cell_at hx2 1 _ rfl
      have HX2 := Lib.hid hx2
      have H2 : Hid (Tq B0 w w2 W0.heap.size bs br (endA x0 x1 ts 0 0) w1.heap.size cs cr (endB x0 x1 ts 0 0 0)) := Lib.hid h
      clear h hb hx2
      go_wp2_with fail
      refine hK.out _ _ ?_ (fun hH => ?_)
      · exact ⟨g0, g1⟩
      clear hK K
      try simp only [Act.put, List.setIfInBounds_toArray, List.set_cons_zero, List.set_cons_succ]
      refine wpAnyH_take (i := 10) (oi := { dst := some 7, op := Go.Op.assign (Go.Operand.tmp 23), type := 24, pos := "law.go:85", after := #[{ on := 4, ground := Go.Ground.data }, { on := 9, ground := Go.Ground.chain }, { on := 0, ground := Go.Ground.phase }, { on := 1, ground := Go.Ground.phase }, { on := 2, ground := Go.Ground.phase }, { on := 3, ground := Go.Ground.phase }, { on := 4, ground := Go.Ground.phase }, { on := 5, ground := Go.Ground.textOnly Go.Departure.lateStores }, { on := 6, ground := Go.Ground.textOnly Go.Departure.lateStores }, { on := 7, ground := Go.Ground.textOnly Go.Departure.lateStores }, { on := 8, ground := Go.Ground.textOnly Go.Departure.lateStores }, { on := 9, ground := Go.Ground.textOnly Go.Departure.lateStoresUnsure }], guard := none }) (v := ?_) rfl (by kernel_rfl) (by kernel_rfl) (by kernel_rfl) (fun _ _ _ h => h) (Or.inl ⟨by rfl, ?_⟩) (by assumption) ?_
      rotate_left
      · intro w hSw
        try dsimp only at hSw
        obtain ⟨q0, q1⟩ := hSw
        go_simp
        all_goals with_reducible rfl
      try simp only [Act.put, List.setIfInBounds_toArray, List.set_cons_zero, List.set_cons_succ]
      refine wpAnyH_take (i := 11) (oi := { dst := some 8, op := Go.Op.assign (Go.Operand.tmp 28), type := 24, pos := "law.go:85", after := #[{ on := 9, ground := Go.Ground.data }, { on := 10, ground := Go.Ground.chain }, { on := 0, ground := Go.Ground.phase }, { on := 1, ground := Go.Ground.phase }, { on := 2, ground := Go.Ground.phase }, { on := 3, ground := Go.Ground.phase }, { on := 4, ground := Go.Ground.phase }, { on := 5, ground := Go.Ground.phase }, { on := 6, ground := Go.Ground.phase }, { on := 7, ground := Go.Ground.phase }, { on := 8, ground := Go.Ground.phase }, { on := 9, ground := Go.Ground.phase }, { on := 10, ground := Go.Ground.phase }], guard := none }) (v := ?_) rfl (by kernel_rfl) (by kernel_rfl) (by kernel_rfl) (fun _ _ _ h => h) (Or.inl ⟨by rfl, ?_⟩) (by assumption) ?_
      rotate_left
      · intro w hSw
        try dsimp only at hSw
        obtain ⟨q0, q1⟩ := hSw
        go_simp
        all_goals with_reducible rfl
      try simp only [Act.put, List.setIfInBounds_toArray, List.set_cons_zero, List.set_cons_succ]
      refine wpAnyH_done (by kernel_rfl) ?_ _
      clear d0 d1 z0 z1 g0 g1 HX1
      have HSZ3 := Lib.hid (show W0.heap.size = W0.heap.size from rfl)
      generalize W0.heap.size = b at *
      generalize w1.heap.size = c at *
      go_wp2_with fail
      refine (awake_yes _).mono ?_
      rintro e w3 ⟨rfl, hb⟩
      have H3 := Lib.hid (H2.out.next hb)
      have HX3 : Hid (w3.heap[B0]? = some (.cells #[.int .i64 x0, .int .i64 x1] 57 (0, 0))) := Lib.hid ((hb.block B0 (Array.getElem?_eq_some_iff.1 HX2.out).1).trans HX2.out)
      clear hb H2 HX2
      go_wp2_with fail
      refine (awake_yes _).mono ?_
      rintro e w4 ⟨rfl, hb⟩
      have H4 := Lib.hid (H3.out.next hb)
      clear hb H3 HX3
      go_wp2
      go_ret
      exact ⟨rfl, by rw [HB0.out]; exact H4.out.bel⟩
    exact AllReadyH.nil
  exact AllReadyH.nil
set_option maxHeartbeats 64000000 in
theorem pair_yes (x0 x1 : Int) (a : Option Addr) (len cap : Nat) (ts : List ByteArray) (a9 : Option Addr) (len2 cap2 : Nat) (ps : List Int) (hc : ¬ 30 < len) (hc2 : ¬ 200 < len2) (hcap : len ≤ cap) (w : World) (hi : SsAt w a len ts) (h2 : IsUs w a9 len2 ps) :
    Calls Try.prog 4 #[.agg #[.int .i64 x0, .int .i64 x1], .slice a len cap, .slice a9 len2 cap2] w fun e w' => e = .returned (.bool true) ∧ Below w.heap.size w w' := by
  have k1 : decide ((30 : Int) < (len : Int)) = false := decide_eq_false (by omega)
  have k2 : decide ((200 : Int) < (len2 : Int)) = false := decide_eq_false (by omega)
  have HLN := Lib.hid hi.size
  have HI := Lib.hid hi
  have HU := Lib.hid h2
  clear hi h2
  have hx : (w.alloc (.cells #[.int .i64 x0, .int .i64 x1] 57)).heap[w.heap.size]? = some (.cells #[.int .i64 x0, .int .i64 x1] 57 (0, 0)) := heap_alloc_new w _
  have HW := Lib.hid (Joins.below_alloc1 w (.cells #[.int .i64 x0, .int .i64 x1] 57))
  have hsz : (w.alloc (.cells #[.int .i64 x0, .int .i64 x1] 57)).heap.size = w.heap.size + 1 := by simp
  go_enter Try.func4, Try.ntmps4
  go_wp2_with fail
  obtain ⟨W0, hW0⟩ : ∃ W, w.alloc (.cells #[.int .i64 x0, .int .i64 x1] 57) = W := ⟨_, rfl⟩
  rw [hW0] at hx HW hsz ⊢
  clear hW0
  generalize hB0 : w.heap.size = B0 at *
  have HB0 := Lib.hid hB0
  have HX := Lib.hid hx
  have HSZ := Lib.hid hsz
  have z0 : W0.cell? ⟨B0, 0, none⟩ = some (.int .i64 x0) := cell_at hx 0 _ rfl
  have z1 : W0.cell? ⟨B0, 1, none⟩ = some (.int .i64 x1) := cell_at hx 1 _ rfl
  clear hx hB0 hsz
  go_wp2_with fail
  refine wp_region_held_drew (S := fun w' => w'.cell? ⟨B0, 0, none⟩ = some (.int .i64 x0) ∧ w'.cell? ⟨B0, 1, none⟩ = some (.int .i64 x1)) (by kernel_rfl) ?_ (fun hH => ?_)
  · exact ⟨z0, z1⟩
  refine wpAnyH_take (i := 0) (oi := { dst := some 19, op := Go.Op.indexAddr 57 (Go.Operand.tmp 3) (Go.Operand.const (Go.Value.int Go.IntKind.i64 0)), type := 0, pos := "law.go:85", after := #[], guard := none }) (v := ?_) rfl (by kernel_rfl) (by kernel_rfl) (by kernel_rfl) (fun _ _ _ h => h) (Or.inl ⟨by rfl, ?_⟩) (by assumption) ?_
  rotate_left
  · intro w hSw
    try dsimp only at hSw
    obtain ⟨q0, q1⟩ := hSw
    go_simp
    all_goals with_reducible rfl
  try simp only [Act.put, List.setIfInBounds_toArray, List.set_cons_zero, List.set_cons_succ]
  refine wpAnyH_take (i := 1) (oi := { dst := some 20, op := Go.Op.load 3 (Go.Operand.tmp 19), type := 3, pos := "law.go:85", after := #[{ on := 0, ground := Go.Ground.data }], guard := none }) (v := ?_) rfl (by kernel_rfl) (by kernel_rfl) (by kernel_rfl) (fun _ _ _ h => h) (Or.inl ⟨by rfl, ?_⟩) (by assumption) ?_
  rotate_left
  · intro w hSw
    try dsimp only at hSw
    obtain ⟨q0, q1⟩ := hSw
    go_simp
    all_goals with_reducible rfl
  try simp only [Act.put, List.setIfInBounds_toArray, List.set_cons_zero, List.set_cons_succ]
  refine wpAnyH_take (i := 2) (oi := { dst := some 21, op := Go.Op.indexAddr 57 (Go.Operand.tmp 3) (Go.Operand.const (Go.Value.int Go.IntKind.i64 1)), type := 0, pos := "law.go:85", after := #[], guard := none }) (v := ?_) rfl (by kernel_rfl) (by kernel_rfl) (by kernel_rfl) (fun _ _ _ h => h) (Or.inl ⟨by rfl, ?_⟩) (by assumption) ?_
  rotate_left
  · intro w hSw
    try dsimp only at hSw
    obtain ⟨q0, q1⟩ := hSw
    go_simp
    all_goals with_reducible rfl
  try simp only [Act.put, List.setIfInBounds_toArray, List.set_cons_zero, List.set_cons_succ]
  refine wpAnyH_take (i := 3) (oi := { dst := some 22, op := Go.Op.load 3 (Go.Operand.tmp 21), type := 3, pos := "law.go:85", after := #[{ on := 2, ground := Go.Ground.data }], guard := none }) (v := ?_) rfl (by kernel_rfl) (by kernel_rfl) (by kernel_rfl) (fun _ _ _ h => h) (Or.inl ⟨by rfl, ?_⟩) (by assumption) ?_
  rotate_left
  · intro w hSw
    try dsimp only at hSw
    obtain ⟨q0, q1⟩ := hSw
    go_simp
    all_goals with_reducible rfl
  try simp only [Act.put, List.setIfInBounds_toArray, List.set_cons_zero, List.set_cons_succ]
  refine wpAnyH_take (i := 5) (oi := { dst := some 24, op := Go.Op.indexAddr 57 (Go.Operand.tmp 3) (Go.Operand.const (Go.Value.int Go.IntKind.i64 0)), type := 0, pos := "law.go:85", after := #[], guard := none }) (v := ?_) rfl (by kernel_rfl) (by kernel_rfl) (by kernel_rfl) (fun _ _ _ h => h) (Or.inl ⟨by rfl, ?_⟩) (by assumption) ?_
  rotate_left
  · intro w hSw
    try dsimp only at hSw
    obtain ⟨q0, q1⟩ := hSw
    go_simp
    all_goals with_reducible rfl
  try simp only [Act.put, List.setIfInBounds_toArray, List.set_cons_zero, List.set_cons_succ]
  refine wpAnyH_take (i := 6) (oi := { dst := some 25, op := Go.Op.load 3 (Go.Operand.tmp 24), type := 3, pos := "law.go:85", after := #[{ on := 5, ground := Go.Ground.data }], guard := none }) (v := ?_) rfl (by kernel_rfl) (by kernel_rfl) (by kernel_rfl) (fun _ _ _ h => h) (Or.inl ⟨by rfl, ?_⟩) (by assumption) ?_
  rotate_left
  · intro w hSw
    try dsimp only at hSw
    obtain ⟨q0, q1⟩ := hSw
    go_simp
    all_goals with_reducible rfl
  try simp only [Act.put, List.setIfInBounds_toArray, List.set_cons_zero, List.set_cons_succ]
  refine wpAnyH_take (i := 7) (oi := { dst := some 26, op := Go.Op.indexAddr 57 (Go.Operand.tmp 3) (Go.Operand.const (Go.Value.int Go.IntKind.i64 1)), type := 0, pos := "law.go:85", after := #[], guard := none }) (v := ?_) rfl (by kernel_rfl) (by kernel_rfl) (by kernel_rfl) (fun _ _ _ h => h) (Or.inl ⟨by rfl, ?_⟩) (by assumption) ?_
  rotate_left
  · intro w hSw
    try dsimp only at hSw
    obtain ⟨q0, q1⟩ := hSw
    go_simp
    all_goals with_reducible rfl
  try simp only [Act.put, List.setIfInBounds_toArray, List.set_cons_zero, List.set_cons_succ]
  refine wpAnyH_take (i := 8) (oi := { dst := some 27, op := Go.Op.load 3 (Go.Operand.tmp 26), type := 3, pos := "law.go:85", after := #[{ on := 7, ground := Go.Ground.data }], guard := none }) (v := ?_) rfl (by kernel_rfl) (by kernel_rfl) (by kernel_rfl) (fun _ _ _ h => h) (Or.inl ⟨by rfl, ?_⟩) (by assumption) ?_
  rotate_left
  · intro w hSw
    try dsimp only at hSw
    obtain ⟨q0, q1⟩ := hSw
    go_simp
    all_goals with_reducible rfl
  try simp only [Act.put, List.setIfInBounds_toArray, List.set_cons_zero, List.set_cons_succ]
  refine wpAnyH_ready (rs := [4]) (by kernel_rfl) (by simp) ?_
  refine AllReadyH.cons (o := { dst := some 23, op := Go.Op.call { callee := Go.Callee.value (Go.Operand.func 9), args := #[Go.Operand.const (Go.Value.int Go.IntKind.i64 1), Go.Operand.tmp 20, Go.Operand.tmp 22, Go.Operand.const (Go.Value.bool false)], argTypes := #[3, 3, 3, 4] }, type := 24, pos := "law.go:85", after := #[{ on := 1, ground := Go.Ground.data }, { on := 3, ground := Go.Ground.data }], guard := none }) rfl (fun K hK => ?_) ?_
  · go_simp
    refine (tu_new (B := B0) (w0 := w) (w := W0.drew) 1 x0 x1 false HW.out.drew (by have := HSZ.out; show B0 ≤ W0.heap.size; omega)).mono ?_
    rintro e w1 ⟨rfl, ⟨bs, br, h⟩, hb⟩
    have hx1 := (hb.block B0 (by show B0 < W0.heap.size; rw [HSZ.out]; omega)).trans HX.out
    have d0 : w1.cell? ⟨B0, 0, none⟩ = some (.int .i64 x0) := cell_at hx1 0 _ rfl
    have d1 : w1.cell? ⟨B0, 1, none⟩ = some (.int .i64 x1) := cell_at hx1 1 _ rfl
    have HX1 := Lib.hid hx1
    have H1 : Hid (Tu B0 w w1 W0.heap.size bs br (endA x0 x1 ts 0 0)) := Lib.hid h
    clear h hb hx1
    go_wp2_with fail
    refine hK.out _ _ ?_ (fun hH => ?_)
    · exact ⟨d0, d1⟩
    clear hK K
    try simp only [Act.put, List.setIfInBounds_toArray, List.set_cons_zero, List.set_cons_succ]
    refine wpAnyH_ready (rs := [9]) (by kernel_rfl) (by simp) ?_
    refine AllReadyH.cons (o := { dst := some 28, op := Go.Op.call { callee := Go.Callee.value (Go.Operand.func 9), args := #[Go.Operand.const (Go.Value.int Go.IntKind.i64 0), Go.Operand.tmp 25, Go.Operand.tmp 27, Go.Operand.const (Go.Value.bool true)], argTypes := #[3, 3, 3, 4] }, type := 24, pos := "law.go:85", after := #[{ on := 6, ground := Go.Ground.data }, { on := 8, ground := Go.Ground.data }, { on := 4, ground := Go.Ground.chain }], guard := none }) rfl (fun K hK => ?_) ?_
    · go_simp
      refine (tq_new 0 x0 x1 true H1.out).mono ?_
      rintro e w2 ⟨rfl, ⟨cs, cr, h⟩, hb⟩
      have hx2 := (hb.block B0 (Array.getElem?_eq_some_iff.1 HX1.out).1).trans HX1.out
      have g0 : w2.cell? ⟨B0, 0, none⟩ = some (.int .i64 x0) := cell_at hx2 0 _ rfl
      have g1 : w2.cell? ⟨B0, 1, none⟩ = some (.int .i64 x1) := cell_at hx2 1 _ rfl
      have HX2 := Lib.hid hx2
      have H2 : Hid (Tq B0 w w2 W0.heap.size bs br (endA x0 x1 ts 0 0) w1.heap.size cs cr (endB x0 x1 ts 0 0 0)) := Lib.hid h
      clear h hb hx2
      go_wp2_with fail
      refine hK.out _ _ ?_ (fun hH => ?_)
      · exact ⟨g0, g1⟩
      clear hK K
      try simp only [Act.put, List.setIfInBounds_toArray, List.set_cons_zero, List.set_cons_succ]
      refine wpAnyH_take (i := 10) (oi := { dst := some 7, op := Go.Op.assign (Go.Operand.tmp 23), type := 24, pos := "law.go:85", after := #[{ on := 4, ground := Go.Ground.data }, { on := 9, ground := Go.Ground.chain }, { on := 0, ground := Go.Ground.phase }, { on := 1, ground := Go.Ground.phase }, { on := 2, ground := Go.Ground.phase }, { on := 3, ground := Go.Ground.phase }, { on := 4, ground := Go.Ground.phase }, { on := 5, ground := Go.Ground.textOnly Go.Departure.lateStores }, { on := 6, ground := Go.Ground.textOnly Go.Departure.lateStores }, { on := 7, ground := Go.Ground.textOnly Go.Departure.lateStores }, { on := 8, ground := Go.Ground.textOnly Go.Departure.lateStores }, { on := 9, ground := Go.Ground.textOnly Go.Departure.lateStoresUnsure }], guard := none }) (v := ?_) rfl (by kernel_rfl) (by kernel_rfl) (by kernel_rfl) (fun _ _ _ h => h) (Or.inl ⟨by rfl, ?_⟩) (by assumption) ?_
      rotate_left
      · intro w hSw
        try dsimp only at hSw
        obtain ⟨q0, q1⟩ := hSw
        go_simp
        all_goals with_reducible rfl
      try simp only [Act.put, List.setIfInBounds_toArray, List.set_cons_zero, List.set_cons_succ]
      refine wpAnyH_take (i := 11) (oi := { dst := some 8, op := Go.Op.assign (Go.Operand.tmp 28), type := 24, pos := "law.go:85", after := #[{ on := 9, ground := Go.Ground.data }, { on := 10, ground := Go.Ground.chain }, { on := 0, ground := Go.Ground.phase }, { on := 1, ground := Go.Ground.phase }, { on := 2, ground := Go.Ground.phase }, { on := 3, ground := Go.Ground.phase }, { on := 4, ground := Go.Ground.phase }, { on := 5, ground := Go.Ground.phase }, { on := 6, ground := Go.Ground.phase }, { on := 7, ground := Go.Ground.phase }, { on := 8, ground := Go.Ground.phase }, { on := 9, ground := Go.Ground.phase }, { on := 10, ground := Go.Ground.phase }], guard := none }) (v := ?_) rfl (by kernel_rfl) (by kernel_rfl) (by kernel_rfl) (fun _ _ _ h => h) (Or.inl ⟨by rfl, ?_⟩) (by assumption) ?_
      rotate_left
      · intro w hSw
        try dsimp only at hSw
        obtain ⟨q0, q1⟩ := hSw
        go_simp
        all_goals with_reducible rfl
      try simp only [Act.put, List.setIfInBounds_toArray, List.set_cons_zero, List.set_cons_succ]
      refine wpAnyH_done (by kernel_rfl) ?_ _
      clear d0 d1 z0 z1 g0 g1 HX1
      have HSZ3 := Lib.hid (show W0.heap.size = W0.heap.size from rfl)
      generalize W0.heap.size = b at *
      generalize w1.heap.size = c at *
      go_wp2_with fail
      refine (awake_yes _).mono ?_
      rintro e w3 ⟨rfl, hb⟩
      have H3 := Lib.hid (H2.out.next hb)
      have HX3 : Hid (w3.heap[B0]? = some (.cells #[.int .i64 x0, .int .i64 x1] 57 (0, 0))) := Lib.hid ((hb.block B0 (Array.getElem?_eq_some_iff.1 HX2.out).1).trans HX2.out)
      clear hb H2 HX2
      go_wp2_with fail
      go_loopw [52] (fun v52 wr => ∃ i : Nat, i ≤ len ∧ v52 = .int .i64 i ∧ Tq B0 w wr b bs br (endA x0 x1 ts 0 0) c cs cr (endB x0 x1 ts 0 0 0) ∧ wr.heap[B0]? = some (.cells #[.int .i64 x0, .int .i64 x1] 57 (0, 0)) ∧ ∀ j, j < i → (ts.getD j emp).size ≤ 50) (fun v52 _ => len - (intOf v52).toNat)
      case atStart => exact ⟨0, Nat.zero_le _, rfl, H3.out, HX3.out, fun j hj => absurd hj (by omega)⟩
      case round =>
        obtain ⟨i, hi, rfl, h, hx, hall⟩ := hrel
        clear H3 HX3
        by_cases hlt : i < len
        · obtain ⟨g, off, rfl, hgl, hc⟩ := HI.out.lies (by omega)
          have c0 := (h.bel.cell (p := ⟨g, off + i, none⟩) (by rw [← HB0.out]; exact hgl)).trans (hc i (by rw [HLN.out]; exact hlt))
          have H3 := Lib.hid h
          have HX3 := Lib.hid hx
          have HALL := Lib.hid hall
          clear h hx hall hc hgl
          obtain ⟨x, hxx⟩ : ∃ x, ts.getD i emp = x := ⟨_, rfl⟩
          have HXX := Lib.hid hxx
          rw [hxx] at c0
          clear hxx
          by_cases hsz : 50 < x.size
          · have k2 : decide ((50 : Int) < (x.size : Int)) = true := decide_eq_true (by omega)
            go_wp2
            go_ret
            exact ⟨rfl, by rw [HB0.out]; exact H3.out.bel⟩
          have k2 : decide ((50 : Int) < (x.size : Int)) = false := decide_eq_false (by omega)
          have HNW : Hid (∀ j, j < i + 1 → (ts.getD j emp).size ≤ 50) := Lib.hid fun j hj => by
            rcases Nat.lt_or_ge j i with h | h
            · exact HALL.out j h
            · obtain rfl : j = i := by omega
              rw [HXX.out]; omega
          go_wp2
          go_roundw
          case rel => exact ⟨i + 1, by omega, by go_num, H3.out, HX3.out, HNW.out⟩
          case measure => simp [intOf]; omega
        · obtain rfl : i = len := by omega
          have HSH : Hid (∀ d ∈ ts, d.size ≤ 50) := Lib.hid fun d hd => by
            obtain ⟨j, hj, rfl⟩ := mem_getD hd
            exact hall j (by rw [← HLN.out]; exact hj)
          have H3 := Lib.hid h
          have HX3 := Lib.hid hx
          clear h hx hall
          go_wp2_with fail
          go_loopw [11, 12, 13, 14, 62] (fun v11 v12 v13 v14 v62 wr => ∃ r : Nat, r ≤ len2 ∧ v62 = .int .i64 r ∧ ∃ (k nx q m : Nat) (ep : Int) (bs br cs cr : Nat) (a1 : Option Addr) (n1 c1 : Nat) (TH : List Fra) (a2 : Option Addr) (n2 c2 : Nat) (BK : List Fra) (ag : Option Addr) (cg : Nat), v11 = .slice a1 n1 c1 ∧ v12 = .slice a2 n2 c2 ∧ v13 = .slice ag q cg ∧ v14 = .int .i64 (nx : Int) ∧ Tq B0 w wr b bs br (endA x0 x1 ts k nx) c cs cr (endB x0 x1 ts ep q m) ∧ RW B0 wr x0 x1 a1 n1 c1 TH a2 n2 c2 BK ag q cg (ts.take q) ∧ k ≤ nx ∧ nx ≤ i ∧ PB ts ep q m ∧ (∀ f ∈ TH, thereOk ts f) ∧ (∀ f ∈ BK, backOk f) ∧ TH.length = n1 ∧ BK.length = n2 ∧ n1 ≤ 216 ∧ n2 ≤ 216) (fun _ _ _ _ v62 _ => len2 - (intOf v62).toNat)
          case atStart => exact ⟨0, Nat.zero_le _, rfl, 0, 0, 0, 0, 0, _, _, _, _, none, 0, 0, [], none, 0, 0, [], none, 0, rfl, rfl, rfl, rfl, H3.out, ⟨rowF_nil _ _, rowF_nil _ _, rowS_nil _ _, (fun j hj => by cases hj), HX3.out⟩, Nat.le_refl _, Nat.zero_le _, ⟨Nat.le_refl _, Nat.zero_le _, .inr ⟨rfl, rfl⟩⟩, (fun f hf => by cases hf), (fun f hf => by cases hf), rfl, rfl, Nat.zero_le _, Nat.zero_le _⟩
          case round =>
            obtain ⟨r, hr, rfl, k, nx, q, m, ep, bs, br, cs, cr, a1, n1, c1, TH, a2, n2, c2, BK, ag, cg, rfl, rfl, rfl, rfl, h, hrw, hk, hn, hpb, hth, hbk, hlt1, hlt2, hn1, hn2⟩ := hrel
            clear H3 HX3
            have HTH := Lib.hid hth
            have HBK := Lib.hid hbk
            have HPB := Lib.hid hpb
            have HL1 := Lib.hid hlt1
            have HL2 := Lib.hid hlt2
            clear hth hbk hpb hlt1 hlt2
            by_cases hlt : r < len2
            · obtain ⟨gu, offu, rfl, hgl, hc⟩ := HU.out.lies (by omega)
              have u0 := (h.bel.cell (p := ⟨gu, offu + r, none⟩) (by rw [← HB0.out]; exact hgl)).trans (hc r hlt).1
              obtain ⟨p, hp⟩ : ∃ p, ps.getD r 0 = p := ⟨_, rfl⟩
              have hp0 := (hc r hlt).2
              rw [hp] at u0 hp0
              have HP0 := Lib.hid hp0
              have H3 := Lib.hid h
              have HW3 := Lib.hid hrw
              clear h hrw hc hgl hp hp0
              go_wp2_with fail
              go_loopw [14] (fun v14 wr => ∃ nx2 : Nat, nx ≤ nx2 ∧ nx2 ≤ i ∧ v14 = .int .i64 (nx2 : Int) ∧ Tq B0 w wr b bs br (endA x0 x1 ts k nx2) c cs cr (endB x0 x1 ts ep q m) ∧ RW B0 wr x0 x1 a1 n1 c1 TH a2 n2 c2 BK ag q cg (ts.take q)) (fun v14 _ => i - (intOf v14).toNat)
              case atStart => exact ⟨nx, Nat.le_refl _, hn, rfl, H3.out, HW3.out⟩
              case round =>
                obtain ⟨nx2, hnx2, hn3, rfl, h, hrw⟩ := hrel
                clear H3 HW3
                have hmn2 : k ≤ nx2 := by omega
                by_cases hlt2 : nx2 < i
                · obtain ⟨gt, off, rfl, hgl, hc⟩ := HI.out.lies (by omega)
                  have c0 := (h.bel.cell (p := ⟨gt, off + nx2, none⟩) (by rw [← HB0.out]; exact hgl)).trans (hc nx2 (by rw [HLN.out]; exact hlt2))
                  obtain ⟨x, hxx⟩ : ∃ x, ts.getD nx2 emp = x := ⟨_, rfl⟩
                  have HXX := Lib.hid hxx
                  rw [hxx] at c0
                  have HXS : Hid (x.size ≤ 1000) := Lib.hid (by have := HSH.out _ (getD_mem (i := nx2) (ds := ts) (by rw [HLN.out]; exact hlt2)); rw [hxx] at this; omega)
                  obtain ⟨oe, hoe⟩ : ∃ n, (endA x0 x1 ts k nx2).offe = n := ⟨_, rfl⟩
                  have HOE := Lib.hid hoe
                  have H3 := Lib.hid h
                  have HW3 := Lib.hid hrw
                  clear h hrw hc hgl hxx
                  by_cases hz : oe = 0
                  · have HO : Hid ((endA x0 x1 ts k nx2).off x = endA x0 x1 ts k (nx2 + 1)) := Lib.hid (by rw [← HXX.out]; exact pa_off hmn2 (by rw [HLN.out]; exact hlt2) (hoe.trans hz))
                    subst hz
                    clear hoe
                    go_wp2_with fail
                    refine (tq_offE x HO.out HOE.out HXS.out H3.out).mono ?_
                    rintro e w4 ⟨rfl, h, ho⟩
                    have H4 := Lib.hid h
                    have HW4 := Lib.hid (HW3.out.oth ho)
                    clear h ho H3 HW3 HO c0
                    go_wp2
                    go_roundw
                    case rel => exact ⟨nx2 + 1, by omega, by omega, by go_num, H4.out, HW4.out⟩
                    case measure => simp [intOf]; omega
                  · have HO : Hid ((endA x0 x1 ts k nx2).off x = endA x0 x1 ts k nx2) := Lib.hid (off_nz _ _ (by rw [hoe]; exact hz))
                    have kz : (oe == 0) = false := beq_eq_false_iff_ne.2 hz
                    have kz2 : decide (oe = 0) = false := decide_eq_false hz
                    clear hoe hz
                    go_wp2_with fail
                    refine (tq_offE x HO.out HOE.out HXS.out H3.out).mono ?_
                    rintro e w4 ⟨rfl, h, ho⟩
                    have HK2 := Lib.hid (show k ≤ nx2 by omega)
                    have H4 := Lib.hid h.swap
                    have HW4 := Lib.hid (HW3.out.oth ho)
                    clear h ho H3 HW3 HO c0 HOE HXX HXS
                    obtain ⟨hd, he, e1, e2, hyes, hno⟩ := pb_pop_any (x0 := x0) (x1 := x1) HPB.out
                    have HE1 := Lib.hid e1
                    have HE2 := Lib.hid e2
                    have HY := Lib.hid hyes
                    have HN := Lib.hid hno
                    have p5 := H4.out.t1.c5
                    clear e1 e2 hyes hno
                    go_wp2_with fail
                    refine (tq_pop HE1.out HE2.out (by have := pb_q (x0 := x0) (x1 := x1) HPB.out; rw [HLN.out] at this; omega) H4.out).mono ?_
                    rintro e w5 ⟨rfl, h, ho⟩
                    have H5 := Lib.hid h
                    have HW5 := Lib.hid (HW4.out.oth ho)
                    clear h ho H4 HW4 p5 HE1 HE2
                    go_wp2_with fail
                    go_loopw [13, 17, 18] (fun v13 v17 v18 wr => ∃ (q : Nat) (he : Bool) (hd : ByteArray) (ag : Option Addr) (cg : Nat), PB ts ep q m ∧ v13 = .slice ag q cg ∧ v17 = .string hd ∧ v18 = .bool he ∧ RW B0 wr x0 x1 a1 n1 c1 TH a2 n2 c2 BK ag q cg (ts.take q) ∧ (he = true → q < m ∧ hd = ts.getD q emp ∧ Tq B0 w wr c cs cr (endB x0 x1 ts ep (q + 1) m) b bs br (endA x0 x1 ts k nx2)) ∧ (he = false → q = m ∧ Tq B0 w wr c cs cr (endB x0 x1 ts ep m m) b bs br (endA x0 x1 ts k nx2))) (fun v13 _ _ _ => m - lenOf v13)
                    case atStart => exact ⟨q, he, hd, ag, cg, HPB.out, rfl, rfl, rfl, HW5.out, (fun e => ⟨(HY.out e).1, (HY.out e).2.1, by rw [← (HY.out e).2.2]; exact H5.out⟩), (fun e => ⟨(HN.out e).1, by rw [← (HN.out e).2]; exact H5.out⟩)⟩
                    case round =>
                      clear H5 HW5 HPB HY HN
                      obtain ⟨q, he, hd, ag, cg, hpb, rfl, rfl, rfl, hrw, hyes, hno⟩ := hrel
                      cases he with
                      | true =>
                        obtain ⟨hlt4, hhd, h⟩ := hyes rfl
                        have HPBQ := Lib.hid hpb
                        have hmn := hpb.2.1
                        rw [HLN.out] at hmn
                        have HHD := Lib.hid hhd
                        have HPB2 : Hid (PB ts ep (q + 1) m) := Lib.hid ⟨by omega, hpb.2.1, hpb.2.2⟩
                        have HTK := Lib.hid (take_snoc (show q < ts.length by rw [HLN.out]; omega))
                        have HL : Hid ((ts.take q).length = q) := Lib.hid (by rw [List.length_take, HLN.out]; omega)
                        have H8 := Lib.hid (h.next (Joins.below_alloc1 wr (.cells #[.string hd] 9)))
                        have HW8 := Lib.hid (hrw.next (Joins.below_alloc1 wr (.cells #[.string hd] 9)))
                        clear hyes hno h hrw hhd hpb
                        go_wp2_with (at_builtin; refine wpList_appS1 rfl (.tmp 98) (.tmp 100) rfl B0 ag q cg (ts.take q) HL.out rfl HW8.out.got _ rfl hd (ssAt_one wr hd) (by omega) H8.out.le ?_; intro a5 c5 w5 hr5 hg5; have H9 := Lib.hid (H8.out.rowS HW8.out.got hg5); have HW9 := Lib.hid (HW8.out.appS hr5 hg5); have p9 := H9.out.t1.c5; clear hr5 hg5 H8 HW8)
                        have HW9 : Hid (RW B0 w5 x0 x1 a1 n1 c1 TH a2 n2 c2 BK a5 (q + 1) c5 (ts.take (q + 1))) := Lib.hid (by have := HW9.out; rw [HHD.out, ← HTK.out] at this; exact this)
                        obtain ⟨hd2, he2, e1, e2, hyes, hno⟩ := pb_pop_any (x0 := x0) (x1 := x1) HPB2.out
                        have HY := Lib.hid hyes
                        have HN := Lib.hid hno
                        clear hyes hno
                        refine (tq_pop e1 e2 (by have := pb_q (x0 := x0) (x1 := x1) HPB2.out; rw [HLN.out] at this; omega) H9.out).mono ?_
                        rintro e wa ⟨rfl, h, ho⟩
                        have HA := Lib.hid h
                        have HWA := Lib.hid (HW9.out.oth ho)
                        clear h ho H9 HW9 p9 e1 e2
                        go_wp2
                        go_roundw
                        case rel => exact ⟨q + 1, he2, hd2, a5, c5, HPB2.out, rfl, rfl, rfl, HWA.out, (fun e => ⟨(HY.out e).1, (HY.out e).2.1, by rw [← (HY.out e).2.2]; exact HA.out⟩), (fun e => ⟨(HN.out e).1, by rw [← (HN.out e).2]; exact HA.out⟩)⟩
                        case measure => simp only [lenOf]; omega
                      | false =>
                        obtain ⟨rfl, h⟩ := hno rfl
                        have hqn := hpb.2.1
                        rw [HLN.out] at hqn
                        have HPB := Lib.hid hpb
                        have H6 := Lib.hid h.swap
                        have HW6 := Lib.hid hrw
                        clear hyes hno h hrw hpb
                        have s1 := fun w => slS_front (some ⟨gt, off, none⟩) i cap q (by omega) w
                        have k6 : decide ((i : Int) < (q : Int)) = false := decide_eq_false (by omega)
                        have HL : Hid ((ts.take q).length = q) := Lib.hid (by rw [List.length_take, HLN.out]; omega)
                        go_wp2_with fail
                        refine (same_yes _ _ q _ _ (ts.take q) (by omega) _ (HW6.out.got.isS HL.out.symm).1 (ssAt_front (ssAt_below HI.out H6.out.bel (Nat.le_of_eq HB0.out)) (by omega))).mono ?_
                        rintro e w7 ⟨rfl, e1, e2, e3, e4⟩
                        have H7 := Lib.hid (H6.out.asit e1 e2 e3 e4)
                        have HW7 := Lib.hid (HW6.out.next (below_asit e1 e2 e3 e4))
                        clear e1 e2 e3 e4 H6 HW6 s1
                        obtain ⟨G, hG⟩ : ∃ G, (endA x0 x1 ts k nx2).frames = G := ⟨_, rfl⟩
                        obtain ⟨L, hL⟩ : ∃ L, G.length = L := ⟨_, rfl⟩
                        obtain ⟨G2, hG2⟩ : ∃ G, (endB x0 x1 ts ep q q).frames = G := ⟨_, rfl⟩
                        obtain ⟨L2, hL2⟩ : ∃ L, G2.length = L := ⟨_, rfl⟩
                        obtain ⟨s1, hs1⟩ : ∃ s, n1 + L = s := ⟨_, rfl⟩
                        obtain ⟨s2, hs2⟩ : ∃ s, n2 + L2 = s := ⟨_, rfl⟩
                        have HGF := Lib.hid hG
                        have HGL := Lib.hid hL
                        have HG2F := Lib.hid hG2
                        have HG2L := Lib.hid hL2
                        have HSM1 := Lib.hid hs1
                        have HSM2 := Lib.hid hs2
                        have hLb : L ≤ 16 ∧ 1 ≤ L := by
                          have h1 := pe_len (x0 := x0) (x1 := x1) (ts := ts) (k := k) (nx := nx2) (by rw [HLN.out]; exact hn3)
                          obtain ⟨v, Lr, u, M, hx, _⟩ := H7.out.ex
                          have hd : (endA x0 x1 ts k nx2).ds.length ≤ 16 := by have := hx.sn.ok.len; have := hx.sn.ok.w2; omega
                          have h2 := frames_len hd
                          rw [hG, hL] at h1 h2
                          omega
                        have hL2b : L2 ≤ 1 := by have := pb_fewf (x0 := x0) (x1 := x1) (ts := ts) (ep := ep) (q := q) (m := q); rw [hG2, hL2] at this; exact this
                        have HGT : Hid (∀ f ∈ G, thereOk ts f) := Lib.hid (by rw [← hG]; exact pa_frames HSH.out HK2.out (by rw [HLN.out]; exact hn3))
                        have HGB : Hid (∀ f ∈ G2, backOk f) := Lib.hid (by rw [← hG2]; exact pb_back HPB.out)
                        clear hG hL hG2 hL2 hs1 hs2
                        go_upto_if 118 with fail
                        go_cut [11] from 63 to 167 (fun v11 wx => ∃ (a1 : Option Addr) (n1 c1 : Nat) (TH : List Fra), v11 = .slice a1 n1 c1 ∧ Tq B0 w wx b bs br (endA x0 x1 ts k nx2) c cs cr (endB x0 x1 ts ep q q) ∧ RW B0 wx x0 x1 a1 n1 c1 TH a2 n2 c2 BK ag q cg (ts.take q) ∧ (∀ f ∈ TH, thereOk ts f) ∧ TH.length = n1 ∧ 0 < n1 ∧ n1 ≤ 216)
                        case first =>
                          by_cases hT : n1 < 200
                          · have kT : decide ((n1 : Int) < 200) = true := decide_eq_true (by omega)
                            go_wp2_with fail
                            refine (tq_frames HGF.out HGL.out H7.out).mono ?_
                            rintro e wa ⟨al, cl, rfl, hr, hb, h⟩
                            have HA := Lib.hid h
                            have HWA := Lib.hid (HW7.out.next hb)
                            have HFA := Lib.hid (hr.isF HGL.out.symm)
                            clear hr hb h H7 HW7
                            have hsb : s1 ≤ 216 := by have := HSM1.out; omega
                            go_wp2_with (at_builtin; refine wpList_appFs rfl (.tmp 119) (.tmp 121) rfl B0 a1 n1 c1 TH HL1.out rfl HWA.out.th al L cl rfl G HFA.out.1 HFA.out.2.1 HFA.out.2.2 s1 HSM1.out (by omega) HA.out.le ?_; intro a5 c5 w5 hr5 hg5 ho5; have HC := Lib.hid (HA.out.rowF HWA.out.th hg5); have HWC := Lib.hid (HWA.out.appT hr5 hg5 ho5); clear hr5 hg5 ho5 HA HWA HFA)
                            go_meet
                            case rel => exact ⟨_, s1, _, TH ++ G, rfl, HC.out, HWC.out, all_app HTH.out HGT.out, by rw [List.length_append, HL1.out, HGL.out]; exact HSM1.out, by have := HSM1.out; omega, hsb⟩
                          · have kT : decide ((n1 : Int) < 200) = false := decide_eq_false (by omega)
                            go_wp2_with fail
                            go_meet
                            case rel => exact ⟨a1, n1, c1, TH, rfl, H7.out, HW7.out, HTH.out, HL1.out, by omega, hn1⟩
                        case rest =>
                          clear H7 HW7 HTH HL1 HGF HGL HSM1 HGT hn1 hLb s1 L G
                          obtain ⟨a1, n1, c1, TH, rfl, h, hrw, hth, hlt1, hn1p, hn1⟩ := hcut
                          have H7 := Lib.hid h
                          have HW7 := Lib.hid hrw
                          have HTH := Lib.hid hth
                          have HL1 := Lib.hid hlt1
                          clear h hrw hth hlt1
                          go_upto_if 125 with fail
                          go_cut [12] from 63 to 167 (fun v12 wx => ∃ (a2 : Option Addr) (n2 c2 : Nat) (BK : List Fra), v12 = .slice a2 n2 c2 ∧ Tq B0 w wx b bs br (endA x0 x1 ts k nx2) c cs cr (endB x0 x1 ts ep q q) ∧ RW B0 wx x0 x1 a1 n1 c1 TH a2 n2 c2 BK ag q cg (ts.take q) ∧ (∀ f ∈ BK, backOk f) ∧ BK.length = n2 ∧ n2 ≤ 216)
                          case first =>
                            by_cases hB : n2 < 200
                            · have kB : decide ((n2 : Int) < 200) = true := decide_eq_true (by omega)
                              go_wp2_with fail
                              refine (tq_frames HG2F.out HG2L.out H7.out.swap).mono ?_
                              rintro e wd ⟨am, cm, rfl, hr, hb, h⟩
                              have HD := Lib.hid h.swap
                              have HWD := Lib.hid (HW7.out.next hb)
                              have HFD := Lib.hid (hr.isF HG2L.out.symm)
                              clear hr hb h H7 HW7
                              have hsb2 : s2 ≤ 216 := by have := HSM2.out; omega
                              go_wp2_with (at_builtin; refine wpList_appFs rfl (.tmp 126) (.tmp 128) rfl B0 a2 n2 c2 BK HL2.out rfl HWD.out.bk am L2 cm rfl G2 HFD.out.1 HFD.out.2.1 HFD.out.2.2 s2 HSM2.out (by omega) HD.out.le ?_; intro a6 c6 w6 hr6 hg6 ho6; have HE := Lib.hid (HD.out.rowF HWD.out.bk hg6); have HWE := Lib.hid (HWD.out.appB hr6 hg6 ho6); clear hr6 hg6 ho6 HD HWD HFD)
                              go_meet
                              case rel => exact ⟨_, s2, _, BK ++ G2, rfl, HE.out, HWE.out, all_app HBK.out HGB.out, by rw [List.length_append, HL2.out, HG2L.out]; exact HSM2.out, hsb2⟩
                            · have kB : decide ((n2 : Int) < 200) = false := decide_eq_false (by omega)
                              go_wp2_with fail
                              go_meet
                              case rel => exact ⟨a2, n2, c2, BK, rfl, H7.out, HW7.out, HBK.out, HL2.out, hn2⟩
                          case rest =>
                            clear H7 HW7 HBK HL2 HG2F HG2L HSM2 HGB hn2 hL2b s2 L2 G2
                            obtain ⟨a2, n2, c2, BK, rfl, h, hrw, hbk, hlt2, hn2⟩ := hcut
                            have H7 := Lib.hid h
                            have HW7 := Lib.hid hrw
                            have HBK := Lib.hid hbk
                            have HL2 := Lib.hid hlt2
                            clear h hrw hbk hlt2
                            obtain ⟨P1, hP1⟩ : ∃ P, bits BinOp.and IntKind.u16 p 1 = P := ⟨_, rfl⟩
                            by_cases hp1 : P1 = 0
                            · subst hp1
                              have hpos := hn1p
                              have k9 : decide ((0 : Int) < (n1 : Int)) = true := decide_eq_true (by omega)
                              have k9b : decide (0 < n1) = true := decide_eq_true hpos
                              obtain ⟨J, hJ, ej⟩ := pair_ix p HP0.out.1 HP0.out.2 n1 hpos
                              have ej2 : wrap64 ((p.tdiv 2).tmod (n1 : Int)) = (J : Int) := by rw [ej]; unfold wrap64; omega
                              have ej3 : (p / 2).tmod (n1 : Int) = (J : Int) := by rw [← pair_div p HP0.out.1]; exact ej
                              have ej4 : (p / 2) % (n1 : Int) = (J : Int) := by rw [← ej3, Int.tmod_eq_emod_of_nonneg (by have := HP0.out.1; omega)]
                              have ej5 : (wrap64 (IntKind.u16.wrap (p.tdiv 2))).tmod (n1 : Int) = (J : Int) := by rw [pair_w p HP0.out.1 HP0.out.2]; exact ej
                              have HTA : Hid (∀ f ∈ TH, thereOk ts f) := Lib.hid (HTH.out)
                              have HBA : Hid (∀ f ∈ BK, backOk f) := Lib.hid (HBK.out)
                              have HTL : Hid ((TH).length = n1) := Lib.hid (HL1.out)
                              have HBL : Hid ((BK).length = n2) := Lib.hid (HL2.out)
                              obtain ⟨⟨fe, fs, fa, fd⟩, hf⟩ : ∃ f, (TH).getD J fr0 = f := ⟨_, rfl⟩
                              have hfo := HTA.out _ (fra_mem (show J < (TH).length by rw [HTL.out]; exact hJ))
                              rw [hf] at hfo
                              rcases HW7.out.th.2 with ⟨hv, h0⟩ | ⟨gf, cap', cur, hv, _⟩
                              · rw [HTL.out] at h0; omega
                              rw [HTL.out] at hv
                              cases hv
                              obtain ⟨d0, d1, d2, d3⟩ := RowF.f4n HW7.out.th HTL.out J hJ
                              rw [hf] at d0 d1 d2 d3
                              simp only at d0 d1 d2 d3
                              obtain ⟨m2, hpb2, hh⟩ := pb_hear (x0 := x0) (x1 := x1) hfo HPB.out
                              obtain ⟨an, han⟩ : ∃ an, (endB x0 x1 ts ep q q).anew (fe, fs, fa, fd) = an := ⟨_, rfl⟩
                              have HHH := Lib.hid hh
                              have HAN := Lib.hid han
                              have HPB2 := Lib.hid hpb2
                              have HFS := Lib.hid hfo.2.2.1
                              clear hh han hpb2 hfo hf
                              go_wp2_with fail
                              refine (tq_hearE (f := (fe, fs, fa, fd)) HHH.out HAN.out HFS.out (by have := pb_q (x0 := x0) (x1 := x1) HPB.out; rw [HLN.out] at this; omega) H7.out.swap).mono ?_
                              rintro e wz ⟨rfl, ⟨cs9, cr9, h⟩, ho⟩
                              have HZ := Lib.hid h.swap
                              have HWZ := Lib.hid (HW7.out.oth ho)
                              clear h ho d0 d1 d2 d3
                              go_wp2
                              go_roundw
                              case rel => exact ⟨r + 1, by omega, by go_num, k, nx2, q, m2, 1, _, _, _, _, _, n1, _, _, a2, n2, c2, _, ag, cg, rfl, rfl, rfl, rfl, HZ.out, HWZ.out, HK2.out, hn3, HPB2.out, HTA.out, HBA.out, HTL.out, HBL.out, by omega, by omega⟩
                              case measure => simp [intOf]; omega
                            have k10 : decide (P1 = 0) = false := decide_eq_false hp1
                            have k11 : (P1 == 0) = false := beq_eq_false_iff_ne.2 hp1
                            by_cases hp2 : P1 = 1
                            · subst hp2
                              by_cases hb0 : 0 < n2
                              · have hpos : 0 < n2 := hb0
                                have k9 : decide ((0 : Int) < (n2 : Int)) = true := decide_eq_true (by omega)
                                have k9b : decide (0 < n2) = true := decide_eq_true hpos
                                obtain ⟨J, hJ, ej⟩ := pair_ix p HP0.out.1 HP0.out.2 n2 hpos
                                have ej2 : wrap64 ((p.tdiv 2).tmod (n2 : Int)) = (J : Int) := by rw [ej]; unfold wrap64; omega
                                have ej3 : (p / 2).tmod (n2 : Int) = (J : Int) := by rw [← pair_div p HP0.out.1]; exact ej
                                have ej4 : (p / 2) % (n2 : Int) = (J : Int) := by rw [← ej3, Int.tmod_eq_emod_of_nonneg (by have := HP0.out.1; omega)]
                                have ej5 : (wrap64 (IntKind.u16.wrap (p.tdiv 2))).tmod (n2 : Int) = (J : Int) := by rw [pair_w p HP0.out.1 HP0.out.2]; exact ej
                                have HTA : Hid (∀ f ∈ TH, thereOk ts f) := Lib.hid (HTH.out)
                                have HBA : Hid (∀ f ∈ BK, backOk f) := Lib.hid (HBK.out)
                                have HTL : Hid ((TH).length = n1) := Lib.hid (HL1.out)
                                have HBL : Hid ((BK).length = n2) := Lib.hid (HL2.out)
                                obtain ⟨⟨fe, fs, fa, fd⟩, hf⟩ : ∃ f, (BK).getD J fr0 = f := ⟨_, rfl⟩
                                have hfo := HBA.out _ (fra_mem (show J < (BK).length by rw [HBL.out]; exact hJ))
                                rw [hf] at hfo
                                rcases HW7.out.bk.2 with ⟨hv, h0⟩ | ⟨gf, cap', cur, hv, _⟩
                                · rw [HBL.out] at h0; omega
                                rw [HBL.out] at hv
                                cases hv
                                obtain ⟨d0, d1, d2, d3⟩ := RowF.f4n HW7.out.bk HBL.out J hJ
                                rw [hf] at d0 d1 d2 d3
                                simp only at d0 d1 d2 d3
                                have HAH := Lib.hid (pa_hear (x0 := x0) (x1 := x1) (ts := ts) (k := k) (nx := nx2) hfo (by rw [HLN.out]; exact hn3) HK2.out)
                                have HFS := Lib.hid hfo.2.2
                                clear hfo hf
                                go_wp2_with fail
                                refine (tq_hearE (f := (fe, fs, fa, fd)) HAH.out.1 HAH.out.2.1 HFS.out (by unfold endA; simp) H7.out).mono ?_
                                rintro e wz ⟨rfl, ⟨cs9, cr9, h⟩, ho⟩
                                have HZ := Lib.hid h
                                have HWZ := Lib.hid (HW7.out.oth ho)
                                clear h ho d0 d1 d2 d3
                                go_wp2
                                go_roundw
                                case rel => exact ⟨r + 1, by omega, by go_num, _, nx2, q, q, ep, _, _, _, _, a1, n1, c1, _, _, n2, _, _, ag, cg, rfl, rfl, rfl, rfl, HZ.out, HWZ.out, HAH.out.2.2, hn3, HPB.out, HTA.out, HBA.out, HTL.out, HBL.out, by omega, by omega⟩
                                case measure => simp [intOf]; omega
                              have k9 : decide ((0 : Int) < (n2 : Int)) = false := decide_eq_false (by omega)
                              have k9b : decide (0 < n2) = false := decide_eq_false hb0
                              have HTA : Hid (∀ f ∈ TH, thereOk ts f) := Lib.hid (HTH.out)
                              have HBA : Hid (∀ f ∈ BK, backOk f) := Lib.hid (HBK.out)
                              have HTL : Hid ((TH).length = n1) := Lib.hid (HL1.out)
                              have HBL : Hid ((BK).length = n2) := Lib.hid (HL2.out)
                              go_wp2
                              go_roundw
                              case rel => exact ⟨r + 1, by omega, by go_num, k, nx2, q, q, ep, _, _, _, _, a1, n1, c1, _, a2, n2, c2, _, ag, cg, rfl, rfl, rfl, rfl, H7.out, HW7.out, HK2.out, hn3, HPB.out, HTA.out, HBA.out, HTL.out, HBL.out, by omega, by omega⟩
                              case measure => simp [intOf]; omega
                            have k12 : decide (P1 = 1) = false := decide_eq_false hp2
                            have k13 : (P1 == 1) = false := beq_eq_false_iff_ne.2 hp2
                            have HTA : Hid (∀ f ∈ TH, thereOk ts f) := Lib.hid (HTH.out)
                            have HBA : Hid (∀ f ∈ BK, backOk f) := Lib.hid (HBK.out)
                            have HTL : Hid ((TH).length = n1) := Lib.hid (HL1.out)
                            have HBL : Hid ((BK).length = n2) := Lib.hid (HL2.out)
                            go_wp2
                            go_roundw
                            case rel => exact ⟨r + 1, by omega, by go_num, k, nx2, q, q, ep, _, _, _, _, a1, n1, c1, _, a2, n2, c2, _, ag, cg, rfl, rfl, rfl, rfl, H7.out, HW7.out, HK2.out, hn3, HPB.out, HTA.out, HBA.out, HTL.out, HBL.out, by omega, by omega⟩
                            case measure => simp [intOf]; omega
                · have kn : decide ((nx2 : Int) < (i : Int)) = false := decide_eq_false (by omega)
                  have HK2 := Lib.hid hmn2
                  have H4 := Lib.hid h.swap
                  have HW4 := Lib.hid hrw
                  clear h hrw
                  obtain ⟨hd, he, e1, e2, hyes, hno⟩ := pb_pop_any (x0 := x0) (x1 := x1) HPB.out
                  have HE1 := Lib.hid e1
                  have HE2 := Lib.hid e2
                  have HY := Lib.hid hyes
                  have HN := Lib.hid hno
                  have p5 := H4.out.t1.c5
                  clear e1 e2 hyes hno
                  go_wp2_with fail
                  refine (tq_pop HE1.out HE2.out (by have := pb_q (x0 := x0) (x1 := x1) HPB.out; rw [HLN.out] at this; omega) H4.out).mono ?_
                  rintro e w5 ⟨rfl, h, ho⟩
                  have H5 := Lib.hid h
                  have HW5 := Lib.hid (HW4.out.oth ho)
                  clear h ho H4 HW4 p5 HE1 HE2
                  go_wp2_with fail
                  go_loopw [13, 17, 18] (fun v13 v17 v18 wr => ∃ (q : Nat) (he : Bool) (hd : ByteArray) (ag : Option Addr) (cg : Nat), PB ts ep q m ∧ v13 = .slice ag q cg ∧ v17 = .string hd ∧ v18 = .bool he ∧ RW B0 wr x0 x1 a1 n1 c1 TH a2 n2 c2 BK ag q cg (ts.take q) ∧ (he = true → q < m ∧ hd = ts.getD q emp ∧ Tq B0 w wr c cs cr (endB x0 x1 ts ep (q + 1) m) b bs br (endA x0 x1 ts k nx2)) ∧ (he = false → q = m ∧ Tq B0 w wr c cs cr (endB x0 x1 ts ep m m) b bs br (endA x0 x1 ts k nx2))) (fun v13 _ _ _ => m - lenOf v13)
                  case atStart => exact ⟨q, he, hd, ag, cg, HPB.out, rfl, rfl, rfl, HW5.out, (fun e => ⟨(HY.out e).1, (HY.out e).2.1, by rw [← (HY.out e).2.2]; exact H5.out⟩), (fun e => ⟨(HN.out e).1, by rw [← (HN.out e).2]; exact H5.out⟩)⟩
                  case round =>
                    clear H5 HW5 HPB HY HN
                    obtain ⟨q, he, hd, ag, cg, hpb, rfl, rfl, rfl, hrw, hyes, hno⟩ := hrel
                    cases he with
                    | true =>
                      obtain ⟨hlt4, hhd, h⟩ := hyes rfl
                      have HPBQ := Lib.hid hpb
                      have hmn := hpb.2.1
                      rw [HLN.out] at hmn
                      have HHD := Lib.hid hhd
                      have HPB2 : Hid (PB ts ep (q + 1) m) := Lib.hid ⟨by omega, hpb.2.1, hpb.2.2⟩
                      have HTK := Lib.hid (take_snoc (show q < ts.length by rw [HLN.out]; omega))
                      have HL : Hid ((ts.take q).length = q) := Lib.hid (by rw [List.length_take, HLN.out]; omega)
                      have H8 := Lib.hid (h.next (Joins.below_alloc1 wr (.cells #[.string hd] 9)))
                      have HW8 := Lib.hid (hrw.next (Joins.below_alloc1 wr (.cells #[.string hd] 9)))
                      clear hyes hno h hrw hhd hpb
                      go_wp2_with (at_builtin; refine wpList_appS1 rfl (.tmp 98) (.tmp 100) rfl B0 ag q cg (ts.take q) HL.out rfl HW8.out.got _ rfl hd (ssAt_one wr hd) (by omega) H8.out.le ?_; intro a5 c5 w5 hr5 hg5; have H9 := Lib.hid (H8.out.rowS HW8.out.got hg5); have HW9 := Lib.hid (HW8.out.appS hr5 hg5); have p9 := H9.out.t1.c5; clear hr5 hg5 H8 HW8)
                      have HW9 : Hid (RW B0 w5 x0 x1 a1 n1 c1 TH a2 n2 c2 BK a5 (q + 1) c5 (ts.take (q + 1))) := Lib.hid (by have := HW9.out; rw [HHD.out, ← HTK.out] at this; exact this)
                      obtain ⟨hd2, he2, e1, e2, hyes, hno⟩ := pb_pop_any (x0 := x0) (x1 := x1) HPB2.out
                      have HY := Lib.hid hyes
                      have HN := Lib.hid hno
                      clear hyes hno
                      refine (tq_pop e1 e2 (by have := pb_q (x0 := x0) (x1 := x1) HPB2.out; rw [HLN.out] at this; omega) H9.out).mono ?_
                      rintro e wa ⟨rfl, h, ho⟩
                      have HA := Lib.hid h
                      have HWA := Lib.hid (HW9.out.oth ho)
                      clear h ho H9 HW9 p9 e1 e2
                      go_wp2
                      go_roundw
                      case rel => exact ⟨q + 1, he2, hd2, a5, c5, HPB2.out, rfl, rfl, rfl, HWA.out, (fun e => ⟨(HY.out e).1, (HY.out e).2.1, by rw [← (HY.out e).2.2]; exact HA.out⟩), (fun e => ⟨(HN.out e).1, by rw [← (HN.out e).2]; exact HA.out⟩)⟩
                      case measure => simp only [lenOf]; omega
                    | false =>
                      obtain ⟨rfl, h⟩ := hno rfl
                      have hqn := hpb.2.1
                      rw [HLN.out] at hqn
                      have HPB := Lib.hid hpb
                      have H6 := Lib.hid h.swap
                      have HW6 := Lib.hid hrw
                      clear hyes hno h hrw hpb
                      have s1 := fun w => slS_front a i cap q (by omega) w
                      have k6 : decide ((i : Int) < (q : Int)) = false := decide_eq_false (by omega)
                      have HL : Hid ((ts.take q).length = q) := Lib.hid (by rw [List.length_take, HLN.out]; omega)
                      go_wp2_with fail
                      refine (same_yes _ _ q _ _ (ts.take q) (by omega) _ (HW6.out.got.isS HL.out.symm).1 (ssAt_front (ssAt_below HI.out H6.out.bel (Nat.le_of_eq HB0.out)) (by omega))).mono ?_
                      rintro e w7 ⟨rfl, e1, e2, e3, e4⟩
                      have H7 := Lib.hid (H6.out.asit e1 e2 e3 e4)
                      have HW7 := Lib.hid (HW6.out.next (below_asit e1 e2 e3 e4))
                      clear e1 e2 e3 e4 H6 HW6 s1
                      obtain ⟨G, hG⟩ : ∃ G, (endA x0 x1 ts k nx2).frames = G := ⟨_, rfl⟩
                      obtain ⟨L, hL⟩ : ∃ L, G.length = L := ⟨_, rfl⟩
                      obtain ⟨G2, hG2⟩ : ∃ G, (endB x0 x1 ts ep q q).frames = G := ⟨_, rfl⟩
                      obtain ⟨L2, hL2⟩ : ∃ L, G2.length = L := ⟨_, rfl⟩
                      obtain ⟨s1, hs1⟩ : ∃ s, n1 + L = s := ⟨_, rfl⟩
                      obtain ⟨s2, hs2⟩ : ∃ s, n2 + L2 = s := ⟨_, rfl⟩
                      have HGF := Lib.hid hG
                      have HGL := Lib.hid hL
                      have HG2F := Lib.hid hG2
                      have HG2L := Lib.hid hL2
                      have HSM1 := Lib.hid hs1
                      have HSM2 := Lib.hid hs2
                      have hLb : L ≤ 16 ∧ 1 ≤ L := by
                        have h1 := pe_len (x0 := x0) (x1 := x1) (ts := ts) (k := k) (nx := nx2) (by rw [HLN.out]; exact hn3)
                        obtain ⟨v, Lr, u, M, hx, _⟩ := H7.out.ex
                        have hd : (endA x0 x1 ts k nx2).ds.length ≤ 16 := by have := hx.sn.ok.len; have := hx.sn.ok.w2; omega
                        have h2 := frames_len hd
                        rw [hG, hL] at h1 h2
                        omega
                      have hL2b : L2 ≤ 1 := by have := pb_fewf (x0 := x0) (x1 := x1) (ts := ts) (ep := ep) (q := q) (m := q); rw [hG2, hL2] at this; exact this
                      have HGT : Hid (∀ f ∈ G, thereOk ts f) := Lib.hid (by rw [← hG]; exact pa_frames HSH.out HK2.out (by rw [HLN.out]; exact hn3))
                      have HGB : Hid (∀ f ∈ G2, backOk f) := Lib.hid (by rw [← hG2]; exact pb_back HPB.out)
                      clear hG hL hG2 hL2 hs1 hs2
                      go_upto_if 118 with fail
                      go_cut [11] from 63 to 167 (fun v11 wx => ∃ (a1 : Option Addr) (n1 c1 : Nat) (TH : List Fra), v11 = .slice a1 n1 c1 ∧ Tq B0 w wx b bs br (endA x0 x1 ts k nx2) c cs cr (endB x0 x1 ts ep q q) ∧ RW B0 wx x0 x1 a1 n1 c1 TH a2 n2 c2 BK ag q cg (ts.take q) ∧ (∀ f ∈ TH, thereOk ts f) ∧ TH.length = n1 ∧ 0 < n1 ∧ n1 ≤ 216)
                      case first =>
                        by_cases hT : n1 < 200
                        · have kT : decide ((n1 : Int) < 200) = true := decide_eq_true (by omega)
                          go_wp2_with fail
                          refine (tq_frames HGF.out HGL.out H7.out).mono ?_
                          rintro e wa ⟨al, cl, rfl, hr, hb, h⟩
                          have HA := Lib.hid h
                          have HWA := Lib.hid (HW7.out.next hb)
                          have HFA := Lib.hid (hr.isF HGL.out.symm)
                          clear hr hb h H7 HW7
                          have hsb : s1 ≤ 216 := by have := HSM1.out; omega
                          go_wp2_with (at_builtin; refine wpList_appFs rfl (.tmp 119) (.tmp 121) rfl B0 a1 n1 c1 TH HL1.out rfl HWA.out.th al L cl rfl G HFA.out.1 HFA.out.2.1 HFA.out.2.2 s1 HSM1.out (by omega) HA.out.le ?_; intro a5 c5 w5 hr5 hg5 ho5; have HC := Lib.hid (HA.out.rowF HWA.out.th hg5); have HWC := Lib.hid (HWA.out.appT hr5 hg5 ho5); clear hr5 hg5 ho5 HA HWA HFA)
                          go_meet
                          case rel => exact ⟨_, s1, _, TH ++ G, rfl, HC.out, HWC.out, all_app HTH.out HGT.out, by rw [List.length_append, HL1.out, HGL.out]; exact HSM1.out, by have := HSM1.out; omega, hsb⟩
                        · have kT : decide ((n1 : Int) < 200) = false := decide_eq_false (by omega)
                          go_wp2_with fail
                          go_meet
                          case rel => exact ⟨a1, n1, c1, TH, rfl, H7.out, HW7.out, HTH.out, HL1.out, by omega, hn1⟩
                      case rest =>
                        clear H7 HW7 HTH HL1 HGF HGL HSM1 HGT hn1 hLb s1 L G
                        obtain ⟨a1, n1, c1, TH, rfl, h, hrw, hth, hlt1, hn1p, hn1⟩ := hcut
                        have H7 := Lib.hid h
                        have HW7 := Lib.hid hrw
                        have HTH := Lib.hid hth
                        have HL1 := Lib.hid hlt1
                        clear h hrw hth hlt1
                        go_upto_if 125 with fail
                        go_cut [12] from 63 to 167 (fun v12 wx => ∃ (a2 : Option Addr) (n2 c2 : Nat) (BK : List Fra), v12 = .slice a2 n2 c2 ∧ Tq B0 w wx b bs br (endA x0 x1 ts k nx2) c cs cr (endB x0 x1 ts ep q q) ∧ RW B0 wx x0 x1 a1 n1 c1 TH a2 n2 c2 BK ag q cg (ts.take q) ∧ (∀ f ∈ BK, backOk f) ∧ BK.length = n2 ∧ n2 ≤ 216)
                        case first =>
                          by_cases hB : n2 < 200
                          · have kB : decide ((n2 : Int) < 200) = true := decide_eq_true (by omega)
                            go_wp2_with fail
                            refine (tq_frames HG2F.out HG2L.out H7.out.swap).mono ?_
                            rintro e wd ⟨am, cm, rfl, hr, hb, h⟩
                            have HD := Lib.hid h.swap
                            have HWD := Lib.hid (HW7.out.next hb)
                            have HFD := Lib.hid (hr.isF HG2L.out.symm)
                            clear hr hb h H7 HW7
                            have hsb2 : s2 ≤ 216 := by have := HSM2.out; omega
                            go_wp2_with (at_builtin; refine wpList_appFs rfl (.tmp 126) (.tmp 128) rfl B0 a2 n2 c2 BK HL2.out rfl HWD.out.bk am L2 cm rfl G2 HFD.out.1 HFD.out.2.1 HFD.out.2.2 s2 HSM2.out (by omega) HD.out.le ?_; intro a6 c6 w6 hr6 hg6 ho6; have HE := Lib.hid (HD.out.rowF HWD.out.bk hg6); have HWE := Lib.hid (HWD.out.appB hr6 hg6 ho6); clear hr6 hg6 ho6 HD HWD HFD)
                            go_meet
                            case rel => exact ⟨_, s2, _, BK ++ G2, rfl, HE.out, HWE.out, all_app HBK.out HGB.out, by rw [List.length_append, HL2.out, HG2L.out]; exact HSM2.out, hsb2⟩
                          · have kB : decide ((n2 : Int) < 200) = false := decide_eq_false (by omega)
                            go_wp2_with fail
                            go_meet
                            case rel => exact ⟨a2, n2, c2, BK, rfl, H7.out, HW7.out, HBK.out, HL2.out, hn2⟩
                        case rest =>
                          clear H7 HW7 HBK HL2 HG2F HG2L HSM2 HGB hn2 hL2b s2 L2 G2
                          obtain ⟨a2, n2, c2, BK, rfl, h, hrw, hbk, hlt2, hn2⟩ := hcut
                          have H7 := Lib.hid h
                          have HW7 := Lib.hid hrw
                          have HBK := Lib.hid hbk
                          have HL2 := Lib.hid hlt2
                          clear h hrw hbk hlt2
                          obtain ⟨P1, hP1⟩ : ∃ P, bits BinOp.and IntKind.u16 p 1 = P := ⟨_, rfl⟩
                          by_cases hp1 : P1 = 0
                          · subst hp1
                            have hpos := hn1p
                            have k9 : decide ((0 : Int) < (n1 : Int)) = true := decide_eq_true (by omega)
                            have k9b : decide (0 < n1) = true := decide_eq_true hpos
                            obtain ⟨J, hJ, ej⟩ := pair_ix p HP0.out.1 HP0.out.2 n1 hpos
                            have ej2 : wrap64 ((p.tdiv 2).tmod (n1 : Int)) = (J : Int) := by rw [ej]; unfold wrap64; omega
                            have ej3 : (p / 2).tmod (n1 : Int) = (J : Int) := by rw [← pair_div p HP0.out.1]; exact ej
                            have ej4 : (p / 2) % (n1 : Int) = (J : Int) := by rw [← ej3, Int.tmod_eq_emod_of_nonneg (by have := HP0.out.1; omega)]
                            have ej5 : (wrap64 (IntKind.u16.wrap (p.tdiv 2))).tmod (n1 : Int) = (J : Int) := by rw [pair_w p HP0.out.1 HP0.out.2]; exact ej
                            have HTA : Hid (∀ f ∈ TH, thereOk ts f) := Lib.hid (HTH.out)
                            have HBA : Hid (∀ f ∈ BK, backOk f) := Lib.hid (HBK.out)
                            have HTL : Hid ((TH).length = n1) := Lib.hid (HL1.out)
                            have HBL : Hid ((BK).length = n2) := Lib.hid (HL2.out)
                            obtain ⟨⟨fe, fs, fa, fd⟩, hf⟩ : ∃ f, (TH).getD J fr0 = f := ⟨_, rfl⟩
                            have hfo := HTA.out _ (fra_mem (show J < (TH).length by rw [HTL.out]; exact hJ))
                            rw [hf] at hfo
                            rcases HW7.out.th.2 with ⟨hv, h0⟩ | ⟨gf, cap', cur, hv, _⟩
                            · rw [HTL.out] at h0; omega
                            rw [HTL.out] at hv
                            cases hv
                            obtain ⟨d0, d1, d2, d3⟩ := RowF.f4n HW7.out.th HTL.out J hJ
                            rw [hf] at d0 d1 d2 d3
                            simp only at d0 d1 d2 d3
                            obtain ⟨m2, hpb2, hh⟩ := pb_hear (x0 := x0) (x1 := x1) hfo HPB.out
                            obtain ⟨an, han⟩ : ∃ an, (endB x0 x1 ts ep q q).anew (fe, fs, fa, fd) = an := ⟨_, rfl⟩
                            have HHH := Lib.hid hh
                            have HAN := Lib.hid han
                            have HPB2 := Lib.hid hpb2
                            have HFS := Lib.hid hfo.2.2.1
                            clear hh han hpb2 hfo hf
                            go_wp2_with fail
                            refine (tq_hearE (f := (fe, fs, fa, fd)) HHH.out HAN.out HFS.out (by have := pb_q (x0 := x0) (x1 := x1) HPB.out; rw [HLN.out] at this; omega) H7.out.swap).mono ?_
                            rintro e wz ⟨rfl, ⟨cs9, cr9, h⟩, ho⟩
                            have HZ := Lib.hid h.swap
                            have HWZ := Lib.hid (HW7.out.oth ho)
                            clear h ho d0 d1 d2 d3
                            go_wp2
                            go_roundw
                            case rel => exact ⟨r + 1, by omega, by go_num, k, nx2, q, m2, 1, _, _, _, _, _, n1, _, _, a2, n2, c2, _, ag, cg, rfl, rfl, rfl, rfl, HZ.out, HWZ.out, HK2.out, hn3, HPB2.out, HTA.out, HBA.out, HTL.out, HBL.out, by omega, by omega⟩
                            case measure => simp [intOf]; omega
                          have k10 : decide (P1 = 0) = false := decide_eq_false hp1
                          have k11 : (P1 == 0) = false := beq_eq_false_iff_ne.2 hp1
                          by_cases hp2 : P1 = 1
                          · subst hp2
                            by_cases hb0 : 0 < n2
                            · have hpos : 0 < n2 := hb0
                              have k9 : decide ((0 : Int) < (n2 : Int)) = true := decide_eq_true (by omega)
                              have k9b : decide (0 < n2) = true := decide_eq_true hpos
                              obtain ⟨J, hJ, ej⟩ := pair_ix p HP0.out.1 HP0.out.2 n2 hpos
                              have ej2 : wrap64 ((p.tdiv 2).tmod (n2 : Int)) = (J : Int) := by rw [ej]; unfold wrap64; omega
                              have ej3 : (p / 2).tmod (n2 : Int) = (J : Int) := by rw [← pair_div p HP0.out.1]; exact ej
                              have ej4 : (p / 2) % (n2 : Int) = (J : Int) := by rw [← ej3, Int.tmod_eq_emod_of_nonneg (by have := HP0.out.1; omega)]
                              have ej5 : (wrap64 (IntKind.u16.wrap (p.tdiv 2))).tmod (n2 : Int) = (J : Int) := by rw [pair_w p HP0.out.1 HP0.out.2]; exact ej
                              have HTA : Hid (∀ f ∈ TH, thereOk ts f) := Lib.hid (HTH.out)
                              have HBA : Hid (∀ f ∈ BK, backOk f) := Lib.hid (HBK.out)
                              have HTL : Hid ((TH).length = n1) := Lib.hid (HL1.out)
                              have HBL : Hid ((BK).length = n2) := Lib.hid (HL2.out)
                              obtain ⟨⟨fe, fs, fa, fd⟩, hf⟩ : ∃ f, (BK).getD J fr0 = f := ⟨_, rfl⟩
                              have hfo := HBA.out _ (fra_mem (show J < (BK).length by rw [HBL.out]; exact hJ))
                              rw [hf] at hfo
                              rcases HW7.out.bk.2 with ⟨hv, h0⟩ | ⟨gf, cap', cur, hv, _⟩
                              · rw [HBL.out] at h0; omega
                              rw [HBL.out] at hv
                              cases hv
                              obtain ⟨d0, d1, d2, d3⟩ := RowF.f4n HW7.out.bk HBL.out J hJ
                              rw [hf] at d0 d1 d2 d3
                              simp only at d0 d1 d2 d3
                              have HAH := Lib.hid (pa_hear (x0 := x0) (x1 := x1) (ts := ts) (k := k) (nx := nx2) hfo (by rw [HLN.out]; exact hn3) HK2.out)
                              have HFS := Lib.hid hfo.2.2
                              clear hfo hf
                              go_wp2_with fail
                              refine (tq_hearE (f := (fe, fs, fa, fd)) HAH.out.1 HAH.out.2.1 HFS.out (by unfold endA; simp) H7.out).mono ?_
                              rintro e wz ⟨rfl, ⟨cs9, cr9, h⟩, ho⟩
                              have HZ := Lib.hid h
                              have HWZ := Lib.hid (HW7.out.oth ho)
                              clear h ho d0 d1 d2 d3
                              go_wp2
                              go_roundw
                              case rel => exact ⟨r + 1, by omega, by go_num, _, nx2, q, q, ep, _, _, _, _, a1, n1, c1, _, _, n2, _, _, ag, cg, rfl, rfl, rfl, rfl, HZ.out, HWZ.out, HAH.out.2.2, hn3, HPB.out, HTA.out, HBA.out, HTL.out, HBL.out, by omega, by omega⟩
                              case measure => simp [intOf]; omega
                            have k9 : decide ((0 : Int) < (n2 : Int)) = false := decide_eq_false (by omega)
                            have k9b : decide (0 < n2) = false := decide_eq_false hb0
                            have HTA : Hid (∀ f ∈ TH, thereOk ts f) := Lib.hid (HTH.out)
                            have HBA : Hid (∀ f ∈ BK, backOk f) := Lib.hid (HBK.out)
                            have HTL : Hid ((TH).length = n1) := Lib.hid (HL1.out)
                            have HBL : Hid ((BK).length = n2) := Lib.hid (HL2.out)
                            go_wp2
                            go_roundw
                            case rel => exact ⟨r + 1, by omega, by go_num, k, nx2, q, q, ep, _, _, _, _, a1, n1, c1, _, a2, n2, c2, _, ag, cg, rfl, rfl, rfl, rfl, H7.out, HW7.out, HK2.out, hn3, HPB.out, HTA.out, HBA.out, HTL.out, HBL.out, by omega, by omega⟩
                            case measure => simp [intOf]; omega
                          have k12 : decide (P1 = 1) = false := decide_eq_false hp2
                          have k13 : (P1 == 1) = false := beq_eq_false_iff_ne.2 hp2
                          have HTA : Hid (∀ f ∈ TH, thereOk ts f) := Lib.hid (HTH.out)
                          have HBA : Hid (∀ f ∈ BK, backOk f) := Lib.hid (HBK.out)
                          have HTL : Hid ((TH).length = n1) := Lib.hid (HL1.out)
                          have HBL : Hid ((BK).length = n2) := Lib.hid (HL2.out)
                          go_wp2
                          go_roundw
                          case rel => exact ⟨r + 1, by omega, by go_num, k, nx2, q, q, ep, _, _, _, _, a1, n1, c1, _, a2, n2, c2, _, ag, cg, rfl, rfl, rfl, rfl, H7.out, HW7.out, HK2.out, hn3, HPB.out, HTA.out, HBA.out, HTL.out, HBL.out, by omega, by omega⟩
                          case measure => simp [intOf]; omega
            · obtain rfl : r = len2 := by omega
              have H4 := Lib.hid h
              have z0 : wr.cell? ⟨B0, 0, none⟩ = some (.int .i64 x0) := cell_at hrw.box 0 _ rfl
              have z1 : wr.cell? ⟨B0, 1, none⟩ = some (.int .i64 x1) := cell_at hrw.box 1 _ rfl
              clear h hrw
              go_wp2_with fail
              refine (ends_yes x0 x1 a i cap (by omega) ts HSH.out wr (ssAt_below HI.out H4.out.bel (Nat.le_of_eq HB0.out))).mono ?_
              rintro e w5 ⟨rfl, hb⟩
              have H5 := Lib.hid (H4.out.next hb)
              clear hb H4 z0 z1
              go_wp2
              go_ret
              exact ⟨rfl, by rw [HB0.out]; exact H5.out.bel⟩
    exact AllReadyH.nil
  exact AllReadyH.nil
end Go.Proofs.Ytclobdejlihblaa
