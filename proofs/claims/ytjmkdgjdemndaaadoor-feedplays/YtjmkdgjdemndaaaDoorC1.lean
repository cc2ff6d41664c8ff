/- A log, as it lies in memory: told by the blocks that are its own. -/
import Derived.Test.YtjmkdgjdemndaaaDoorC0
import Derived.Deep.RegionHeld3
namespace Go.Proofs.YtjmkdgjdemndaaaDoor
open Go Go.RowKit
set_option maxRecDepth 20000
theorem i64_id {n : Int} (h1 : -9223372036854775808 ≤ n) (h2 : n ≤ 9223372036854775807) : IntKind.i64.wrap n = n := by
  simp only [IntKind.wrap, IntKind.bits, IntKind.signed]
  simp
  omega
theorem step_append_run {ops : Array Oper} {o : Oper} {a : Act} {K : Act → World → Prop} {Q : Exit → Act → World → Prop} {E : Prop} {w w' : World} (hw : Region.wanted o (yielded ops a.tmps) = true) (s x : Operand) (t : TypeId)
    (ho : o.op = .call { callee := .builtin .append, args := #[s, x], argTypes := #[t, t] }) (vs vx v' : Value) (hs : a.eval s = vs) (hx : a.eval x = vx) (hrun : (Builtin.append_ #[t, t] o.type #[vs, vx]).run Tryd.prog w = .ok v' w') (h : K (a.put o.dst v') w') :
    if Region.wanted o (yielded ops a.tmps) = true then Oper.wp Tryd.prog o a w K Q else E := by
  rw [if_pos hw]
  unfold Oper.wp execOp
  simp only [ho, resolve, invoke, builtin, Sem.run_bind, Sem.run_pure, Result.andThen_ok, List.map_toArray, List.map_cons, List.map_nil, hs, hx, hrun]
  exact h
/-- A log in block b, of type T, with the cells cs: its row of rounds in the slice v, their updates in the blocks S. -/
structure Kn (T : TypeId) (B : Nat) (w : World) (b : Nat) (cs : Array Value) (v : Value) (S : Nat → Prop) (rs : List Rn) : Prop where
  lo : B ≤ b
  blk : w.heap[b]? = some (.cells cs T (0, 0))
  row : RowR B w v rs
  each : ∀ r ∈ rs, Ru w r ∧ ∀ g off, r.a = some ⟨g, off, none⟩ → S g
  own : ∀ g, S g → B ≤ g ∧ ∃ cur, w.heap[g]? = some (.cells cur 114 (0, 0))
theorem Rw.typ {w : World} {g : Nat} {us : List Up} (h : Rw w g us) : ∃ cur, w.heap[g]? = some (.cells cur 114 (0, 0)) := ⟨_, h⟩
section
variable {T : TypeId} {B b : Nat} {w w' w1 w3 W : World} {cs : Array Value} {v : Value} {S : Nat → Prop} {F : Nat → Prop} {rs : List Rn}
theorem Kn.c (h : Kn T B w b cs v S rs) (i : Nat) (x : Value) (hx : cs[i]? = some x) : w.cell? ⟨b, i, none⟩ = some x := cell_at h.blk i x hx
theorem Kn.f0 (h : Kn T B w b cs v S rs) (i : Nat) : w.frozen? ⟨b, i, none⟩ = false := by have := h.blk; simp [World.frozen?, this]
theorem Kn.lt (h : Kn T B w b cs v S rs) : b < w.heap.size := (Array.getElem?_eq_some_iff.1 h.blk).1
theorem Kn.foot (h : Kn T B w b cs v S rs) (k : Nat) (hk : Jf b v S k) : B ≤ k ∧ k < w.heap.size := by
  rcases hk with rfl | hk | hk
  · exact ⟨h.lo, h.lt⟩
  · obtain ⟨h1, cur, h2⟩ := h.row.typ k hk
    exact ⟨h1, (Array.getElem?_eq_some_iff.1 h2).1⟩
  · obtain ⟨h1, cur, h2⟩ := h.own k hk
    exact ⟨h1, (Array.getElem?_eq_some_iff.1 h2).1⟩
theorem Kn.keep (h : Kn T B w b cs v S rs) (hk : ∀ k, Jf b v S k → w'.heap[k]? = w.heap[k]?) : Kn T B w' b cs v S rs :=
  ⟨h.lo, (hk b (.inl rfl)).trans h.blk, h.row.same fun j hj => hk j (.inr (.inl hj)), fun r hr => ⟨⟨isUs_same (h.each r hr).1.1 fun b off e => hk b (.inr (.inr ((h.each r hr).2 b off e))), (h.each r hr).1.2⟩, (h.each r hr).2⟩, fun g hg => ⟨(h.own g hg).1, by
    obtain ⟨cur, hc⟩ := (h.own g hg).2
    exact ⟨cur, (hk g (.inr (.inr hg))).trans hc⟩⟩⟩
theorem Kn.next (h : Kn T B w b cs v S rs) (hb : Below w.heap.size w w') : Kn T B w' b cs v S rs := h.keep fun k hk => hb.block k (h.foot k hk).2
theorem Kn.is (h : Kn T B w b cs v S rs) : ∃ a c, v = .slice a rs.length c ∧ IsRs w a rs.length rs ∧ rs.length ≤ c ∧ (a = none → c = 0) := by
  obtain ⟨a, c, rfl, hx, hc, hn⟩ := h.row.is
  exact ⟨a, c, rfl, ⟨rfl, hx.lies, fun r hr => (h.each r hr).1⟩, hc, hn⟩
theorem Kn.vb (h : Kn T B w b cs v S rs) (hT : T ≠ 43) : v.ownBlock ≠ some b := fun e => by
  obtain ⟨_, cur, hc⟩ := h.row.typ b e
  exact two_types h.blk hc hT rfl
theorem Kn.vS (h : Kn T B w b cs v S rs) (g : Nat) (hg : S g) : v.ownBlock ≠ some g := fun e => by
  obtain ⟨_, cur, hc⟩ := h.row.typ g e
  obtain ⟨_, cur', hc'⟩ := h.own g hg
  exact two_types hc hc' (by decide) rfl
theorem Kn.bS (h : Kn T B w b cs v S rs) (hT : T ≠ 114) : ¬ S b := fun hg => by
  obtain ⟨_, cur', hc'⟩ := h.own b hg
  exact two_types h.blk hc' hT rfl
/-- A cell of the log's block is stored, its row stays. -/
theorem Kn.set (h : Kn T B w b cs v S rs) (hT : T ≠ 43) (hU : T ≠ 114) (i : Nat) (x : Value) : Kn T B (w.setCell ⟨b, i, none⟩ x) b (cs.setIfInBounds i x) v S rs := by
  have hvb := h.vb hT
  have hSb := h.bS hU
  have hne : ∀ k, k ≠ b → (w.setCell ⟨b, i, none⟩ x).heap[k]? = w.heap[k]? := fun k hk => Below.heap_setCell _ _ _ _ hk
  refine ⟨h.lo, by simp [World.setCell, Array.getElem?_modify, h.blk], h.row.same fun j hj => hne j fun e => hvb (by rw [hj, e]), fun r hr => ⟨⟨isUs_same (h.each r hr).1.1 fun g off e => hne g fun e' => hSb (by rw [← e']; exact (h.each r hr).2 g off e), (h.each r hr).1.2⟩, (h.each r hr).2⟩, fun g hg => ⟨(h.own g hg).1, ?_⟩⟩
  obtain ⟨cur, hc⟩ := (h.own g hg).2
  exact ⟨cur, (hne g fun e => hSb (by rw [← e]; exact hg)).trans hc⟩
/-- A log when one more round is in its row: in the world W it was as it came; w3 came of new memory; w5 of the append; then its row is stored. -/
theorem com_fin {w5 : World} {r : Rn} {g : Nat} {a' : Option Addr} {c' : Nat} (h : Kn T B W b cs v S rs) (hb : Below W.heap.size W w3) (hru : Ru w3 r) (hg : r.a = some ⟨g, 0, none⟩) (hgB : B ≤ g) (hgt : ∃ cur, w3.heap[g]? = some (.cells cur 114 (0, 0)))
    (hT : T ≠ 43) (hU : T ≠ 114) (O : Obj) (i : Nat) (hrow : RowR B w5 (.slice a' (rs.length + 1) c') (rs ++ [r])) (hgr : (w3.alloc O).grownBy w5 v.ownBlock) :
    Kn T B (w5.setCell ⟨b, i, none⟩ (.slice a' (rs.length + 1) c')) b (cs.setIfInBounds i (.slice a' (rs.length + 1) c')) (.slice a' (rs.length + 1) c') (fun k => S k ∨ k = g) (rs ++ [r]) := by
  have s3 := hb.size
  have hsz : (w3.alloc O).heap.size = w3.heap.size + 1 := by simp
  have h4 : Kn T B (w3.alloc O) b cs v S rs := (h.next hb).next (Joins.below_alloc1 _ _)
  have hvb := h4.vb hT
  have hbl := h4.lt
  obtain ⟨curg, hcg⟩ := hgt
  have hgl : g < w3.heap.size := (Array.getElem?_eq_some_iff.1 hcg).1
  have hcg4 : (w3.alloc O).heap[g]? = some (.cells curg 114 (0, 0)) := (Below.heap_alloc _ _ _ hgl).trans hcg
  have hvg : v.ownBlock ≠ some g := fun e => by
    obtain ⟨_, cur, hc⟩ := h4.row.typ g e
    exact two_types hc hcg4 (by decide) rfl
  have b5 : w5.heap[b]? = some (.cells cs T (0, 0)) := (hgr.block b hbl (fun e => hvb e.symm)).trans h4.blk
  have hne : (Value.slice a' (rs.length + 1) c').ownBlock ≠ some b := fun e => by
    obtain ⟨_, cur, hc⟩ := hrow.typ b e
    exact two_types b5 hc hT rfl
  have hgb : g ≠ b := fun e => by
    subst e
    exact two_types h4.blk hcg4 hU rfl
  have hSb := h4.bS hU
  refine ⟨h.lo, by simp [World.setCell, Array.getElem?_modify, b5], hrow.same fun j hj => Below.heap_setCell _ _ _ _ (fun e => hne (by rw [hj, e])), fun x hx => ?_, fun k hk => ?_⟩
  · rcases List.mem_append.1 hx with hx | hx
    · obtain ⟨y1, y2⟩ := h4.each x hx
      refine ⟨⟨isUs_same y1.1 fun j off e => ?_, y1.2⟩, fun j off e => .inl (y2 j off e)⟩
      have hj := y2 j off e
      rw [Below.heap_setCell _ _ _ _ (fun e => hSb (by have e' : j = b := e; rw [← e']; exact hj))]
      exact hgr.block j (h4.foot j (.inr (.inr hj))).2 (fun e => h4.vS j hj e.symm)
    · rw [List.mem_singleton.1 hx]
      refine ⟨⟨isUs_same hru.1 fun j off e => ?_, hru.2⟩, fun j off e => .inr ?_⟩
      · rw [hg] at e
        simp only [Option.some.injEq, Addr.mk.injEq, and_true] at e
        obtain ⟨rfl, _⟩ := e
        rw [Below.heap_setCell _ _ _ _ hgb, hgr.block g (by omega) (fun e => hvg e.symm)]
        exact Below.heap_alloc _ _ _ hgl
      · rw [hg] at e
        simp only [Option.some.injEq, Addr.mk.injEq, and_true] at e
        exact e.1.symm
  · rcases hk with hk | rfl
    · obtain ⟨y1, cur, y2⟩ := h4.own k hk
      refine ⟨y1, cur, ?_⟩
      rw [Below.heap_setCell _ _ _ _ (fun e => hSb (by have e' : k = b := e; rw [← e']; exact hk)), hgr.block k (h4.foot k (.inr (.inr hk))).2 (fun e => h4.vS k hk e.symm)]
      exact y2
    · refine ⟨hgB, curg, ?_⟩
      rw [Below.heap_setCell _ _ _ _ hgb, hgr.block k (by omega) (fun e => hvg e.symm)]
      exact hcg4
theorem com_left {w5 : World} {O : Obj} {i : Nat} {x : Value} (hb : Below W.heap.size W w3) (hgr : (w3.alloc O).grownBy w5 v.ownBlock) : Lv W (w5.setCell ⟨b, i, none⟩ x) (Jf b v S) :=
  (((Lv.ofBelow hb _).trans (Lv.ofBelow (Joins.below_alloc1 w3 O) _)).trans (Lv.grown hgr fun _ hk => .inr (.inl hk))).trans (Lv.set (.inl rfl) _ _)
theorem com_foot {a' : Option Addr} {n c' g N : Nat} (hg : N ≤ g) (hown : (Value.slice a' n c').ownBlock = v.ownBlock ∨ ∃ j, (Value.slice a' n c').ownBlock = some j ∧ N ≤ j) (k : Nat) (hk : Jf b (.slice a' n c') (fun k => S k ∨ k = g) k) : Jf b v S k ∨ N ≤ k := by
  rcases hk with hk | hk | hk | hk
  · exact .inl (.inl hk)
  · rcases hown with h | ⟨j, h, hj⟩
    · exact .inl (.inr (.inl (h ▸ hk)))
    · rw [h] at hk
      cases hk
      exact .inr hj
  · exact .inl (.inr (.inr hk))
  · exact .inr (by omega)
theorem isUs_left {a : Option Addr} {len : Nat} {us : List Up} (h : IsUs w a len us) (hl : Lv w w' F) (hd : ∀ g off, a = some ⟨g, off, none⟩ → ¬ F g) : IsUs w' a len us := by
  by_cases h0 : 0 < len
  · obtain ⟨g, off, e, hf⟩ := h.lies h0
    have hlt := hf.lt (by rw [h.size]; exact h0)
    refine isUs_same h fun g' off' e' => ?_
    rw [e] at e'
    cases e'
    exact hl.block g hlt (hd g off e)
  · obtain rfl : len = 0 := by omega
    exact ⟨h.size, fun h => absurd h (Nat.lt_irrefl _)⟩
theorem com_app {w2 : World} {ax : Option Addr} {c : Nat} (h : Kn T B w b cs (.slice ax rs.length c) S rs) (hA : Below w.heap.size w w2) (hb3 : Below w2.heap.size w2 w3) (r : Rn) (hT : T ≠ 43) (hn : rs.length ≤ 1000) (ty : TypeId) (i : Nat) (hi : cs[i]? = some (.slice ax rs.length c)) :
    ∃ a' c' w5, (Builtin.append_ #[57, 57] ty #[.slice ax rs.length c, .slice (some ⟨w3.heap.size, 0, none⟩) 1 1]).run Tryd.prog (w3.alloc (.cells #[.int .i64 r.o, .int .i64 r.n, .slice r.a r.len r.cap] 43)) = .ok (.slice a' (rs.length + 1) c') w5 ∧ Hid (RowR B w5 (.slice a' (rs.length + 1) c') (rs ++ [r])) ∧ Hid ((w3.alloc (.cells #[.int .i64 r.o, .int .i64 r.n, .slice r.a r.len r.cap] 43)).grownBy w5 (Value.slice ax rs.length c).ownBlock) ∧ Hid ((Value.slice a' (rs.length + 1) c').ownBlock = (Value.slice ax rs.length c).ownBlock ∨ ∃ j, (Value.slice a' (rs.length + 1) c').ownBlock = some j ∧ w2.heap.size ≤ j) ∧ w5.cell? ⟨b, i, none⟩ = some (.slice ax rs.length c) ∧ w5.frozen? ⟨b, i, none⟩ = false ∧ w3.cell? ⟨b, i, none⟩ = some (.slice ax rs.length c) ∧ (w3.alloc (.cells #[.int .i64 r.o, .int .i64 r.n, .slice r.a r.len r.cap] 43)).cell? ⟨b, i, none⟩ = some (.slice ax rs.length c) ∧ Hid (∀ k o' n' a l' c' x, w.heap.size ≤ k → Rb w2 k o' n' a l' c' → Rb w3 k o' n' a l' c' ∧ Rb (w3.alloc (.cells #[.int .i64 r.o, .int .i64 r.n, .slice r.a r.len r.cap] 43)) k o' n' a l' c' ∧ Rb w5 k o' n' a l' c' ∧ Rb (w5.setCell ⟨b, i, none⟩ x) k o' n' a l' c') := by
  have h3 := (h.next hA).next hb3
  have h4 := h3.next (Joins.below_alloc1 w3 (.cells #[.int .i64 r.o, .int .i64 r.n, .slice r.a r.len r.cap] 43))
  have hvb := h4.vb hT
  have hB : B ≤ w3.heap.size := Nat.le_trans h3.lo (Nat.le_of_lt h3.lt)
  obtain ⟨a', c', w5, r1, r2, r3, r4⟩ := run_appR _ ty B _ rs h4.row (some ⟨w3.heap.size, 0, none⟩) 1 1 [r] (rsAt_one w3 r) (Nat.le_refl _) (fun e => by cases e) (by omega) (by simp; omega)
  have s3 := hb3.size
  have hsz : (w3.alloc (.cells #[.int .i64 r.o, .int .i64 r.n, .slice r.a r.len r.cap] 43)).heap.size = w3.heap.size + 1 := by simp
  have b5 : w5.heap[b]? = some (.cells cs T (0, 0)) := (r3.block b h4.lt (fun e => hvb e.symm)).trans h4.blk
  refine ⟨a', c', w5, r1, r2, r3, ?_, cell_at b5 i _ hi, by simp [World.frozen?, b5], h3.c i _ hi, h4.c i _ hi, fun k o' n' al l' cl x hk hr => ?_⟩
  · rcases r4 with e | e
    · exact .inl e
    · exact .inr ⟨_, e, by omega⟩
  · have k3 := hr.next hb3
    have k4 := k3.alloc (.cells #[.int .i64 r.o, .int .i64 r.n, .slice r.a r.len r.cap] 43)
    have k5 := k4.kept r3 (fun e => by
      have := (h.foot k (.inr (.inl e.symm))).2
      omega)
    have hkb : k ≠ b := by have := h.lt; omega
    exact ⟨k3, k4, k5, k5.setnew hkb _ _⟩
end
/-- How the cells of the program's log stand: how many clients, the last numbers at their origins' places, the row. -/
def Pc (c : Int) (L : List Cr) (v : Value) (cs : Array Value) : Prop := cs.size = 67 ∧ cs[0]? = some (.int .i64 c) ∧ cs[66]? = some v ∧ ∀ i : Nat, 1 ≤ i → i ≤ 64 → cs[1 + i]? = some (.int .i64 (lastL (i : Int) L))
/-- How those of the document's stand. -/
def Pd (c : Int) (_L : List Cr) (v : Value) (cs : Array Value) : Prop := cs.size = 2 ∧ cs[0]? = some (.int .i64 c) ∧ cs[1]? = some v
theorem Pc.add {c : Int} {L : List Cr} {v v' : Value} {cs : Array Value} (h : Pc c L v cs) (r : Cr) (on : Nat) (ho : r.1 = (on : Int)) (h1 : 1 ≤ on) (h2 : on ≤ 64) : Pc c (L ++ [r]) v' ((cs.setIfInBounds 66 v').setIfInBounds (1 + on) (.int .i64 r.2.1)) := by
  obtain ⟨k1, k2, k3, k4⟩ := h
  refine ⟨by simpa using k1, ?_, ?_, fun i hi1 hi2 => ?_⟩
  · rw [Array.getElem?_setIfInBounds, Array.getElem?_setIfInBounds, if_neg (by omega), if_neg (by omega)]
    exact k2
  · rw [Array.getElem?_setIfInBounds, Array.getElem?_setIfInBounds, if_neg (by omega), if_pos rfl, if_pos (by omega)]
  · rw [lastL_snoc]
    by_cases e : i = on
    · subst e
      rw [Array.getElem?_setIfInBounds, if_pos rfl, if_pos (by rw [Array.size_setIfInBounds]; omega), if_pos ho]
    · rw [Array.getElem?_setIfInBounds, Array.getElem?_setIfInBounds, if_neg (by omega), if_neg (by omega), if_neg (by omega)]
      exact k4 i hi1 hi2
theorem Pd.add {c : Int} {L : List Cr} {v v' : Value} {cs : Array Value} (h : Pd c L v cs) (r : Cr) : Pd c (L ++ [r]) v' (cs.setIfInBounds 1 v') := by
  obtain ⟨k1, k2, k3⟩ := h
  refine ⟨by simpa using k1, ?_, ?_⟩
  · rw [Array.getElem?_setIfInBounds, if_neg (by omega)]
    exact k2
  · rw [Array.getElem?_setIfInBounds, if_pos rfl, if_pos (by omega)]
/-- A log of type T in block b, whose own blocks are F, of c clients: its rounds are L. -/
def Cx (T : TypeId) (P : Int → List Cr → Value → Array Value → Prop) (B : Nat) (w : World) (b : Nat) (F : Nat → Prop) (c : Int) (L : List Cr) : Prop :=
  ∃ cs v S rs, Kn T B w b cs v S rs ∧ P c L v cs ∧ rs.map kR = L ∧ (∀ r ∈ L, Sm r.2.2) ∧ Good c L ∧ 1 ≤ c ∧ c ≤ 64 ∧ F = Jf b v S
section
variable {T : TypeId} {P : Int → List Cr → Value → Array Value → Prop} {B b : Nat} {w w' w1 : World} {F F' : Nat → Prop} {c : Int} {L : List Cr}
theorem Cx.foot (h : Cx T P B w b F c L) (k : Nat) (hk : F k) : B ≤ k ∧ k < w.heap.size := by
  obtain ⟨cs, v, S, rs, hj, _, _, _, _, _, _, rfl⟩ := h
  exact hj.foot k hk
theorem Cx.keep (h : Cx T P B w b F c L) (hk : ∀ k, F k → w'.heap[k]? = w.heap[k]?) : Cx T P B w' b F c L := by
  obtain ⟨cs, v, S, rs, hj, h1, h2, h3, h4, h5, h6, rfl⟩ := h
  exact ⟨cs, v, S, rs, hj.keep hk, h1, h2, h3, h4, h5, h6, rfl⟩
theorem Cx.next (h : Cx T P B w b F c L) (hb : Below w.heap.size w w') : Cx T P B w' b F c L := h.keep fun k hk => hb.block k (h.foot k hk).2
theorem Cx.asit (h : Cx T P B w b F c L) (e : w'.heap = w.heap) : Cx T P B w' b F c L := h.keep fun k _ => by rw [e]
theorem Cx.other {G : Nat → Prop} (h : Cx T P B w b F c L) (hl : Lv w w' G) (hd : ∀ k, F k → ¬ G k) : Cx T P B w' b F c L := h.keep fun k hk => hl.block k (h.foot k hk).2 (hd k hk)
theorem Cx.setnew (h : Cx T P B w b F c L) {g : Nat} (hg : ¬ F g) (i : Nat) (x : Value) : Cx T P B (w.setCell ⟨g, i, none⟩ x) b F c L := h.keep fun k hk => Below.heap_setCell _ _ _ _ (fun e => hg (by have e' : k = g := e; rw [← e']; exact hk))
theorem Cx.good (h : Cx T P B w b F c L) : Good c L := by
  obtain ⟨cs, v, S, rs, hj, h1, h2, h3, h4, _⟩ := h
  exact h4
theorem Cx.sm (h : Cx T P B w b F c L) : ∀ r ∈ L, Sm r.2.2 := by
  obtain ⟨cs, v, S, rs, hj, h1, h2, h3, h4, _⟩ := h
  exact h3
theorem Cx.cl (h : Cx T P B w b F c L) : 1 ≤ c ∧ c ≤ 64 := by
  obtain ⟨cs, v, S, rs, hj, h1, h2, h3, h4, h5, h6, _⟩ := h
  exact ⟨h5, h6⟩
end
/-- How it stands behind an Add. -/
structure ComW (T : TypeId) (P : Int → List Cr → Value → Array Value → Prop) (B : Nat) (w w' : World) (b : Nat) (F F' : Nat → Prop) (c : Int) (L : List Cr) (r : Cr) : Prop where
  cx : Cx T P B w' b F' c (comL c L r)
  lv : Lv w w' F
  new : ∀ k, F' k → F k ∨ w.heap.size ≤ k
theorem comW_no {T : TypeId} {P : Int → List Cr → Value → Array Value → Prop} {B b : Nat} {w w' : World} {F : Nat → Prop} {c : Int} {L : List Cr} {r : Cr} (h : Cx T P B w b F c L) (hb : Below w.heap.size w w') (he : ¬ comE c L r = 0) : ComW T P B w w' b F F c L r :=
  ⟨by rw [comL_no he]; exact h.next hb, Lv.ofBelow hb F, fun k hk => .inl hk⟩
/-- How many clients count. -/
def clP (n : Int) : Int := if n < 1 then 1 else if 64 < n then 64 else n
theorem clP_in (n : Int) : 1 ≤ clP n ∧ clP n ≤ 64 := by
  unfold clP
  split
  · omega
  · split <;> omega
end Go.Proofs.YtjmkdgjdemndaaaDoor
