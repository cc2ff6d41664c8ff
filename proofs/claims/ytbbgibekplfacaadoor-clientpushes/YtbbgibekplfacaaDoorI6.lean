/- Add. -/
import Derived.Test.YtbbgibekplfacaaDoorRH
import Derived.Test.YtbbgibekplfacaaDoorI5
import Derived.Test.YtbbgibekplfacaaDoorI0a
import Derived.Deep.RegionHeld3
namespace Go.Proofs.YtbbgibekplfacaaDoor
open Go Go.RowKit
set_option maxRecDepth 20000
theorem i64_id {n : Int} (h1 : -9223372036854775808 ≤ n) (h2 : n ≤ 9223372036854775807) : IntKind.i64.wrap n = n := by
  simp only [IntKind.wrap, IntKind.bits, IntKind.signed]
  simp
  omega
theorem step_append_run {ops : Array Oper} {o : Oper} {a : Act} {K : Act → World → Prop} {Q : Exit → Act → World → Prop} {E : Prop} {w w' : World} (hw : Region.wanted o (yielded ops a.tmps) = true) (s x : Operand) (t : TypeId)
    (ho : o.op = .call { callee := .builtin .append, args := #[s, x], argTypes := #[t, t] }) (vs vx v' : Value) (hs : a.eval s = vs) (hx : a.eval x = vx) (hrun : (Builtin.append_ #[t, t] o.type #[vs, vx]).run Tryd.prog w = .ok v' w') (h : K (a.put o.dst v') w') :
    if Region.wanted o (yielded ops a.tmps) = true then Oper.wp Tryd.prog o a w K Q else E := by
  rw [if_pos hw]
  unfold Oper.wp execOp
  simp only [ho, resolve, invoke, builtin, Sem.run_bind, Sem.run_pure, Result.andThen_ok, List.map_toArray, List.map_cons, List.map_nil, hs, hx, hrun]
  exact h
section
variable {T : TypeId} {B b : Nat} {w w1 w3 W : World} {v : Value} {S : Nat → Prop} {F : Nat → Prop} {o last : Int} {rs : List Rn} {uss : List (List Up)}
theorem Jn.vb (h : Jn T B w b v S o last rs) (hT : T ≠ 35) : v.ownBlock ≠ some b := fun e => by
  obtain ⟨_, cur, hc⟩ := h.row.typ b e
  exact two_types h.blk hc hT rfl
theorem Jn.vS (h : Jn T B w b v S o last rs) (g : Nat) (hg : S g) : v.ownBlock ≠ some g := fun e => by
  obtain ⟨_, cur, hc⟩ := h.row.typ g e
  obtain ⟨_, cur', hc'⟩ := h.own g hg
  exact two_types hc hc' (by decide) rfl
theorem Jn.bS (h : Jn T B w b v S o last rs) (hT : T ≠ 32) : ¬ S b := fun hg => by
  obtain ⟨_, cur', hc'⟩ := h.own b hg
  exact two_types h.blk hc' hT rfl
theorem Rn.mk_eq (r : Rn) : r = ⟨r.o, r.n, r.a, r.len, r.cap, r.us⟩ := rfl
theorem Rw.typ {g : Nat} {us : List Up} (h : Rw w g us) : ∃ cur, w.heap[g]? = some (.cells cur 32 (0, 0)) := ⟨_, h⟩
/-- A journal when one more round is in its row: in the world W it was as it came; w3 came of new memory; w5 of the append; then its row is stored. -/
theorem add_fin {w5 : World} {r : Rn} {g : Nat} {a' : Option Addr} {c' : Nat} (h : Jn T B W b v S o last rs) (hb : Below W.heap.size W w3) (hru : Ru w3 r) (hg : r.a = some ⟨g, 0, none⟩) (hgB : B ≤ g) (hgt : ∃ cur, w3.heap[g]? = some (.cells cur 32 (0, 0)))
    (hT : T ≠ 35) (hU : T ≠ 32) (O : Obj) (hrow : RowR B w5 (.slice a' (rs.length + 1) c') (rs ++ [r])) (hgr : (w3.alloc O).grownBy w5 v.ownBlock) :
    Jn T B (w5.setCell ⟨b, 2, none⟩ (.slice a' (rs.length + 1) c')) b (.slice a' (rs.length + 1) c') (fun k => S k ∨ k = g) o last (rs ++ [r]) := by
  have s3 := hb.size
  have hsz : (w3.alloc O).heap.size = w3.heap.size + 1 := by simp
  have h4 : Jn T B (w3.alloc O) b v S o last rs := (h.next hb).next (Joins.below_alloc1 _ _)
  have hvb := h4.vb hT
  have hbl := h4.lt
  obtain ⟨curg, hcg⟩ := hgt
  have hgl : g < w3.heap.size := (Array.getElem?_eq_some_iff.1 hcg).1
  have hcg4 : (w3.alloc O).heap[g]? = some (.cells curg 32 (0, 0)) := (Below.heap_alloc _ _ _ hgl).trans hcg
  have hvg : v.ownBlock ≠ some g := fun e => by
    obtain ⟨_, cur, hc⟩ := h4.row.typ g e
    exact two_types hc hcg4 (by decide) rfl
  have b5 : w5.heap[b]? = some (.cells #[.int .i64 o, .int .i64 last, v] T (0, 0)) := (hgr.block b hbl (fun e => hvb e.symm)).trans h4.blk
  have hne : (Value.slice a' (rs.length + 1) c').ownBlock ≠ some b := fun e => by
    obtain ⟨_, cur, hc⟩ := hrow.typ b e
    exact two_types b5 hc hT rfl
  have hgb : g ≠ b := fun e => by
    subst e
    exact two_types h4.blk hcg4 hU rfl
  have hSb := h4.bS hU
  refine ⟨h.lo, by simp [World.setCell, Array.getElem?_modify, b5], hrow.same fun j hj => Below.heap_setCell _ _ _ _ (fun e => hne (by rw [hj, e])), fun x hx => ?_, fun k hk => ?_⟩
  · rcases List.mem_append.1 hx with hx | hx
    · obtain ⟨y1, y2⟩ := h4.each x hx
      refine ⟨⟨isUs_same y1.1 fun j off e => ?_, y1.2⟩, fun j off e => .inl (y2 j off e)⟩
      have hj := y2 j off e
      rw [Below.heap_setCell _ _ _ _ (fun e => hSb (by have e' : j = b := e; rw [← e']; exact hj))]
      exact hgr.block j (h4.foot j (.inr (.inr hj))).2 (fun e => h4.vS j hj e.symm)
    · rw [List.mem_singleton.1 hx]
      refine ⟨⟨isUs_same hru.1 fun j off e => ?_, hru.2⟩, fun j off e => .inr ?_⟩
      · rw [hg] at e
        simp only [Option.some.injEq, Addr.mk.injEq, and_true] at e
        obtain ⟨rfl, _⟩ := e
        rw [Below.heap_setCell _ _ _ _ hgb, hgr.block g (by omega) (fun e => hvg e.symm)]
        exact Below.heap_alloc _ _ _ hgl
      · rw [hg] at e
        simp only [Option.some.injEq, Addr.mk.injEq, and_true] at e
        exact e.1.symm
  · rcases hk with hk | rfl
    · obtain ⟨y1, cur, y2⟩ := h4.own k hk
      refine ⟨y1, cur, ?_⟩
      rw [Below.heap_setCell _ _ _ _ (fun e => hSb (by have e' : k = b := e; rw [← e']; exact hk)), hgr.block k (h4.foot k (.inr (.inr hk))).2 (fun e => h4.vS k hk e.symm)]
      exact y2
    · refine ⟨hgB, curg, ?_⟩
      rw [Below.heap_setCell _ _ _ _ hgb, hgr.block k (by omega) (fun e => hvg e.symm)]
      exact hcg4
theorem add_left {w5 : World} {O : Obj} {x : Value} (hb : Below W.heap.size W w3) (hgr : (w3.alloc O).grownBy w5 v.ownBlock) : Lv W (w5.setCell ⟨b, 2, none⟩ x) (Jf b v S) :=
  (((Lv.ofBelow hb _).trans (Lv.ofBelow (Joins.below_alloc1 w3 O) _)).trans (Lv.grown hgr fun _ hk => .inr (.inl hk))).trans (Lv.set (.inl rfl) _ _)
theorem add_foot {a' : Option Addr} {n c' g N : Nat} (hg : N ≤ g) (hown : (Value.slice a' n c').ownBlock = v.ownBlock ∨ ∃ j, (Value.slice a' n c').ownBlock = some j ∧ N ≤ j) (k : Nat) (hk : Jf b (.slice a' n c') (fun k => S k ∨ k = g) k) : Jf b v S k ∨ N ≤ k := by
  rcases hk with hk | hk | hk | hk
  · exact .inl (.inl hk)
  · rcases hown with h | ⟨j, h, hj⟩
    · exact .inl (.inr (.inl (h ▸ hk)))
    · rw [h] at hk
      cases hk
      exact .inr hj
  · exact .inl (.inr (.inr hk))
  · exact .inr (by omega)
theorem isUs_left {w' : World} {a : Option Addr} {len : Nat} {us : List Up} (h : IsUs w a len us) (hl : Lv w w' F) (hd : ∀ g off, a = some ⟨g, off, none⟩ → ¬ F g) : IsUs w' a len us := by
  by_cases h0 : 0 < len
  · obtain ⟨g, off, e, hf⟩ := h.lies h0
    have hlt := hf.lt (by rw [h.size]; exact h0)
    refine isUs_same h fun g' off' e' => ?_
    rw [e] at e'
    cases e'
    exact hl.block g hlt (hd g off e)
  · obtain rfl : len = 0 := by omega
    exact ⟨h.size, fun h => absurd h (Nat.lt_irrefl _)⟩
theorem add_app {w2 : World} {ax : Option Addr} {c : Nat} (h : Jn T B w b (.slice ax rs.length c) S o last rs) (hA : Below w.heap.size w w2) (hb3 : Below w2.heap.size w2 w3) (r : Rn) (hT : T ≠ 35) (hn : rs.length ≤ 1000) (ty : TypeId) :
    ∃ a' c' w5, (Builtin.append_ #[40, 40] ty #[.slice ax rs.length c, .slice (some ⟨w3.heap.size, 0, none⟩) 1 1]).run Tryd.prog (w3.alloc (.cells #[.int .i64 r.o, .int .i64 r.n, .slice r.a r.len r.cap] 35)) = .ok (.slice a' (rs.length + 1) c') w5 ∧ Hid (RowR B w5 (.slice a' (rs.length + 1) c') (rs ++ [r])) ∧ Hid ((w3.alloc (.cells #[.int .i64 r.o, .int .i64 r.n, .slice r.a r.len r.cap] 35)).grownBy w5 (Value.slice ax rs.length c).ownBlock) ∧ Hid ((Value.slice a' (rs.length + 1) c').ownBlock = (Value.slice ax rs.length c).ownBlock ∨ ∃ j, (Value.slice a' (rs.length + 1) c').ownBlock = some j ∧ w2.heap.size ≤ j) ∧ w5.cell? ⟨b, 2, none⟩ = some (.slice ax rs.length c) ∧ w5.frozen? ⟨b, 2, none⟩ = false ∧ w3.cell? ⟨b, 2, none⟩ = some (.slice ax rs.length c) ∧ (w3.alloc (.cells #[.int .i64 r.o, .int .i64 r.n, .slice r.a r.len r.cap] 35)).cell? ⟨b, 2, none⟩ = some (.slice ax rs.length c) ∧ Hid (∀ k o' n' a l' c' x, w.heap.size ≤ k → Rb w2 k o' n' a l' c' → Rb w3 k o' n' a l' c' ∧ Rb (w3.alloc (.cells #[.int .i64 r.o, .int .i64 r.n, .slice r.a r.len r.cap] 35)) k o' n' a l' c' ∧ Rb w5 k o' n' a l' c' ∧ Rb (w5.setCell ⟨b, 2, none⟩ x) k o' n' a l' c') := by
  have h3 := (h.next hA).next hb3
  have h4 := h3.next (Joins.below_alloc1 w3 (.cells #[.int .i64 r.o, .int .i64 r.n, .slice r.a r.len r.cap] 35))
  have hvb := h4.vb hT
  have hB : B ≤ w3.heap.size := Nat.le_trans h3.lo (Nat.le_of_lt h3.lt)
  obtain ⟨a', c', w5, r1, r2, r3, r4⟩ := run_appR _ ty B _ rs h4.row (some ⟨w3.heap.size, 0, none⟩) 1 1 [r] (rsAt_one w3 r) (Nat.le_refl _) (fun e => by cases e) (by omega) (by simp; omega)
  have s3 := hb3.size
  have hsz : (w3.alloc (.cells #[.int .i64 r.o, .int .i64 r.n, .slice r.a r.len r.cap] 35)).heap.size = w3.heap.size + 1 := by simp
  have b5 : w5.heap[b]? = some (.cells #[.int .i64 o, .int .i64 last, .slice ax rs.length c] T (0, 0)) := (r3.block b h4.lt (fun e => hvb e.symm)).trans h4.blk
  refine ⟨a', c', w5, r1, r2, r3, ?_, cell_at b5 2 _ rfl, by simp [World.frozen?, b5], h3.c2, h4.c2, fun k o' n' al l' cl x hk hr => ?_⟩
  · rcases r4 with e | e
    · exact .inl e
    · exact .inr ⟨_, e, by omega⟩
  · have k3 := hr.next hb3
    have k4 := k3.alloc (.cells #[.int .i64 r.o, .int .i64 r.n, .slice r.a r.len r.cap] 35)
    have k5 := k4.kept r3 (fun e => by
      have := (h.foot k (.inr (.inl e.symm))).2
      omega)
    have hkb : k ≠ b := by have := h.lt; omega
    exact ⟨k3, k4, k5, k5.setnew hkb _ _⟩
/-- How it stands when Add returns: w2 ahead of the first copy, w3 behind it, w5 behind the append, w7 behind the second copy. -/
theorem add_done {w2 w5 w7 : World} {ax a' : Option Addr} {c c' : Nat} {us : List Up} {N : Int} {x0 x1 x2 : Value} (h : Jn T B w b (.slice ax rs.length c) S o last rs) (ho : Of o 0 uss rs) (hs : ∀ us ∈ uss, Sm us) (hsm : Sm us) (hT : T ≠ 35) (hU : T ≠ 32)
    (hA : Below w.heap.size w w2) (hlt : w.heap.size < w2.heap.size) (hb3 : Below w2.heap.size w2 w3) (hrw : Rw w3 (w2.heap.size + 2) us) (hN : N = ((uss.length + 1 : Nat) : Int)) {O : Obj}
    (hrow : RowR B w5 (.slice a' (rs.length + 1) c') (rs ++ [⟨o, N, some ⟨w2.heap.size + 2, 0, none⟩, us.length, us.length, us⟩])) (hgr : (w3.alloc O).grownBy w5 (Value.slice ax rs.length c).ownBlock) (hown : (Value.slice a' (rs.length + 1) c').ownBlock = (Value.slice ax rs.length c).ownBlock ∨ ∃ j, (Value.slice a' (rs.length + 1) c').ownBlock = some j ∧ w2.heap.size ≤ j)
    (hb7 : Below (w5.setCell ⟨b, 2, none⟩ (.slice a' (rs.length + 1) c')).heap.size (w5.setCell ⟨b, 2, none⟩ (.slice a' (rs.length + 1) c')) w7) (hrw7 : Rw w7 ((w5.setCell ⟨b, 2, none⟩ (.slice a' (rs.length + 1) c')).heap.size + 2) us) :
    ∃ F', Jx T B (((w7.setCell ⟨w.heap.size, 0, none⟩ x0).setCell ⟨w.heap.size, 1, none⟩ x1).setCell ⟨w.heap.size, 2, none⟩ x2) b F' o last (uss ++ [us]) ∧ Lv w (((w7.setCell ⟨w.heap.size, 0, none⟩ x0).setCell ⟨w.heap.size, 1, none⟩ x1).setCell ⟨w.heap.size, 2, none⟩ x2) (Jf b (.slice ax rs.length c) S) ∧ (∀ k, F' k → Jf b (.slice ax rs.length c) S k ∨ w.heap.size ≤ k) ∧
      Rw (((w7.setCell ⟨w.heap.size, 0, none⟩ x0).setCell ⟨w.heap.size, 1, none⟩ x1).setCell ⟨w.heap.size, 2, none⟩ x2) ((w5.setCell ⟨b, 2, none⟩ (.slice a' (rs.length + 1) c')).heap.size + 2) us ∧ ¬ F' ((w5.setCell ⟨b, 2, none⟩ (.slice a' (rs.length + 1) c')).heap.size + 2) ∧ w.heap.size ≤ (w5.setCell ⟨b, 2, none⟩ (.slice a' (rs.length + 1) c')).heap.size + 2 := by
  have h2 := h.next hA
  have hf6 := add_fin h2 hb3 (r := ⟨o, N, some ⟨w2.heap.size + 2, 0, none⟩, us.length, us.length, us⟩) ⟨hrw.is, Nat.le_refl _, fun e => by cases e⟩ rfl (by have := h2.lo; have := h2.lt; omega) ⟨_, hrw⟩ hT hU O hrow hgr
  have hl6 : Lv w2 (w5.setCell ⟨b, 2, none⟩ (.slice a' (rs.length + 1) c')) (Jf b (.slice ax rs.length c) S) := add_left hb3 hgr
  generalize w5.setCell ⟨b, 2, none⟩ (.slice a' (rs.length + 1) c') = W6 at *
  have s3 := hb3.size
  have s6 := hl6.size
  have s7 := hb7.size
  have hft : ∀ k, Jf b (.slice a' (rs.length + 1) c') (fun k => S k ∨ k = w2.heap.size + 2) k → Jf b (.slice ax rs.length c) S k ∨ w2.heap.size ≤ k := fun k hk => add_foot (by omega) hown k hk
  have hne : ¬ Jf b (.slice a' (rs.length + 1) c') (fun k => S k ∨ k = w2.heap.size + 2) w.heap.size := fun hk => by
    rcases hft _ hk with hk | hk
    · have := (h.foot _ hk).2
      omega
    · omega
  have hj7 := hf6.next hb7
  have hx7 : Jx T B w7 b _ o last (uss ++ [us]) := ⟨_, _, _, hj7, ho.snoc ⟨o, N, some ⟨w2.heap.size + 2, 0, none⟩, us.length, us.length, us⟩ rfl (by rw [hN, Nat.zero_add]), fun x hx => by
    rcases List.mem_append.1 hx with hx | hx
    · exact hs x hx
    · rw [List.mem_singleton.1 hx]; exact hsm, rfl⟩
  have hl7 : Lv w w7 (Jf b (.slice ax rs.length c) S) := ((Lv.ofBelow hA _).trans hl6).trans (Lv.ofBelow hb7 _)
  have hg2 : W6.heap.size + 2 ≠ w.heap.size := by omega
  refine ⟨_, ((hx7.setnew hne _ _).setnew hne _ _).setnew hne _ _, ?_, fun k hk => ?_, hrw7.set3 hg2 _ _ _, fun hk => ?_, by omega⟩
  · refine ⟨hl7.os, hl7.tape, hl7.output, by simpa using hl7.size, fun k hk hF => ?_⟩
    rw [Below.heap_setCell _ _ _ _ (show k ≠ w.heap.size by omega), Below.heap_setCell _ _ _ _ (show k ≠ w.heap.size by omega), Below.heap_setCell _ _ _ _ (show k ≠ w.heap.size by omega)]
    exact hl7.block k hk hF
  · rcases hft k hk with hk | hk
    · exact .inl hk
    · exact .inr (by omega)
  · have := (hf6.foot _ hk).2
    omega
end
section
variable {B b : Nat} {F : Nat → Prop} {o last : Int} {uss : List (List Up)}
set_option maxHeartbeats 2000000 in
theorem jadd_full (hl : last ≤ (uss.length : Int)) (a : Option Addr) (len cap : Nat) (w : World) (h : Jx 94 B w b F o last uss) :
    Calls Tryd.prog 52 #[.pointer (some ⟨b, 0, none⟩), .slice a len cap] w fun e w' => e = .returned (.tuple #[rv rn0, .int .i64 8]) ∧ Below w.heap.size w w' := by
  obtain ⟨v, S, rs, hj, ho, hs, rfl⟩ := h
  obtain ⟨ax, c, rfl, _⟩ := hj.is
  rw [ho.len] at hj
  have HB := Lib.hid (Joins.below_alloc1 w (.cells #[.int .i64 0, .int .i64 0, .slice none 0 0] 35))
  have hj2 := hj.next (Joins.below_alloc1 w (.cells #[.int .i64 0, .int .i64 0, .slice none 0 0] 35))
  have c1 := hj2.c1
  have c2 := hj2.c2
  have hr := Rb.new w 0 0 none 0 0
  have r0 := hr.f0 0
  have q1 : decide (last ≤ (uss.length : Int)) = true := decide_eq_true hl
  clear hj hj2 ho hs hr hl
  go_enter Tryd.func52, Tryd.ntmps52
  go_wp2_with fail
  go_quiet (fail)
  go_wp2
  refine bodyPost_ret (v := .tuple #[.agg #[.int .i64 0, .int .i64 0, .slice none 0 0], .int .i64 8]) (by simp [results, Tryd.results52, go_sem]) rfl ⟨rfl, below_set3 (belN HB.out _) (Nat.le_refl _) _ _ _⟩
set_option maxHeartbeats 4000000 in
theorem jadd_err (hl : ¬ last ≤ (uss.length : Int)) (hn : uss.length ≤ 1000) (er : Int) (h0 : ¬ er = 0) (a : Option Addr) (len cap : Nat) (us : List Up) (he : mayR o ((uss.length + 1 : Nat) : Int) us = er) (w : World) (hu : IsUs w a len us) (h : Jx 94 B w b F o last uss) :
    Calls Tryd.prog 52 #[.pointer (some ⟨b, 0, none⟩), .slice a len cap] w fun e w' => e = .returned (.tuple #[rv rn0, .int .i64 er]) ∧ Below w.heap.size w w' := by
  have k1 : (er == 0) = false := by rw [beq_eq_false_iff_ne]; exact h0
  obtain ⟨v, S, rs, hj, ho, hs, rfl⟩ := h
  obtain ⟨ax, c, rfl, _⟩ := hj.is
  have hrl := ho.len
  obtain ⟨L, hL⟩ : ∃ L : Nat, rs.length = L := ⟨_, rfl⟩
  rw [hL] at hj hrl
  rw [← hrl] at hl hn he
  obtain ⟨N, hN⟩ : ∃ N : Int, ((L + 1 : Nat) : Int) = N := ⟨_, rfl⟩
  rw [hN] at he
  have hwr : IntKind.i64.wrap ((L : Int) + 1) = N := by
    rw [show (L : Int) + 1 = N by omega]
    exact i64_id (by omega) (by omega)
  have hA := Joins.below_alloc1 w (.cells #[.int .i64 0, .int .i64 0, .slice none 0 0] 35)
  have hj2 := hj.next hA
  have c1 := hj2.c1
  have c2 := hj2.c2
  have q1 : decide (last ≤ (L : Int)) = false := decide_eq_false hl
  have HM := fun w hu => Lib.hid (rndmay_any o N a len cap us w hu)
  rw [he] at HM
  have HU := Lib.hid hu
  have HJ := Lib.hid hj
  have HO := Lib.hid ho
  have HS := Lib.hid hs
  have HL := Lib.hid hL
  have HN := Lib.hid hN
  have HRL := Lib.hid hrl
  have hc0 := hj2.c0
  have HR := Lib.hid (Rb.new w 0 0 none 0 0)
  have HA := Lib.hid hA
  have HSZ : Hid ((w.alloc (.cells #[.int .i64 0, .int .i64 0, .slice none 0 0] 35)).heap.size = w.heap.size + 1) := Lib.hid (by simp)
  have e0' := (hj2.next (Joins.below_alloc1 _ (.cells #[.int .i64 0, .int .i64 0, .slice none 0 0] 35))).c0
  have e2' := (hj2.next (Joins.below_alloc1 _ (.cells #[.int .i64 0, .int .i64 0, .slice none 0 0] 35))).c2
  have e0 := (hj2.next (Joins.below_alloc1 _ (.cells #[.int .i64 o, .int .i64 N, .slice a len cap] 35))).c0
  have e2 := (hj2.next (Joins.below_alloc1 _ (.cells #[.int .i64 o, .int .i64 N, .slice a len cap] 35))).c2
  clear hj hj2 ho hs hl hL hN hu hA hrl he
  go_enter Tryd.func52, Tryd.ntmps52
  go_wp2_with fail
  go_quiet (fail)
  revert nq
  intro n1
  go_wp2_with fail
  refine wp_region_held_drew (S := fun w' => w'.cell? ⟨b, 0, none⟩ = some (.int .i64 o) ∧ w'.cell? ⟨b, 2, none⟩ = some (.slice ax L c)) (by kernel_rfl) ?_ (fun hH => ?_)
  · exact ⟨hc0, c2⟩
  refine tkH 0 ?_ ?_ ?_
  rotate_left
  · intro w h; try dsimp only at h
    obtain ⟨q0, q2⟩ := h; go_simp; all_goals with_reducible rfl
  try simp only [pt]
  refine tkH 1 ?_ ?_ ?_
  rotate_left
  · intro w h; try dsimp only at h
    obtain ⟨q0, q2⟩ := h; go_simp; all_goals with_reducible rfl
  try simp only [pt]
  refine tkH 2 ?_ ?_ ?_
  rotate_left
  · intro w h; try dsimp only at h
    obtain ⟨q0, q2⟩ := h; go_simp; all_goals with_reducible rfl
  try simp only [pt]
  refine tkH 3 ?_ ?_ ?_
  rotate_left
  · intro w h; try dsimp only at h
    obtain ⟨q0, q2⟩ := h; go_simp; all_goals with_reducible rfl
  try simp only [pt]
  refine tkH 4 ?_ ?_ ?_
  rotate_left
  · intro w h; try dsimp only at h
    obtain ⟨q0, q2⟩ := h; go_simp; all_goals with_reducible rfl
  try simp only [pt]
  refine tkH 5 ?_ ?_ ?_
  rotate_left
  · intro w h; try dsimp only at h
    obtain ⟨q0, q2⟩ := h; go_simp; all_goals with_reducible rfl
  try simp only [pt]
  refine tkH 6 ?_ ?_ ?_
  rotate_left
  · intro w h; try dsimp only at h
    obtain ⟨q0, q2⟩ := h; go_simp; all_goals with_reducible rfl
  try simp only [pt]
  refine tkH 7 ?_ ?_ ?_
  rotate_left
  · intro w h; try dsimp only at h
    obtain ⟨q0, q2⟩ := h; go_simp; all_goals with_reducible rfl
  try simp only [pt]
  refine tkH 8 ?_ ?_ ?_
  rotate_left
  · intro w h; try dsimp only at h
    obtain ⟨q0, q2⟩ := h; go_simp; all_goals with_reducible rfl
  try simp only [pt]
  refine tkH 9 ?_ ?_ ?_
  rotate_left
  · intro w h; try dsimp only at h
    obtain ⟨q0, q2⟩ := h; go_simp; all_goals with_reducible rfl
  try simp only [pt]
  refine tkH 10 ?_ ?_ ?_
  rotate_left
  · intro w h; try dsimp only at h
    obtain ⟨q0, q2⟩ := h; go_simp; all_goals with_reducible rfl
  try simp only [pt]
  refine tkH 11 ?_ ?_ ?_
  rotate_left
  · intro w h; try dsimp only at h
    obtain ⟨q0, q2⟩ := h; go_simp; all_goals with_reducible rfl
  try simp only [pt]
  refine wpAnyH_ready (rs := [12]) (by kernel_rfl) (by simp) ?_
  refine rdH (fun K hK => ?_) ?_
  · go_simp
    refine hK.out _ _ ?_ (fun hH => ?_)
    · exact ⟨e0', e2'⟩
    clear hK K
    try simp only [pt]
    refine wpAnyH_ready (rs := [13]) (by kernel_rfl) (by simp) ?_
    refine rdH (fun K hK => ?_) ?_
    · go_simp
      refine hK.out _ _ ?_ (fun hH => ?_)
      · exact ⟨e0, e2⟩
      clear hK K
      try simp only [pt]
      refine wpAnyH_done (by kernel_rfl) ?_ _
      have HR1 := Lib.hid ((HR.out.drewN (n1 + 1)).alloc (.cells #[.int .i64 o, .int .i64 N, .slice a len cap] 35))
      have hrb := Rb.new ((w.alloc (.cells #[.int .i64 0, .int .i64 0, .slice none 0 0] 35)).drewN (n1 + 1)) o N a len cap
      have HSZ : Hid (((w.alloc (.cells #[.int .i64 0, .int .i64 0, .slice none 0 0] 35)).drewN (n1 + 1)).heap.size = w.heap.size + 1) := HSZ
      rw [HSZ.out] at hrb
      have d0 := hrb.c0
      have d1 := hrb.c1
      have d2 := hrb.c2
      have HRB := Lib.hid hrb
      have HA1 := Lib.hid (Below.step (belN HA.out (n1 + 1)) (.cells #[.int .i64 o, .int .i64 N, .slice a len cap] 35) (Below.refl _ _))
      clear hrb HR HA c1 c2 hc0 e0 e2 e0' e2'
      go_wp2_with fail
      refine (HM _ (isUs_below HU.out HA1.out)).out.mono ?_
      rintro e w2 ⟨rfl, hb⟩
      have hr2 := HR1.out.next hb
      have HA2 := Lib.hid (Below.next HA1.out hb)
      have g0' := hr2.c0
      have g1' := hr2.c1
      have g2' := hr2.c2
      have f0 := hr2.f0 0
      have f1 := hr2.f0 1
      have f2 := hr2.f0 2
      have h0' := ((hr2.set0 0).set1 0).set2 none 0 0
      have k0' := h0'.c0
      have k1' := h0'.c1
      have k2' := h0'.c2
      clear hb HM hr2 h0' d0 d1 d2
      go_wp2
      refine bodyPost_ret (v := .tuple #[.agg #[.int .i64 0, .int .i64 0, .slice none 0 0], .int .i64 er]) (by simp [results, Tryd.results52, go_sem, k0', k1', k2']) rfl ⟨rfl, below_set3 HA2.out (Nat.le_refl _) _ _ _⟩
    exact AllReadyH.nil
  exact AllReadyH.nil
set_option maxHeartbeats 8000000 in
theorem jadd_ok (hl : ¬ last ≤ (uss.length : Int)) (hn : uss.length ≤ 1000) (a : Option Addr) (len cap : Nat) (us : List Up) (he : mayR o ((uss.length + 1 : Nat) : Int) us = 0) (hsm : Sm us) (w : World) (hu : IsUs w a len us) (hd : ∀ g off, a = some ⟨g, off, none⟩ → ¬ F g) (h : Jx 94 B w b F o last uss) :
    Calls Tryd.prog 52 #[.pointer (some ⟨b, 0, none⟩), .slice a len cap] w fun e w' => ∃ g F', e = .returned (.tuple #[.agg #[.int .i64 o, .int .i64 ((uss.length + 1 : Nat) : Int), .slice (some ⟨g, 0, none⟩) len len], .int .i64 0]) ∧ Jx 94 B w' b F' o last (uss ++ [us]) ∧ Lv w w' F ∧ (∀ k, F' k → F k ∨ w.heap.size ≤ k) ∧ Rw w' g us ∧ ¬ F' g ∧ w.heap.size ≤ g := by
  have HD := Lib.hid hd
  have HSM := Lib.hid hsm
  have HC := fun w hu' => Lib.hid (rndcopy_any o ((uss.length + 1 : Nat) : Int) a len cap us (by have := hsm.1; have := hu.size; omega) (fun j hj => hsm.2 j (by have := hu.size; omega)) w hu')
  obtain rfl := hu.size
  obtain ⟨v, S, rs, hj, ho, hs, rfl⟩ := h
  obtain ⟨ax, c, rfl, _⟩ := hj.is
  have hrl := ho.len
  obtain ⟨L, hL⟩ : ∃ L : Nat, rs.length = L := ⟨_, rfl⟩
  have HJ := Lib.hid hj
  rw [hL] at hj hrl
  rw [← hrl] at hl hn he HC ⊢
  obtain ⟨N, hN⟩ : ∃ N : Int, ((L + 1 : Nat) : Int) = N := ⟨_, rfl⟩
  rw [hN] at he HC ⊢
  have hwr : IntKind.i64.wrap ((L : Int) + 1) = N := by
    rw [show (L : Int) + 1 = N by omega]
    exact i64_id (by omega) (by omega)
  have hA := Joins.below_alloc1 w (.cells #[.int .i64 0, .int .i64 0, .slice none 0 0] 35)
  have hj2 := hj.next hA
  have c1 := hj2.c1
  have c2 := hj2.c2
  have q1 : decide (last ≤ (L : Int)) = false := decide_eq_false hl
  have HM := fun w hu => Lib.hid (rndmay_any o N a us.length cap us w hu)
  rw [he] at HM
  have HU := Lib.hid hu
  have HO := Lib.hid ho
  have HS := Lib.hid hs
  have HL := Lib.hid hL
  have HN := Lib.hid hN
  have HRL := Lib.hid hrl
  have hc0 := hj2.c0
  have HR := Lib.hid (Rb.new w 0 0 none 0 0)
  have HA := Lib.hid hA
  have HSZ : Hid ((w.alloc (.cells #[.int .i64 0, .int .i64 0, .slice none 0 0] 35)).heap.size = w.heap.size + 1) := Lib.hid (by simp)
  have e0' := (hj2.next (Joins.below_alloc1 _ (.cells #[.int .i64 0, .int .i64 0, .slice none 0 0] 35))).c0
  have e2' := (hj2.next (Joins.below_alloc1 _ (.cells #[.int .i64 0, .int .i64 0, .slice none 0 0] 35))).c2
  have e0 := (hj2.next (Joins.below_alloc1 _ (.cells #[.int .i64 o, .int .i64 N, .slice a us.length cap] 35))).c0
  have e2 := (hj2.next (Joins.below_alloc1 _ (.cells #[.int .i64 o, .int .i64 N, .slice a us.length cap] 35))).c2
  clear hj hj2 ho hs hl hL hN hu hA hrl he hsm hd
  go_enter Tryd.func52, Tryd.ntmps52
  go_wp2_with fail
  go_quiet (fail)
  revert nq
  intro n1
  go_wp2_with fail
  refine wp_region_held_drew (S := fun w' => w'.cell? ⟨b, 0, none⟩ = some (.int .i64 o) ∧ w'.cell? ⟨b, 2, none⟩ = some (.slice ax L c)) (by kernel_rfl) ?_ (fun hH => ?_)
  · exact ⟨hc0, c2⟩
  refine tkH 0 ?_ ?_ ?_
  rotate_left
  · intro w h; try dsimp only at h
    obtain ⟨q0, q2⟩ := h; go_simp; all_goals with_reducible rfl
  try simp only [pt]
  refine tkH 1 ?_ ?_ ?_
  rotate_left
  · intro w h; try dsimp only at h
    obtain ⟨q0, q2⟩ := h; go_simp; all_goals with_reducible rfl
  try simp only [pt]
  refine tkH 2 ?_ ?_ ?_
  rotate_left
  · intro w h; try dsimp only at h
    obtain ⟨q0, q2⟩ := h; go_simp; all_goals with_reducible rfl
  try simp only [pt]
  refine tkH 3 ?_ ?_ ?_
  rotate_left
  · intro w h; try dsimp only at h
    obtain ⟨q0, q2⟩ := h; go_simp; all_goals with_reducible rfl
  try simp only [pt]
  refine tkH 4 ?_ ?_ ?_
  rotate_left
  · intro w h; try dsimp only at h
    obtain ⟨q0, q2⟩ := h; go_simp; all_goals with_reducible rfl
  try simp only [pt]
  refine tkH 5 ?_ ?_ ?_
  rotate_left
  · intro w h; try dsimp only at h
    obtain ⟨q0, q2⟩ := h; go_simp; all_goals with_reducible rfl
  try simp only [pt]
  refine tkH 6 ?_ ?_ ?_
  rotate_left
  · intro w h; try dsimp only at h
    obtain ⟨q0, q2⟩ := h; go_simp; all_goals with_reducible rfl
  try simp only [pt]
  refine tkH 7 ?_ ?_ ?_
  rotate_left
  · intro w h; try dsimp only at h
    obtain ⟨q0, q2⟩ := h; go_simp; all_goals with_reducible rfl
  try simp only [pt]
  refine tkH 8 ?_ ?_ ?_
  rotate_left
  · intro w h; try dsimp only at h
    obtain ⟨q0, q2⟩ := h; go_simp; all_goals with_reducible rfl
  try simp only [pt]
  refine tkH 9 ?_ ?_ ?_
  rotate_left
  · intro w h; try dsimp only at h
    obtain ⟨q0, q2⟩ := h; go_simp; all_goals with_reducible rfl
  try simp only [pt]
  refine tkH 10 ?_ ?_ ?_
  rotate_left
  · intro w h; try dsimp only at h
    obtain ⟨q0, q2⟩ := h; go_simp; all_goals with_reducible rfl
  try simp only [pt]
  refine tkH 11 ?_ ?_ ?_
  rotate_left
  · intro w h; try dsimp only at h
    obtain ⟨q0, q2⟩ := h; go_simp; all_goals with_reducible rfl
  try simp only [pt]
  refine wpAnyH_ready (rs := [12]) (by kernel_rfl) (by simp) ?_
  refine rdH (fun K hK => ?_) ?_
  · go_simp
    refine hK.out _ _ ?_ (fun hH => ?_)
    · exact ⟨e0', e2'⟩
    clear hK K
    try simp only [pt]
    refine wpAnyH_ready (rs := [13]) (by kernel_rfl) (by simp) ?_
    refine rdH (fun K hK => ?_) ?_
    · go_simp
      refine hK.out _ _ ?_ (fun hH => ?_)
      · exact ⟨e0, e2⟩
      clear hK K
      try simp only [pt]
      refine wpAnyH_done (by kernel_rfl) ?_ _
      have HR1 := Lib.hid ((HR.out.drewN (n1 + 1)).alloc (.cells #[.int .i64 o, .int .i64 N, .slice a us.length cap] 35))
      have hrb := Rb.new ((w.alloc (.cells #[.int .i64 0, .int .i64 0, .slice none 0 0] 35)).drewN (n1 + 1)) o N a us.length cap
      have HSZ : Hid (((w.alloc (.cells #[.int .i64 0, .int .i64 0, .slice none 0 0] 35)).drewN (n1 + 1)).heap.size = w.heap.size + 1) := HSZ
      rw [HSZ.out] at hrb
      have d0 := hrb.c0
      have d1 := hrb.c1
      have d2 := hrb.c2
      have HRB := Lib.hid hrb
      have HA1 := Lib.hid (Below.step (belN HA.out (n1 + 1)) (.cells #[.int .i64 o, .int .i64 N, .slice a us.length cap] 35) (Below.refl _ _))
      clear hrb HR HA c1 c2 hc0 e0 e2 e0' e2'
      go_wp2_with fail
      refine (HM _ (isUs_below HU.out HA1.out)).out.mono ?_
      rintro e w2 ⟨rfl, hb⟩
      have hr2 := HR1.out.next hb
      have HA2 := Lib.hid (Below.next HA1.out hb)
      have hrb2 := HRB.out.next hb
      have c2 := (HJ.out.next HA2.out).c2
      have d0 := hrb2.c0
      have d1 := hrb2.c1
      have d2 := hrb2.c2
      have HRB2 := Lib.hid hrb2
      have HR2 := Lib.hid hr2
      have HLT := Lib.hid hr2.lt
      have HU2 := Lib.hid (isUs_below HU.out HA2.out)
      clear hb HM hr2 hrb2 HRB HR1 HA1 HU
      go_wp2_with fail
      refine wp_region_held_drew (S := fun w' => w'.cell? ⟨w.heap.size + 1, 0, none⟩ = some (.int .i64 o) ∧ w'.cell? ⟨w.heap.size + 1, 1, none⟩ = some (.int .i64 N) ∧ w'.cell? ⟨w.heap.size + 1, 2, none⟩ = some (.slice a us.length cap)) (by kernel_rfl) ?_ (fun hH => ?_)
      · exact ⟨d0, d1, d2⟩
      refine tkH 0 ?_ ?_ ?_
      rotate_left
      · intro w h; try dsimp only at h
        obtain ⟨q0, q1, q2⟩ := h; go_simp; all_goals with_reducible rfl
      try simp only [pt]
      refine tkH 1 ?_ ?_ ?_
      rotate_left
      · intro w h; try dsimp only at h
        obtain ⟨q0, q1, q2⟩ := h; go_simp; all_goals with_reducible rfl
      try simp only [pt]
      refine tkH 2 ?_ ?_ ?_
      rotate_left
      · intro w h; try dsimp only at h
        obtain ⟨q0, q1, q2⟩ := h; go_simp; all_goals with_reducible rfl
      try simp only [pt]
      refine tkH 3 ?_ ?_ ?_
      rotate_left
      · intro w h; try dsimp only at h
        obtain ⟨q0, q1, q2⟩ := h; go_simp; all_goals with_reducible rfl
      try simp only [pt]
      refine tkH 5 ?_ ?_ ?_
      rotate_left
      · intro w h; try dsimp only at h
        obtain ⟨q0, q1, q2⟩ := h; go_simp; all_goals with_reducible rfl
      try simp only [pt]
      refine wpAnyH_ready (rs := [4, 6]) (by kernel_rfl) (by simp) ?_
      refine rdH (fun K hK => ?_) ?_
      · go_simp
        refine hK.out _ _ ?_ (fun hH => ?_)
        · exact ⟨d0, d1, d2⟩
        clear hK K
        try simp only [pt]
        refine wpAnyH_ready (rs := [6]) (by kernel_rfl) (by simp) ?_
        refine rdH (fun K hK => ?_) ?_
        · go_simp
          refine (HC w2.drew (isUs_same HU2.out fun _ _ _ => rfl)).out.mono ?_
          rintro e w3 ⟨rfl, hrw, hb3'⟩
          have hb3 : Below w2.heap.size w2 w3 := ⟨hb3'.os, hb3'.tape, hb3'.output, hb3'.size, hb3'.block⟩
          obtain ⟨a', c', w5, hrun, HROW, HGR, HOWN, e5, g5, e3, e4, HKP⟩ := add_app HJ.out HA2.out hb3 ⟨o, N, some ⟨w2.heap.size + 2, 0, none⟩, us.length, us.length, us⟩ (by decide) (by rw [HL.out]; exact hn) 40
          obtain ⟨y3, y4, y5, y6⟩ := HKP.out _ _ _ _ _ _ (.slice a' (rs.length + 1) c') (Nat.le_succ w.heap.size) HRB2.out
          have z3 : w3.cell? ⟨w.heap.size + 1, 0, none⟩ = some (.int .i64 o) ∧ w3.cell? ⟨w.heap.size + 1, 1, none⟩ = some (.int .i64 N) ∧ w3.cell? ⟨w.heap.size + 1, 2, none⟩ = some (.slice a us.length cap) := ⟨y3.c0, y3.c1, y3.c2⟩
          have z4 : (w3.alloc (.cells #[.int .i64 o, .int .i64 N, .slice (some ⟨w2.heap.size + 2, 0, none⟩) us.length us.length] 35)).cell? ⟨w.heap.size + 1, 0, none⟩ = some (.int .i64 o) ∧ (w3.alloc (.cells #[.int .i64 o, .int .i64 N, .slice (some ⟨w2.heap.size + 2, 0, none⟩) us.length us.length] 35)).cell? ⟨w.heap.size + 1, 1, none⟩ = some (.int .i64 N) ∧ (w3.alloc (.cells #[.int .i64 o, .int .i64 N, .slice (some ⟨w2.heap.size + 2, 0, none⟩) us.length us.length] 35)).cell? ⟨w.heap.size + 1, 2, none⟩ = some (.slice a us.length cap) := ⟨y4.c0, y4.c1, y4.c2⟩
          have z5 : w5.cell? ⟨w.heap.size + 1, 0, none⟩ = some (.int .i64 o) ∧ w5.cell? ⟨w.heap.size + 1, 1, none⟩ = some (.int .i64 N) ∧ w5.cell? ⟨w.heap.size + 1, 2, none⟩ = some (.slice a us.length cap) := ⟨y5.c0, y5.c1, y5.c2⟩
          have z6 : (w5.setCell ⟨b, 2, none⟩ (.slice a' (rs.length + 1) c')).cell? ⟨w.heap.size + 1, 0, none⟩ = some (.int .i64 o) ∧ (w5.setCell ⟨b, 2, none⟩ (.slice a' (rs.length + 1) c')).cell? ⟨w.heap.size + 1, 1, none⟩ = some (.int .i64 N) ∧ (w5.setCell ⟨b, 2, none⟩ (.slice a' (rs.length + 1) c')).cell? ⟨w.heap.size + 1, 2, none⟩ = some (.slice a us.length cap) := ⟨y6.c0, y6.c1, y6.c2⟩
          have HRW : Hid (Rw w3 (w2.heap.size + 2) us) := Lib.hid hrw
          have HB3 := Lib.hid hb3
          have HY := Lib.hid y6
          clear hb3 hb3' hrw y3 y4 y5 y6
          go_wp2_with fail
          refine hK.out _ _ ?_ (fun hH => ?_)
          · exact z3
          clear hK K
          try simp only [pt]
          refine wpAnyH_ready (rs := [7]) (by kernel_rfl) (by simp) ?_
          refine rdH (fun K hK => ?_) ?_
          · go_simp
            refine hK.out _ _ ?_ (fun hH => ?_)
            · exact z4
            clear hK K
            try simp only [pt]
            refine wpAnyH_ready (rs := [8]) (by kernel_rfl) (by simp) ?_
            refine rdH (fun K hK => ?_) ?_
            · refine step_append_run (by rfl) (.tmp 41) (.tmp 44) 40 rfl _ _ _ rfl rfl hrun ?_
              refine hK.out _ _ ?_ (fun hH => ?_)
              · exact z5
              clear hK K
              try simp only [pt]
              refine tkH 9 ?_ ?_ ?_
              rotate_left
              · intro w h; try dsimp only at h
                obtain ⟨q0, q1, q2⟩ := h; go_simp; all_goals with_reducible rfl
              try simp only [pt]
              refine tkH 10 ?_ ?_ ?_
              rotate_left
              · intro w h; try dsimp only at h
                obtain ⟨q0, q1, q2⟩ := h; go_simp; all_goals with_reducible rfl
              try simp only [pt]
              refine wpAnyH_ready (rs := [11]) (by kernel_rfl) (by simp) ?_
              refine rdH (fun K hK => ?_) ?_
              · go_simp
                refine hK.out _ _ ?_ (fun hH => ?_)
                · exact z6
                clear hK K
                try simp only [pt]
                refine wpAnyH_done (by kernel_rfl) ?_ _
                obtain ⟨d0, d1, d2⟩ := z6
                have HU6 : Hid (IsUs (w5.setCell ⟨b, 2, none⟩ (.slice a' (rs.length + 1) c')) a us.length us) := Lib.hid (isUs_left HU2.out (add_left HB3.out HGR.out) HD.out)
                have HR6 : Hid (Rb (w5.setCell ⟨b, 2, none⟩ (.slice a' (rs.length + 1) c')) w.heap.size 0 0 none 0 0) := Lib.hid (HKP.out _ _ _ _ _ _ _ (Nat.le_refl w.heap.size) HR2.out).2.2.2
                have HSZ6 : Hid ((w5.setCell ⟨b, 2, none⟩ (.slice a' (rs.length + 1) c')).heap.size = w5.heap.size) := Lib.hid (by simp)
                clear z3 z4 z5 e3 e4 e5 g5 hrun HKP HY HR2 HRB2
                go_wp2_with fail
                refine (HC _ HU6.out).out.mono ?_
                rintro e w7 ⟨rfl, hrw7, hb7⟩
                have hr7 := HR6.out.next hb7
                obtain ⟨F', x1, x2, x3, x4, x5, x6⟩ := add_done (x0 := .int .i64 o) (x1 := .int .i64 N) (x2 := .slice (some ⟨w5.heap.size + 2, 0, none⟩) us.length us.length) HJ.out HO.out HS.out HSM.out (by decide) (by decide) HA2.out HLT.out HB3.out HRW.out (by rw [← HN.out, HRL.out]) HROW.out HGR.out HOWN.out hb7 hrw7
                rw [HSZ6.out] at x4 x5 x6
                have HX := Lib.hid (And.intro x1 (And.intro x2 (And.intro x3 (And.intro x4 (And.intro x5 x6)))))
                have g0' := hr7.c0
                have g1' := hr7.c1
                have g2' := hr7.c2
                have f0 := hr7.f0 0
                have f1 := hr7.f0 1
                have f2 := hr7.f0 2
                have h0' := ((hr7.set0 o).set1 N).set2 (some ⟨w5.heap.size + 2, 0, none⟩) us.length us.length
                have k0' := h0'.c0
                have k1' := h0'.c1
                have k2' := h0'.c2
                clear hrw7 hb7 hr7 h0' x1 x2 x3 x4 x5 x6 HU6 HR6 HROW HGR HOWN d0 d1 d2
                go_wp2
                refine bodyPost_ret (v := .tuple #[.agg #[.int .i64 o, .int .i64 N, .slice (some ⟨w5.heap.size + 2, 0, none⟩) us.length us.length], .int .i64 0]) (by simp [results, Tryd.results52, go_sem, k0', k1', k2']) rfl ⟨_, F', rfl, HX.out⟩
              exact AllReadyH.nil
            exact AllReadyH.nil
          exact AllReadyH.nil
        exact AllReadyH.nil
      refine rdH (fun K hK => ?_) ?_
      · go_simp
        refine (HC w2.drew (isUs_same HU2.out fun _ _ _ => rfl)).out.mono ?_
        rintro e w3 ⟨rfl, hrw, hb3'⟩
        have hb3 : Below w2.heap.size w2 w3 := ⟨hb3'.os, hb3'.tape, hb3'.output, hb3'.size, hb3'.block⟩
        obtain ⟨a', c', w5, hrun, HROW, HGR, HOWN, e5, g5, e3, e4, HKP⟩ := add_app HJ.out HA2.out hb3 ⟨o, N, some ⟨w2.heap.size + 2, 0, none⟩, us.length, us.length, us⟩ (by decide) (by rw [HL.out]; exact hn) 40
        obtain ⟨y3, y4, y5, y6⟩ := HKP.out _ _ _ _ _ _ (.slice a' (rs.length + 1) c') (Nat.le_succ w.heap.size) HRB2.out
        have z3 : w3.cell? ⟨w.heap.size + 1, 0, none⟩ = some (.int .i64 o) ∧ w3.cell? ⟨w.heap.size + 1, 1, none⟩ = some (.int .i64 N) ∧ w3.cell? ⟨w.heap.size + 1, 2, none⟩ = some (.slice a us.length cap) := ⟨y3.c0, y3.c1, y3.c2⟩
        have z4 : (w3.alloc (.cells #[.int .i64 o, .int .i64 N, .slice (some ⟨w2.heap.size + 2, 0, none⟩) us.length us.length] 35)).cell? ⟨w.heap.size + 1, 0, none⟩ = some (.int .i64 o) ∧ (w3.alloc (.cells #[.int .i64 o, .int .i64 N, .slice (some ⟨w2.heap.size + 2, 0, none⟩) us.length us.length] 35)).cell? ⟨w.heap.size + 1, 1, none⟩ = some (.int .i64 N) ∧ (w3.alloc (.cells #[.int .i64 o, .int .i64 N, .slice (some ⟨w2.heap.size + 2, 0, none⟩) us.length us.length] 35)).cell? ⟨w.heap.size + 1, 2, none⟩ = some (.slice a us.length cap) := ⟨y4.c0, y4.c1, y4.c2⟩
        have z5 : w5.cell? ⟨w.heap.size + 1, 0, none⟩ = some (.int .i64 o) ∧ w5.cell? ⟨w.heap.size + 1, 1, none⟩ = some (.int .i64 N) ∧ w5.cell? ⟨w.heap.size + 1, 2, none⟩ = some (.slice a us.length cap) := ⟨y5.c0, y5.c1, y5.c2⟩
        have z6 : (w5.setCell ⟨b, 2, none⟩ (.slice a' (rs.length + 1) c')).cell? ⟨w.heap.size + 1, 0, none⟩ = some (.int .i64 o) ∧ (w5.setCell ⟨b, 2, none⟩ (.slice a' (rs.length + 1) c')).cell? ⟨w.heap.size + 1, 1, none⟩ = some (.int .i64 N) ∧ (w5.setCell ⟨b, 2, none⟩ (.slice a' (rs.length + 1) c')).cell? ⟨w.heap.size + 1, 2, none⟩ = some (.slice a us.length cap) := ⟨y6.c0, y6.c1, y6.c2⟩
        have HRW : Hid (Rw w3 (w2.heap.size + 2) us) := Lib.hid hrw
        have HB3 := Lib.hid hb3
        have HY := Lib.hid y6
        clear hb3 hb3' hrw y3 y4 y5 y6
        go_wp2_with fail
        refine hK.out _ _ ?_ (fun hH => ?_)
        · exact z3
        clear hK K
        try simp only [pt]
        refine wpAnyH_ready (rs := [4, 7]) (by kernel_rfl) (by simp) ?_
        refine rdH (fun K hK => ?_) ?_
        · go_simp
          refine hK.out _ _ ?_ (fun hH => ?_)
          · exact z3
          clear hK K
          try simp only [pt]
          refine wpAnyH_ready (rs := [7]) (by kernel_rfl) (by simp) ?_
          refine rdH (fun K hK => ?_) ?_
          · go_simp
            refine hK.out _ _ ?_ (fun hH => ?_)
            · exact z4
            clear hK K
            try simp only [pt]
            refine wpAnyH_ready (rs := [8]) (by kernel_rfl) (by simp) ?_
            refine rdH (fun K hK => ?_) ?_
            · refine step_append_run (by rfl) (.tmp 41) (.tmp 44) 40 rfl _ _ _ rfl rfl hrun ?_
              refine hK.out _ _ ?_ (fun hH => ?_)
              · exact z5
              clear hK K
              try simp only [pt]
              refine tkH 9 ?_ ?_ ?_
              rotate_left
              · intro w h; try dsimp only at h
                obtain ⟨q0, q1, q2⟩ := h; go_simp; all_goals with_reducible rfl
              try simp only [pt]
              refine tkH 10 ?_ ?_ ?_
              rotate_left
              · intro w h; try dsimp only at h
                obtain ⟨q0, q1, q2⟩ := h; go_simp; all_goals with_reducible rfl
              try simp only [pt]
              refine wpAnyH_ready (rs := [11]) (by kernel_rfl) (by simp) ?_
              refine rdH (fun K hK => ?_) ?_
              · go_simp
                refine hK.out _ _ ?_ (fun hH => ?_)
                · exact z6
                clear hK K
                try simp only [pt]
                refine wpAnyH_done (by kernel_rfl) ?_ _
                obtain ⟨d0, d1, d2⟩ := z6
                have HU6 : Hid (IsUs (w5.setCell ⟨b, 2, none⟩ (.slice a' (rs.length + 1) c')) a us.length us) := Lib.hid (isUs_left HU2.out (add_left HB3.out HGR.out) HD.out)
                have HR6 : Hid (Rb (w5.setCell ⟨b, 2, none⟩ (.slice a' (rs.length + 1) c')) w.heap.size 0 0 none 0 0) := Lib.hid (HKP.out _ _ _ _ _ _ _ (Nat.le_refl w.heap.size) HR2.out).2.2.2
                have HSZ6 : Hid ((w5.setCell ⟨b, 2, none⟩ (.slice a' (rs.length + 1) c')).heap.size = w5.heap.size) := Lib.hid (by simp)
                clear z3 z4 z5 e3 e4 e5 g5 hrun HKP HY HR2 HRB2
                go_wp2_with fail
                refine (HC _ HU6.out).out.mono ?_
                rintro e w7 ⟨rfl, hrw7, hb7⟩
                have hr7 := HR6.out.next hb7
                obtain ⟨F', x1, x2, x3, x4, x5, x6⟩ := add_done (x0 := .int .i64 o) (x1 := .int .i64 N) (x2 := .slice (some ⟨w5.heap.size + 2, 0, none⟩) us.length us.length) HJ.out HO.out HS.out HSM.out (by decide) (by decide) HA2.out HLT.out HB3.out HRW.out (by rw [← HN.out, HRL.out]) HROW.out HGR.out HOWN.out hb7 hrw7
                rw [HSZ6.out] at x4 x5 x6
                have HX := Lib.hid (And.intro x1 (And.intro x2 (And.intro x3 (And.intro x4 (And.intro x5 x6)))))
                have g0' := hr7.c0
                have g1' := hr7.c1
                have g2' := hr7.c2
                have f0 := hr7.f0 0
                have f1 := hr7.f0 1
                have f2 := hr7.f0 2
                have h0' := ((hr7.set0 o).set1 N).set2 (some ⟨w5.heap.size + 2, 0, none⟩) us.length us.length
                have k0' := h0'.c0
                have k1' := h0'.c1
                have k2' := h0'.c2
                clear hrw7 hb7 hr7 h0' x1 x2 x3 x4 x5 x6 HU6 HR6 HROW HGR HOWN d0 d1 d2
                go_wp2
                refine bodyPost_ret (v := .tuple #[.agg #[.int .i64 o, .int .i64 N, .slice (some ⟨w5.heap.size + 2, 0, none⟩) us.length us.length], .int .i64 0]) (by simp [results, Tryd.results52, go_sem, k0', k1', k2']) rfl ⟨_, F', rfl, HX.out⟩
              exact AllReadyH.nil
            exact AllReadyH.nil
          exact AllReadyH.nil
        refine rdH (fun K hK => ?_) ?_
        · go_simp
          refine hK.out _ _ ?_ (fun hH => ?_)
          · exact z4
          clear hK K
          try simp only [pt]
          refine wpAnyH_ready (rs := [4]) (by kernel_rfl) (by simp) ?_
          refine rdH (fun K hK => ?_) ?_
          · go_simp
            refine hK.out _ _ ?_ (fun hH => ?_)
            · exact z4
            clear hK K
            try simp only [pt]
            refine wpAnyH_ready (rs := [8]) (by kernel_rfl) (by simp) ?_
            refine rdH (fun K hK => ?_) ?_
            · refine step_append_run (by rfl) (.tmp 41) (.tmp 44) 40 rfl _ _ _ rfl rfl hrun ?_
              refine hK.out _ _ ?_ (fun hH => ?_)
              · exact z5
              clear hK K
              try simp only [pt]
              refine tkH 9 ?_ ?_ ?_
              rotate_left
              · intro w h; try dsimp only at h
                obtain ⟨q0, q1, q2⟩ := h; go_simp; all_goals with_reducible rfl
              try simp only [pt]
              refine tkH 10 ?_ ?_ ?_
              rotate_left
              · intro w h; try dsimp only at h
                obtain ⟨q0, q1, q2⟩ := h; go_simp; all_goals with_reducible rfl
              try simp only [pt]
              refine wpAnyH_ready (rs := [11]) (by kernel_rfl) (by simp) ?_
              refine rdH (fun K hK => ?_) ?_
              · go_simp
                refine hK.out _ _ ?_ (fun hH => ?_)
                · exact z6
                clear hK K
                try simp only [pt]
                refine wpAnyH_done (by kernel_rfl) ?_ _
                obtain ⟨d0, d1, d2⟩ := z6
                have HU6 : Hid (IsUs (w5.setCell ⟨b, 2, none⟩ (.slice a' (rs.length + 1) c')) a us.length us) := Lib.hid (isUs_left HU2.out (add_left HB3.out HGR.out) HD.out)
                have HR6 : Hid (Rb (w5.setCell ⟨b, 2, none⟩ (.slice a' (rs.length + 1) c')) w.heap.size 0 0 none 0 0) := Lib.hid (HKP.out _ _ _ _ _ _ _ (Nat.le_refl w.heap.size) HR2.out).2.2.2
                have HSZ6 : Hid ((w5.setCell ⟨b, 2, none⟩ (.slice a' (rs.length + 1) c')).heap.size = w5.heap.size) := Lib.hid (by simp)
                clear z3 z4 z5 e3 e4 e5 g5 hrun HKP HY HR2 HRB2
                go_wp2_with fail
                refine (HC _ HU6.out).out.mono ?_
                rintro e w7 ⟨rfl, hrw7, hb7⟩
                have hr7 := HR6.out.next hb7
                obtain ⟨F', x1, x2, x3, x4, x5, x6⟩ := add_done (x0 := .int .i64 o) (x1 := .int .i64 N) (x2 := .slice (some ⟨w5.heap.size + 2, 0, none⟩) us.length us.length) HJ.out HO.out HS.out HSM.out (by decide) (by decide) HA2.out HLT.out HB3.out HRW.out (by rw [← HN.out, HRL.out]) HROW.out HGR.out HOWN.out hb7 hrw7
                rw [HSZ6.out] at x4 x5 x6
                have HX := Lib.hid (And.intro x1 (And.intro x2 (And.intro x3 (And.intro x4 (And.intro x5 x6)))))
                have g0' := hr7.c0
                have g1' := hr7.c1
                have g2' := hr7.c2
                have f0 := hr7.f0 0
                have f1 := hr7.f0 1
                have f2 := hr7.f0 2
                have h0' := ((hr7.set0 o).set1 N).set2 (some ⟨w5.heap.size + 2, 0, none⟩) us.length us.length
                have k0' := h0'.c0
                have k1' := h0'.c1
                have k2' := h0'.c2
                clear hrw7 hb7 hr7 h0' x1 x2 x3 x4 x5 x6 HU6 HR6 HROW HGR HOWN d0 d1 d2
                go_wp2
                refine bodyPost_ret (v := .tuple #[.agg #[.int .i64 o, .int .i64 N, .slice (some ⟨w5.heap.size + 2, 0, none⟩) us.length us.length], .int .i64 0]) (by simp [results, Tryd.results52, go_sem, k0', k1', k2']) rfl ⟨_, F', rfl, HX.out⟩
              exact AllReadyH.nil
            exact AllReadyH.nil
          exact AllReadyH.nil
        exact AllReadyH.nil
      exact AllReadyH.nil
    exact AllReadyH.nil
  exact AllReadyH.nil
end
end Go.Proofs.YtbbgibekplfacaaDoor
