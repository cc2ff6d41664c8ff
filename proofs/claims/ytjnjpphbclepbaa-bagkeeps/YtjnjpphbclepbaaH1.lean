/- The program's bag: its block, its row; New, Len, has, copied, At. -/
import Derived.Test.YtjnjpphbclepbaaH0
import Derived.Test.YtjnjpphbclepbaaSH
import Derived.Deep.QuietTactic
import Derived.BigQuiet
namespace Go.Proofs.Ytjnjpphbclepbaa
open Go Go.RowKit
set_option maxRecDepth 20000
theorem two_types {w : World} {i j : Nat} {c c' : Array Value} {t t' : TypeId} {f f' : Nat × Nat} (h : w.heap[i]? = some (.cells c t f)) (h' : w.heap[j]? = some (.cells c' t' f')) (ht : t ≠ t') : i ≠ j := fun e => by
  subst e
  rw [h] at h'
  injection h' with h'
  injection h' with _ h' _
  exact ht h'
theorem i64_id {n : Int} (h1 : -9223372036854775808 ≤ n) (h2 : n ≤ 9223372036854775807) : IntKind.i64.wrap n = n := by
  simp only [IntKind.wrap, IntKind.bits, IntKind.signed]
  simp
  omega
theorem unfrozen_at {w : World} {b : Nat} {xs : Array Value} {t : TypeId} (h : w.heap[b]? = some (.cells xs t (0, 0))) (i : Nat) : w.frozen? ⟨b, i, none⟩ = false := by simp [World.frozen?, h]
theorem old_at {W : World} {x : Obj} {n : Nat} {o : Obj} (h : W.heap[n]? = some x) : (W.alloc o).heap[n]? = some x := (Joins.below_alloc1 W o).block n (Array.getElem?_eq_some_iff.1 h).1 |>.trans h
set_option maxHeartbeats 400000 in
theorem clone_any (s : ByteArray) (hs : s.size ≤ 140737488355328) (w : World) : Calls Try.prog 30 #[.string s] w fun x w' => x = .returned (.string s) ∧ Below w.heap.size w w' := by
  go_enter Try.func30, Try.ntmps30
  go_wp2_with fail
  refine (liteClone s hs _).mono ?_
  rintro x w1 ⟨rfl, hb⟩
  have HB := Lib.hid hb
  clear hb
  go_wp2
  go_ret
  exact ⟨rfl, HB.out⟩
theorem below_set3 {w w1 : World} {b : Nat} (h : Below w.heap.size w w1) (hb : w.heap.size ≤ b) (v0 v1 v2 : Value) : Below w.heap.size w (((w1.setCell ⟨b, 0, none⟩ v0).setCell ⟨b, 1, none⟩ v1).setCell ⟨b, 2, none⟩ v2) := ((h.setCell hb _).setCell hb _).setCell hb _
theorem Below.step {w w1 w2 : World} (h : Below w.heap.size w w1) (o : Obj) (hb : Below (w1.alloc o).heap.size (w1.alloc o) w2) : Below w.heap.size w w2 := Below.next (h.alloc h.size o) hb
theorem step_append_run {ops : Array Oper} {o : Oper} {a : Act} {K : Act → World → Prop} {Q : Exit → Act → World → Prop} {E : Prop} {w w' : World} (hw : Region.wanted o (yielded ops a.tmps) = true) (s x : Operand) (t : TypeId)
    (ho : o.op = .call { callee := .builtin .append, args := #[s, x], argTypes := #[t, t] }) (vs vx v' : Value) (hs : a.eval s = vs) (hx : a.eval x = vx) (hrun : (Builtin.append_ #[t, t] o.type #[vs, vx]).run Try.prog w = .ok v' w') (h : K (a.put o.dst v') w') :
    if Region.wanted o (yielded ops a.tmps) = true then Oper.wp Try.prog o a w K Q else E := by
  rw [if_pos hw]
  unfold Oper.wp execOp
  simp only [ho, resolve, invoke, builtin, Sem.run_bind, Sem.run_pure, Result.andThen_ok, List.map_toArray, List.map_cons, List.map_nil, hs, hx, hrun]
  exact h
/-- A packet's value. -/
def pv (p : Pkt) : Value := .agg #[.int .i64 p.1, .int .i64 p.2.1, .string p.2.2]
def pktOf (p : Pk) : Pkt := (p.1, p.2.1, p.2.2.1)
/-- What may be on its way. -/
structure Okb (l : List Pk) : Prop where
  len : l.length ≤ 4096
  sh : ∀ p ∈ l, p.2.2.1.size ≤ 1000
theorem getD_mem {α : Type} {l : List α} {z : α} {k : Nat} (hk : k < l.length) : l.getD k z ∈ l := by
  have e : l.getD k z = l[k] := by simp [List.getD_eq_getElem?_getD, hk]
  rw [e]; exact List.getElem_mem _
/-- In block b lies a bag, its packets in the slice v. -/
structure Bk (B : Nat) (w : World) (b : Nat) (v : Value) (l : List Pk) : Prop where
  lo : B ≤ b
  blk : w.heap[b]? = some (.cells #[v] 53 (0, 0))
  row : RowK B w v l
  ok : Okb l
section
variable {B : Nat} {w w' : World} {b : Nat} {v : Value} {l : List Pk}
theorem Bk.c0 (h : Bk B w b v l) : w.cell? ⟨b, 0, none⟩ = some v := cell_at h.blk 0 _ rfl
theorem Bk.f0 (h : Bk B w b v l) (i : Nat) : w.frozen? ⟨b, i, none⟩ = false := unfrozen_at h.blk i
theorem Bk.lt (h : Bk B w b v l) : b < w.heap.size := (Array.getElem?_eq_some_iff.1 h.blk).1
theorem Bk.same (h : Bk B w b v l) (hb : w'.heap[b]? = w.heap[b]?) (hv : ∀ j, v.ownBlock = some j → w'.heap[j]? = w.heap[j]?) : Bk B w' b v l := ⟨h.lo, hb.trans h.blk, h.row.same hv, h.ok⟩
theorem Bk.next (h : Bk B w b v l) (hb : Below w.heap.size w w') : Bk B w' b v l := h.same (hb.block b h.lt) (fun j hj => hb.block j (h.row.lt j hj).2)
theorem Bk.alloc (h : Bk B w b v l) (o : Obj) : Bk B (w.alloc o) b v l := h.next (Joins.below_alloc1 _ _)
theorem Bk.asit (h : Bk B w b v l) (e : w'.heap = w.heap) : Bk B w' b v l := h.same (by rw [e]) (fun j _ => by rw [e])
theorem Bk.rowb (h : Bk B w b v l) : v.ownBlock ≠ some b := fun e => by
  obtain ⟨cur, hc⟩ := h.row.typ b e
  exact two_types h.blk hc (by decide) rfl
theorem Bk.lower {B' : Nat} (h : Bk B w b v l) (hB : B' ≤ B) : Bk B' w b v l := ⟨Nat.le_trans hB h.lo, h.blk, h.row.lower hB, h.ok⟩
/-- The packet at a place. -/
theorem Bk.at (h : Bk B w b v l) {k : Nat} (hk : k < l.length) : ∃ g c, v = .slice (some ⟨g, 0, none⟩) l.length c ∧ B ≤ g ∧ g ≠ b ∧ (∀ i, i < l.length → K4 w g (i * 4) (l.getD i pq0)) ∧ (∀ i, w.frozen? ⟨g, i, none⟩ = false) := by
  have hr := h.row
  have hnb := h.rowb
  rcases h.row.2 with ⟨rfl, h0⟩ | ⟨g, cap, cur, rfl, hlo, hg, hc, _⟩
  · omega
  · exact ⟨g, cap, rfl, hlo, fun e => hnb (by rw [e]; rfl), fun i hi => RowK.f4 hr i hi, fun i => unfrozen_at hg i⟩
theorem Bk.sz (h : Bk B w b v l) {k : Nat} (hk : k < l.length) : (l.getD k pq0).2.2.1.size ≤ 1000 := h.ok.sh _ (getD_mem hk)
end
set_option maxHeartbeats 400000 in
theorem new_any (w : World) : Calls Try.prog 7 #[] w fun x w' => x = .returned (.pointer (some ⟨w.heap.size, 0, none⟩)) ∧ Bk w.heap.size w' w.heap.size (.slice none 0 0) [] ∧ Below w.heap.size w w' ∧ w'.heap.size = w.heap.size + 1 := by
  go_enter Try.func7, Try.ntmps7
  go_wp2
  go_ret
  exact ⟨rfl, ⟨Nat.le_refl _, heap_alloc_new _ _, rowK_nil _ _, ⟨by simp, fun p hp => by cases hp⟩⟩, Joins.below_alloc1 _ _, by simp⟩
section
variable {B b : Nat} {v : Value} {l : List Pk}
theorem len_any (w : World) (h : Bk B w b v l) : Calls Try.prog 14 #[.pointer (some ⟨b, 0, none⟩)] w fun x w' => x = .returned (.int .i64 (l.length : Int)) ∧ w' = w := by
  obtain ⟨a, c, rfl, _⟩ := h.row.is
  have c0 := h.c0
  generalize l.length = n at *
  clear h
  go_enter Try.func14, Try.ntmps14
  go_wp2
  go_ret
  exact ⟨rfl, rfl⟩
set_option maxHeartbeats 400000 in
theorem has_any (i : Int) (hs : Bool) (hhs : decide (0 ≤ i ∧ i < (l.length : Int)) = hs) (w : World) (h : Bk B w b v l) : Calls Try.prog 24 #[.pointer (some ⟨b, 0, none⟩), .int .i64 i] w fun x w' => x = .returned (.bool hs) ∧ w' = w := by
  obtain ⟨a, c, rfl, _⟩ := h.row.is
  have c0 := h.c0
  generalize l.length = n at *
  clear h
  by_cases h1 : 0 ≤ i
  · have q : decide (0 ≤ i) = true := by simpa using h1
    obtain rfl : decide (i < (n : Int)) = hs := by rw [← hhs]; simp [h1]
    clear h1
    go_enter Try.func24, Try.ntmps24
    go_wp2
    go_ret
    exact ⟨rfl, rfl⟩
  · have q : decide (0 ≤ i) = false := by simpa using h1
    have q2 : hs = false := by rw [← hhs]; simp [h1]
    subst q2
    clear hhs h1
    go_enter Try.func24, Try.ntmps24
    go_wp2
    go_ret
    exact ⟨rfl, rfl⟩
end
set_option maxHeartbeats 400000 in
theorem copied_any (p : Pkt) (hs : p.2.2.size ≤ 1000) (w : World) : Calls Try.prog 25 #[pv p] w fun x w' => x = .returned (pv p) ∧ Below w.heap.size w w' := by
  obtain ⟨pf, pt, pd⟩ := p
  simp only at hs
  have HC := fun w => Lib.hid (clone_any pd (by omega) w)
  unfold pv
  simp only
  go_enter Try.func25, Try.ntmps25
  go_wp2_with fail
  refine (HC _).out.mono ?_
  rintro e w1 ⟨rfl, hb1⟩
  have hr := kept_at (old_at (new_at (n := w.heap.size) rfl)) hb1
  have hr2 := kept_at (new_at (n := w.heap.size + 1) (by simp)) hb1
  have HB := Lib.hid ((Joins.below_alloc2 w _ _).trans (hb1.mono (by simp; omega)))
  have c0 := cell_at hr 0 (.int .i64 pf) rfl
  have c1 := cell_at hr 1 (.int .i64 pt) rfl
  have c2 := cell_at hr 2 (.string pd) rfl
  have f0 := unfrozen_at hr 0
  have f1 := unfrozen_at hr 1
  have f2 := unfrozen_at hr 2
  have d0 := cell_at hr2 0 (.int .i64 0) rfl
  have d1 := cell_at hr2 1 (.int .i64 0) rfl
  have d2 := cell_at hr2 2 (.string ⟨#[]⟩) rfl
  have e0 := unfrozen_at hr2 0
  have e1 := unfrozen_at hr2 1
  have e2 := unfrozen_at hr2 2
  clear hr hr2 hb1 HC
  go_wp2
  refine bodyPost_ret (v := .agg #[.int .i64 pf, .int .i64 pt, .string pd]) (by simp [results, Try.results25, go_sem, d0, d1, d2]) rfl ⟨rfl, ?_⟩
  exact below_set3 (HB.out.setCell (Nat.le_refl _) _) (by omega) _ _ _
section
variable {B b : Nat} {v : Value} {l : List Pk}
set_option maxHeartbeats 800000 in
theorem at_out (i : Int) (hi : ¬ (0 ≤ i ∧ i < (l.length : Int))) (w : World) (h : Bk B w b v l) : Calls Try.prog 13 #[.pointer (some ⟨b, 0, none⟩), .int .i64 i] w fun x w' => x = .returned (.tuple #[pv pk0, .bool false]) ∧ Below w.heap.size w w' := by
  have HH := fun W hW => Lib.hid (has_any (B := B) (b := b) (v := v) (l := l) i false (by simpa using hi) W hW)
  have HK := fun o => Lib.hid (h.alloc o)
  clear h hi
  go_enter Try.func13, Try.ntmps13
  go_wp2_with fail
  refine (HH _ (HK _).out).out.mono ?_
  rintro e w1 ⟨rfl, rfl⟩
  have HB := Lib.hid (Joins.below_alloc1 w (.cells #[.int .i64 0, .int .i64 0, .string ⟨#[]⟩] 39))
  clear HH HK
  go_wp2
  refine bodyPost_ret (v := .tuple #[.agg #[.int .i64 0, .int .i64 0, .string ⟨#[]⟩], .bool false]) (by simp [results, Try.results13, go_sem]) rfl ⟨rfl, ?_⟩
  exact HB.out
set_option maxHeartbeats 1600000 in
theorem at_in (k : Nat) (hk : k < l.length) (w : World) (h : Bk B w b v l) : Calls Try.prog 13 #[.pointer (some ⟨b, 0, none⟩), .int .i64 (k : Int)] w fun x w' => x = .returned (.tuple #[pv (pktOf (l.getD k pq0)), .bool true]) ∧ Below w.heap.size w w' := by
  have HH := fun W hW => Lib.hid (has_any (B := B) (b := b) (v := v) (l := l) (k : Int) true (by simp; omega) W hW)
  have HKK := fun o => Lib.hid (h.alloc o)
  have hlt := h.lt
  have hsz := h.sz hk
  clear h
  have HKL := Lib.hid hk
  obtain ⟨⟨pf, pt, pd, pm⟩, hp⟩ : ∃ p, l.getD k pq0 = p := ⟨_, rfl⟩
  rw [hp] at hsz ⊢
  simp only at hsz
  have HC := fun w => Lib.hid (copied_any (pf, pt, pd) hsz w)
  have HP := Lib.hid hp
  unfold pktOf
  simp only
  unfold pv at *
  simp only at HC ⊢
  clear hp
  go_enter Try.func13, Try.ntmps13
  go_wp2_with fail
  refine (HH _ (HKK _).out).out.mono ?_
  rintro e w1 ⟨rfl, hw⟩
  have h1 : Bk B w1 b v l := hw ▸ (HKK _).out
  have hr : w1.heap[w.heap.size]? = some (.cells #[.int .i64 0, .int .i64 0, .string ⟨#[]⟩] 39 (0, 0)) := hw ▸ new_at rfl
  have hb1 : Below w.heap.size w w1 := hw ▸ Joins.below_alloc1 w _
  clear hw HH HKK
  obtain ⟨g, c, rfl, hlo, hne, hf, hz⟩ := h1.at hk
  have hfk := hf k hk
  rw [HP.out] at hfk
  have d0 := hfk.fr
  have d1 := hfk.to
  have d2 := hfk.d
  simp only at d0 d1 d2
  have c0 := h1.c0
  have hbs := hb1.size
  have HB1 := Lib.hid hb1
  have HR := Lib.hid hr
  have hlr := (Array.getElem?_eq_some_iff.1 hr).1
  clear HP
  generalize l.length = n at *
  clear h1 hfk hf hz hr hb1
  go_wp2_with fail
  refine (HC _).out.mono ?_
  rintro e w2 ⟨rfl, hb⟩
  have hr := kept_at HR.out hb
  have HB := Lib.hid (HB1.out.trans (hb.mono hbs))
  have e0 := cell_at hr 0 (.int .i64 0) rfl
  have e1 := cell_at hr 1 (.int .i64 0) rfl
  have e2 := cell_at hr 2 (.string ⟨#[]⟩) rfl
  have f0 := unfrozen_at hr 0
  have f1 := unfrozen_at hr 1
  have f2 := unfrozen_at hr 2
  clear hb hr HC d0 d1 d2 c0
  go_wp2
  refine bodyPost_ret (v := .tuple #[.agg #[.int .i64 pf, .int .i64 pt, .string pd], .bool true]) (by simp [results, Try.results13, go_sem, e0, e1, e2]) rfl ⟨rfl, ?_⟩
  exact below_set3 HB.out (Nat.le_refl _) _ _ _
end
end Go.Proofs.Ytjnjpphbclepbaa
