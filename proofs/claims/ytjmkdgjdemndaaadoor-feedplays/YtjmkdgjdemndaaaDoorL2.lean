import Derived.Test.YtjmkdgjdemndaaaDoorL1
import Derived.Test.YtjmkdgjdemndaaaDoorSH
import Derived.Deep.QuietTactic
import Derived.BigQuiet
import Derived.Deep.RegionHeld3
/- A sender, as it lies there; New, Unacked, Clone; the document's New. -/
namespace Go.Proofs.YtjmkdgjdemndaaaDoor.K
open Go Go.RowKit
set_option maxRecDepth 20000
/-- What may stand: the bounds, and the pieces behind the first k. -/
structure Ok (win last : Int) (k : Nat) (ds : List ByteArray) : Prop where
  w1 : 1 ≤ win
  w2 : win ≤ 16
  l1 : 0 ≤ last
  l2 : last ≤ 1125899906842624
  len : (ds.length : Int) ≤ win
  all : ((k + ds.length : Nat) : Int) ≤ last
  sh : ∀ d ∈ ds, d.size ≤ 1000
/-- What an offer answers: the number, the error; and what then waits. -/
def offN (win last : Int) (k : Nat) (ds : List ByteArray) : Int := if win ≤ (ds.length : Int) then 0 else if last ≤ ((k + ds.length : Nat) : Int) then 0 else ((k + ds.length + 1 : Nat) : Int)
def offE (win last : Int) (k : Nat) (ds : List ByteArray) : Int := if win ≤ (ds.length : Int) then 7 else if last ≤ ((k + ds.length : Nat) : Int) then 8 else 0
def offD (win last : Int) (k : Nat) (ds : List ByteArray) (x : ByteArray) : List ByteArray := if win ≤ (ds.length : Int) then ds else if last ≤ ((k + ds.length : Nat) : Int) then ds else ds ++ [x]
/-- How many an acknowledgement takes away. -/
def ackM (k len : Nat) (n : Int) : Nat := if ((k + len : Nat) : Int) < n ∨ n ≤ (k : Int) then 0 else (n - (k : Int)).toNat
/-- In block b lies a sender, its pieces in the slice v. -/
structure Sn (B : Nat) (w : World) (b : Nat) (v : Value) (win last : Int) (k : Nat) (ds : List ByteArray) : Prop where
  lo : B ≤ b
  blk : w.heap[b]? = some (.cells #[.int .i64 win, .int .i64 last, .int .i64 ((k + ds.length : Nat) : Int), v] 125 (0, 0))
  row : PR B w v k ds
  ok : Ok win last k ds
section
variable {B : Nat} {w w' : World} {b : Nat} {v : Value} {win last : Int} {k : Nat} {ds : List ByteArray}
theorem Sn.c0 (h : Sn B w b v win last k ds) : w.cell? ⟨b, 0, none⟩ = some (.int .i64 win) := cell_at h.blk 0 _ rfl
theorem Sn.c1 (h : Sn B w b v win last k ds) : w.cell? ⟨b, 1, none⟩ = some (.int .i64 last) := cell_at h.blk 1 _ rfl
theorem Sn.c2 (h : Sn B w b v win last k ds) : w.cell? ⟨b, 2, none⟩ = some (.int .i64 ((k + ds.length : Nat) : Int)) := cell_at h.blk 2 _ rfl
theorem Sn.c3 (h : Sn B w b v win last k ds) : w.cell? ⟨b, 3, none⟩ = some v := cell_at h.blk 3 _ rfl
theorem Sn.f0 (h : Sn B w b v win last k ds) (i : Nat) : w.frozen? ⟨b, i, none⟩ = false := by have := h.blk; simp [World.frozen?, this]
theorem Sn.lt (h : Sn B w b v win last k ds) : b < w.heap.size := (Array.getElem?_eq_some_iff.1 h.blk).1
theorem Sn.same (h : Sn B w b v win last k ds) (hb : w'.heap[b]? = w.heap[b]?) (hv : ∀ j, v.ownBlock = some j → w'.heap[j]? = w.heap[j]?) : Sn B w' b v win last k ds := ⟨h.lo, hb.trans h.blk, h.row.kept hv, h.ok⟩
theorem Sn.next (h : Sn B w b v win last k ds) (hb : Below w.heap.size w w') : Sn B w' b v win last k ds := h.same (hb.block b h.lt) (fun j hj => hb.block j (h.row.lt j hj).2)
theorem Sn.drew (h : Sn B w b v win last k ds) : Sn B w.drew b v win last k ds := ⟨h.lo, h.blk, h.row, h.ok⟩
theorem Sn.lower {B' : Nat} (h : Sn B w b v win last k ds) (hB : B' ≤ B) : Sn B' w b v win last k ds := ⟨Nat.le_trans hB h.lo, h.blk, h.row.lower hB, h.ok⟩
theorem PR.typ (h : PR B w v k ds) (j : Nat) (hj : v.ownBlock = some j) : ∃ cur, w.heap[j]? = some (.cells cur 96 (0, 0)) := by
  rcases h with ⟨rfl, _⟩ | ⟨g, off, cap, cur, rfl, _, hg, _⟩
  · cases hj
  · simp only [Value.ownBlock, Option.some.injEq] at hj
    subst hj
    exact ⟨cur, hg⟩
end
/-- Two blocks of unlike types are two. -/
theorem two_types {w : World} {i j : Nat} {c c' : Array Value} {t t' : TypeId} {f f' : Nat × Nat} (h : w.heap[i]? = some (.cells c t f)) (h' : w.heap[j]? = some (.cells c' t' f')) (ht : t ≠ t') : i ≠ j := fun e => by
  subst e
  rw [h] at h'
  injection h' with h'
  injection h' with _ h' _
  exact ht h'
set_option maxHeartbeats 400000 in
theorem clone_any (s : ByteArray) (hs : s.size ≤ 140737488355328) (w : World) : Calls Tryd.prog 65 #[.string s] w fun x w' => x = .returned (.string s) ∧ Below w.heap.size w w' := by
  go_enter Tryd.func65, Tryd.ntmps65
  go_wp2_with fail
  refine (liteClone s hs _).mono ?_
  rintro x w1 ⟨rfl, hb⟩
  have HB := Lib.hid hb
  clear hb
  go_wp2
  go_ret
  exact ⟨rfl, HB.out⟩
theorem nearest_any (n lo hi : Int) (w : World) : Calls Tryd.prog 74 #[.int .i64 n, .int .i64 lo, .int .i64 hi] w fun x w' => x = .returned (.int .i64 (min (max n lo) hi)) ∧ w = w' := by
  go_enter Tryd.func74, Tryd.ntmps74
  go_wp2
  go_ret
  exact ⟨rfl, rfl⟩
theorem clamp_any (n lo hi : Int) (hlh : lo ≤ hi) (w : World) : Calls Tryd.prog 75 #[.int .i64 n, .int .i64 lo, .int .i64 hi] w fun x w' => x = .returned (.int .i64 (min (max n lo) hi)) ∧ w = w' := by
  by_cases h1 : n < lo
  · have e : min (max n lo) hi = lo := by omega
    rw [e]
    go_enter Tryd.func75, Tryd.ntmps75
    go_wp2
    go_ret
    exact ⟨rfl, rfl⟩
  by_cases h2 : hi < n
  · have e : min (max n lo) hi = hi := by omega
    rw [e]
    go_enter Tryd.func75, Tryd.ntmps75
    go_wp2
    go_ret
    exact ⟨rfl, rfl⟩
  have e : min (max n lo) hi = n := by omega
  rw [e]
  go_enter Tryd.func75, Tryd.ntmps75
  go_wp2
  go_ret
  exact ⟨rfl, rfl⟩
/-- The window and the greatest number that count. -/
def winOf (a : Int) : Int := min (max a 1) 16
def lastOf (a : Int) : Int := min (max a 0) 1125899906842624
theorem ok_new (a c : Int) : Ok (winOf a) (lastOf c) 0 [] := by
  unfold winOf lastOf
  exact ⟨by omega, by omega, by omega, by omega, by simp only [List.length_nil]; omega, by simp only [List.length_nil]; omega, fun d hd => by cases hd⟩
set_option maxHeartbeats 400000 in
theorem new_any (a c : Int) (w : World) : Calls Tryd.prog 54 #[.int .i64 a, .int .i64 c] w fun x w' => x = .returned (.pointer (some ⟨w.heap.size, 0, none⟩)) ∧ Sn w.heap.size w' w.heap.size (.slice none 0 0) (winOf a) (lastOf c) 0 [] ∧ Below w.heap.size w w' := by
  have HO := Lib.hid (ok_new a c)
  have H1 := fun w => Lib.hid (nearest_any a 1 16 w)
  have H2 := fun w => Lib.hid (nearest_any c 0 1125899906842624 w)
  unfold winOf lastOf at *
  generalize min (max a 1) 16 = p at *
  generalize min (max c 0) 1125899906842624 = q at *
  go_enter Tryd.func54, Tryd.ntmps54
  go_wp2_with fail
  refine (H1 _).out.mono ?_
  rintro x w1 ⟨rfl, rfl⟩
  go_wp2_with fail
  refine (H2 _).out.mono ?_
  rintro x w1 ⟨rfl, rfl⟩
  go_wp2
  go_ret
  exact ⟨rfl, ⟨Nat.le_refl _, heap_alloc_new _ _, .inl ⟨rfl, rfl⟩, HO.out⟩, Joins.below_alloc1 _ _⟩
end Go.Proofs.YtjmkdgjdemndaaaDoor.K
/- Offer. -/
namespace Go.Proofs.YtjmkdgjdemndaaaDoor.K
open Go Go.RowKit
set_option maxRecDepth 20000
theorem i64_id {n : Int} (h1 : -9223372036854775808 ≤ n) (h2 : n ≤ 9223372036854775807) : IntKind.i64.wrap n = n := by
  simp only [IntKind.wrap, IntKind.bits, IntKind.signed]
  simp
  omega
section
variable {B b : Nat} {v : Value} {win last : Int} {k : Nat} {ds : List ByteArray}
/-- What a call on a sender leaves of its row's place. -/
def Nw (w : World) (v v' : Value) : Prop := ∀ j, v'.ownBlock = some j → v.ownBlock = some j ∨ w.heap.size ≤ j
theorem Nw.refl (w : World) (v : Value) : Nw w v v := fun _ h => .inl h
theorem Ok.more (h : Ok win last k ds) (x : ByteArray) (hx : x.size ≤ 1000) (h1 : (ds.length : Int) < win) (h2 : ((k + ds.length : Nat) : Int) < last) : Ok win last k (ds ++ [x]) := by
  refine ⟨h.w1, h.w2, h.l1, h.l2, by simp only [List.length_append, List.length_singleton]; omega, by simp only [List.length_append, List.length_singleton]; omega, fun d hd => ?_⟩
  rcases List.mem_append.1 hd with hd | hd
  · exact h.sh d hd
  · rw [List.mem_singleton.1 hd]; exact hx
/-- How it stands when a piece is there, in the row of the world w5. -/
theorem off_fin {w w1 w3 w5 : World} {x : ByteArray} {a' : Option Addr} {c' : Nat} {o : Obj} {S1 : Int} (hx : x.size ≤ 1000) (h : Sn B w b v win last k ds) (h1 : (ds.length : Int) < win) (h2 : ((k + ds.length : Nat) : Int) < last) (hS : ((k + ds.length + 1 : Nat) : Int) = S1)
    (hb : Below w1.heap.size w1 w3) (e1 : w1.heap = (w.setCell ⟨b, 2, none⟩ (.int .i64 S1)).heap) (eo : w1.os = w.os) (et : w1.tape = w.tape) (eu : w1.output = w.output) (hp : PR B w5 (.slice a' (ds.length + 1) c') k (ds ++ [x])) (hg : (w3.alloc o).grownBy w5 v.ownBlock) (hn : ∀ j, (Value.slice a' (ds.length + 1) c').ownBlock = some j → v.ownBlock = some j ∨ (w3.alloc o).heap.size ≤ j) :
    Sn B (w5.setCell ⟨b, 3, none⟩ (.slice a' (ds.length + 1) c')) b (.slice a' (ds.length + 1) c') win last k (ds ++ [x]) ∧ Fr w (w5.setCell ⟨b, 3, none⟩ (.slice a' (ds.length + 1) c')) b v.ownBlock ∧ Nw w v (.slice a' (ds.length + 1) c') := by
  have hblk := h.blk
  have hlt := h.lt
  have s1 : w1.heap.size = w.heap.size := by rw [e1]; simp
  have s3 := hb.size
  have hsz : (w3.alloc o).heap.size = w3.heap.size + 1 := by simp
  have b1 : w1.heap[b]? = some (.cells #[.int .i64 win, .int .i64 last, .int .i64 S1, v] 125 (0, 0)) := by
    rw [e1]
    simp [World.setCell, Array.getElem?_modify, hblk]
  have hvb : v.ownBlock ≠ some b := fun e => by
    obtain ⟨cur, hc⟩ := h.row.typ b e
    exact two_types hblk hc (by decide) rfl
  have b5 : w5.heap[b]? = some (.cells #[.int .i64 win, .int .i64 last, .int .i64 S1, v] 125 (0, 0)) := by
    rw [hg.block b (by omega) (fun e => hvb e.symm), (Joins.below_alloc1 w3 o).block b (by omega), hb.block b (by omega)]
    exact b1
  have hpb : (Value.slice a' (ds.length + 1) c').ownBlock ≠ some b := fun e => by
    obtain ⟨cur, hc⟩ := hp.typ b e
    exact two_types b5 hc (by decide) rfl
  refine ⟨⟨h.lo, ?_, hp.kept fun j hj => Below.heap_setCell _ _ _ _ (fun e => hpb (by rw [hj, e])), h.ok.more x hx h1 h2⟩, ?_, fun j hj => ?_⟩
  · rw [List.length_append, List.length_singleton, ← Nat.add_assoc, hS]
    simp [World.setCell, Array.getElem?_modify, b5]
  · have f1 : Fr w w1 b v.ownBlock := by
      have := Fr.set w b 2 (.int .i64 S1) v.ownBlock
      exact ⟨eo, et, eu, by rw [e1]; exact this.size, fun i hi h1 h2 => by rw [e1]; exact this.block i hi h1 h2⟩
    have f3 : Fr w1 w3 b v.ownBlock := Fr.ofBelow hb
    have f4 : Fr w3 (w3.alloc o) b v.ownBlock := Fr.ofBelow (Joins.below_alloc1 _ _)
    exact (((f1.trans f3).trans f4).trans (Fr.ofRow hg)).trans (Fr.set _ _ _ _ _)
  · rcases hn j hj with h' | h'
    · exact .inl h'
    · exact .inr (by omega)
theorem off_app {w w1 w3 : World} {a : Option Addr} {c : Nat} {S1 : Int} (x : ByteArray) (ty : TypeId) (h : Sn B w b (.slice a ds.length c) win last k ds) (hS : ((k + ds.length + 1 : Nat) : Int) = S1) (hb : Below w1.heap.size w1 w3) (e1 : w1.heap = (w.setCell ⟨b, 2, none⟩ (.int .i64 S1)).heap) :
    ∃ a' c' w5, (Builtin.append_ #[93, 93] ty #[.slice a ds.length c, .slice (some ⟨w3.heap.size, 0, none⟩) 1 1]).run Tryd.prog (w3.alloc (.cells #[.int .i64 S1, .string x] 96)) = .ok (.slice a' (ds.length + 1) c') w5 ∧ Hid (PR B w5 (.slice a' (ds.length + 1) c') k (ds ++ [x])) ∧ Hid ((w3.alloc (.cells #[.int .i64 S1, .string x] 96)).grownBy w5 (Value.slice a ds.length c).ownBlock) ∧ Hid (∀ j, (Value.slice a' (ds.length + 1) c').ownBlock = some j → (Value.slice a ds.length c).ownBlock = some j ∨ (w3.alloc (.cells #[.int .i64 S1, .string x] 96)).heap.size ≤ j) ∧ w5.cell? ⟨b, 3, none⟩ = some (.slice a ds.length c) ∧ w5.frozen? ⟨b, 3, none⟩ = false ∧ w3.cell? ⟨b, 2, none⟩ = some (.int .i64 S1) ∧ w3.cell? ⟨b, 3, none⟩ = some (.slice a ds.length c) ∧ (w3.alloc (.cells #[.int .i64 S1, .string x] 96)).cell? ⟨b, 3, none⟩ = some (.slice a ds.length c) ∧ (w5.setCell ⟨b, 3, none⟩ (.slice a' (ds.length + 1) c')).cell? ⟨b, 2, none⟩ = some (.int .i64 S1) ∧ (w3.alloc (.cells #[.int .i64 S1, .string x] 96)).cell? ⟨b, 2, none⟩ = some (.int .i64 S1) ∧ w5.cell? ⟨b, 2, none⟩ = some (.int .i64 S1) := by
  have hblk := h.blk
  have hlt := h.lt
  have hlo := h.lo
  have s1 : w1.heap.size = w.heap.size := by rw [e1]; simp
  have s3 := hb.size
  have hsz : (w3.alloc (.cells #[.int .i64 S1, .string x] 96)).heap.size = w3.heap.size + 1 := by simp
  have b1 : w1.heap[b]? = some (.cells #[.int .i64 win, .int .i64 last, .int .i64 S1, .slice a ds.length c] 125 (0, 0)) := by
    rw [e1]
    simp [World.setCell, Array.getElem?_modify, hblk]
  have hvb : (Value.slice a ds.length c).ownBlock ≠ some b := fun e => by
    obtain ⟨cur, hc⟩ := h.row.typ b e
    exact two_types hblk hc (by decide) rfl
  have b3 : w3.heap[b]? = some (.cells #[.int .i64 win, .int .i64 last, .int .i64 S1, .slice a ds.length c] 125 (0, 0)) := (hb.block b (by omega)).trans b1
  have b4 : (w3.alloc (.cells #[.int .i64 S1, .string x] 96)).heap[b]? = some (.cells #[.int .i64 win, .int .i64 last, .int .i64 S1, .slice a ds.length c] 125 (0, 0)) := ((Joins.below_alloc1 w3 _).block b (by omega)).trans b3
  have hrow : PR B (w3.alloc (.cells #[.int .i64 S1, .string x] 96)) (.slice a ds.length c) k ds := by
    refine h.row.kept fun j hj => ?_
    have hj2 := (h.row.lt j hj).2
    have hjb : j ≠ b := fun e => hvb (by rw [hj, e])
    rw [(Joins.below_alloc1 w3 _).block j (by omega), hb.block j (by omega), e1]
    exact Below.heap_setCell _ _ _ _ hjb
  have hl1000 : ds.length ≤ 1000 := by have := h.ok.len; have := h.ok.w2; omega
  obtain ⟨a', c', w5, r1, r2, r3, r4⟩ := run_appP _ ty B _ k ds hrow ⟨w3.heap.size, 0, none⟩ 1 x (fun j u hj => by
    rw [Go.WideShapes.add_plain, cell_of_row _ _ _ _ _ _ (heap_alloc_new w3 _), Nat.zero_add, ← hj]
    simp only [flP]
    rw [hS]
    simp) (Nat.le_refl _) hl1000 (by omega)
  have b5 : w5.heap[b]? = some (.cells #[.int .i64 win, .int .i64 last, .int .i64 S1, .slice a ds.length c] 125 (0, 0)) := by
    rw [r3.block b (by omega) (fun e => hvb e.symm)]
    exact b4
  exact ⟨a', c', w5, r1, r2, r3, r4, cell_at b5 3 _ rfl, by simp [World.frozen?, b5], cell_at b3 2 _ rfl, cell_at b3 3 _ rfl, cell_at b4 3 _ rfl, by simp [World.cell?, World.setCell, Array.getElem?_modify, b5], cell_at b4 2 _ rfl, cell_at b5 2 _ rfl⟩
theorem step_append_run {ops : Array Oper} {o : Oper} {a : Act} {K : Act → World → Prop} {Q : Exit → Act → World → Prop} {E : Prop} {w w' : World} (hw : Region.wanted o (yielded ops a.tmps) = true) (s x : Operand) (t : TypeId)
    (ho : o.op = .call { callee := .builtin .append, args := #[s, x], argTypes := #[t, t] }) (vs vx v' : Value) (hs : a.eval s = vs) (hx : a.eval x = vx) (hrun : (Builtin.append_ #[t, t] o.type #[vs, vx]).run Tryd.prog w = .ok v' w') (h : K (a.put o.dst v') w') :
    if Region.wanted o (yielded ops a.tmps) = true then Oper.wp Tryd.prog o a w K Q else E := by
  rw [if_pos hw]
  unfold Oper.wp execOp
  simp only [ho, resolve, invoke, builtin, Sem.run_bind, Sem.run_pure, Result.andThen_ok, List.map_toArray, List.map_cons, List.map_nil, hs, hx, hrun]
  exact h
set_option maxHeartbeats 4000000 in
theorem off_yes (x : ByteArray) (hx : x.size ≤ 1000) (h1 : (ds.length : Int) < win) (h2 : ((k + ds.length : Nat) : Int) < last) (w : World) (h : Sn B w b v win last k ds) :
    Calls Tryd.prog 83 #[.pointer (some ⟨b, 0, none⟩), .string x] w fun e w' => e = .returned (.tuple #[.int .i64 ((k + ds.length + 1 : Nat) : Int), .int .i64 0]) ∧ ∃ v', Sn B w' b v' win last k (ds ++ [x]) ∧ Fr w w' b v.ownBlock ∧ Nw w v v' := by
  obtain ⟨a, c, hv, hlc, hn⟩ := h.row.is
  subst hv
  have hok := h.ok
  have c0 := h.c0
  have c1 := h.c1
  have c2 := h.c2
  have c3 := h.c3
  have f2 := h.f0 2
  have k1 : ¬ win ≤ (ds.length : Int) := by omega
  have k2 : ¬ last ≤ ((k + ds.length : Nat) : Int) := by omega
  obtain ⟨S1, hS1⟩ : ∃ S1 : Int, ((k + ds.length + 1 : Nat) : Int) = S1 := ⟨_, rfl⟩
  have hwr : IntKind.i64.wrap (((k + ds.length : Nat) : Int) + 1) = S1 := by
    rw [show ((k + ds.length : Nat) : Int) + 1 = S1 by omega]
    have := hok.l2
    exact i64_id (by omega) (by omega)
  rw [hS1]
  have hS0w : (w.setCell ⟨b, 2, none⟩ (.int .i64 S1)).cell? ⟨b, 2, none⟩ = some (.int .i64 S1) := by
    have := h.blk
    simp [World.cell?, World.setCell, Array.getElem?_modify, this]
  have H := Lib.hid h
  have HS1 := Lib.hid hS1
  have H1 := Lib.hid h1
  have H2 := Lib.hid h2
  clear h hS1 h1 h2 hok hlc hn
  generalize ((k + ds.length : Nat) : Int) = S at c2 hwr k2
  go_enter Tryd.func83, Tryd.ntmps83
  go_wp2_with fail
  go_quiet (fail)
  revert nq
  intro n1
  go_wp2_with fail
  go_quiet (fail)
  go_wp2_with fail
  clear c0 c1 k1 k2
  have hS0 : ((w.drewN (n1 + nq)).setCell ⟨b, 2, none⟩ (.int .i64 S1)).drew.cell? ⟨b, 2, none⟩ = some (.int .i64 S1) := hS0w
  refine wp_region_held_drew (S := fun w' => w'.cell? ⟨b, 2, none⟩ = some (.int .i64 S1)) (by kernel_rfl) ?_ (fun hH => ?_)
  · exact hS0
  refine wpAnyH_take (i := 0) (oi := { dst := some 32, op := Go.Op.move (Go.Operand.tmp 0), type := 70, pos := "sender.go:41", after := #[], guard := none }) (v := ?_) rfl (by kernel_rfl) (by kernel_rfl) (by kernel_rfl) (fun _ _ _ h => h) (Or.inl ⟨by rfl, ?_⟩) (by assumption) ?_
  rotate_left
  · intro w hSw
    try dsimp only at hSw
    go_simp
    all_goals with_reducible rfl
  try simp only [Act.put, List.setIfInBounds_toArray, List.set_cons_zero, List.set_cons_succ]
  refine wpAnyH_take (i := 1) (oi := { dst := some 33, op := Go.Op.move (Go.Operand.tmp 0), type := 70, pos := "sender.go:41", after := #[], guard := none }) (v := ?_) rfl (by kernel_rfl) (by kernel_rfl) (by kernel_rfl) (fun _ _ _ h => h) (Or.inl ⟨by rfl, ?_⟩) (by assumption) ?_
  rotate_left
  · intro w hSw
    try dsimp only at hSw
    go_simp
    all_goals with_reducible rfl
  try simp only [Act.put, List.setIfInBounds_toArray, List.set_cons_zero, List.set_cons_succ]
  refine wpAnyH_take (i := 2) (oi := { dst := some 34, op := Go.Op.nilCheck (Go.Operand.tmp 33), type := 0, pos := "sender.go:41", after := #[{ on := 1, ground := Go.Ground.data }], guard := none }) (v := ?_) rfl (by kernel_rfl) (by kernel_rfl) (by kernel_rfl) (fun _ _ _ h => h) (Or.inl ⟨by rfl, ?_⟩) (by assumption) ?_
  rotate_left
  · intro w hSw
    try dsimp only at hSw
    go_simp
    all_goals with_reducible rfl
  try simp only [Act.put, List.setIfInBounds_toArray, List.set_cons_zero, List.set_cons_succ]
  refine wpAnyH_take (i := 3) (oi := { dst := some 35, op := Go.Op.fieldAddr 125 (Go.Operand.tmp 34) 3, type := 0, pos := "sender.go:41", after := #[{ on := 2, ground := Go.Ground.data }], guard := none }) (v := ?_) rfl (by kernel_rfl) (by kernel_rfl) (by kernel_rfl) (fun _ _ _ h => h) (Or.inl ⟨by rfl, ?_⟩) (by assumption) ?_
  rotate_left
  · intro w hSw
    try dsimp only at hSw
    go_simp
    all_goals with_reducible rfl
  try simp only [Act.put, List.setIfInBounds_toArray, List.set_cons_zero, List.set_cons_succ]
  refine wpAnyH_take (i := 5) (oi := { dst := some 37, op := Go.Op.move (Go.Operand.tmp 0), type := 70, pos := "sender.go:41", after := #[], guard := none }) (v := ?_) rfl (by kernel_rfl) (by kernel_rfl) (by kernel_rfl) (fun _ _ _ h => h) (Or.inl ⟨by rfl, ?_⟩) (by assumption) ?_
  rotate_left
  · intro w hSw
    try dsimp only at hSw
    go_simp
    all_goals with_reducible rfl
  try simp only [Act.put, List.setIfInBounds_toArray, List.set_cons_zero, List.set_cons_succ]
  refine wpAnyH_take (i := 6) (oi := { dst := some 38, op := Go.Op.nilCheck (Go.Operand.tmp 37), type := 0, pos := "sender.go:41", after := #[{ on := 5, ground := Go.Ground.data }], guard := none }) (v := ?_) rfl (by kernel_rfl) (by kernel_rfl) (by kernel_rfl) (fun _ _ _ h => h) (Or.inl ⟨by rfl, ?_⟩) (by assumption) ?_
  rotate_left
  · intro w hSw
    try dsimp only at hSw
    go_simp
    all_goals with_reducible rfl
  try simp only [Act.put, List.setIfInBounds_toArray, List.set_cons_zero, List.set_cons_succ]
  refine wpAnyH_take (i := 7) (oi := { dst := some 39, op := Go.Op.fieldAddr 125 (Go.Operand.tmp 38) 2, type := 0, pos := "sender.go:41", after := #[{ on := 6, ground := Go.Ground.data }], guard := none }) (v := ?_) rfl (by kernel_rfl) (by kernel_rfl) (by kernel_rfl) (fun _ _ _ h => h) (Or.inl ⟨by rfl, ?_⟩) (by assumption) ?_
  rotate_left
  · intro w hSw
    try dsimp only at hSw
    go_simp
    all_goals with_reducible rfl
  try simp only [Act.put, List.setIfInBounds_toArray, List.set_cons_zero, List.set_cons_succ]
  refine wpAnyH_take (i := 8) (oi := { dst := some 40, op := Go.Op.load 3 (Go.Operand.tmp 39), type := 3, pos := "sender.go:41", after := #[{ on := 7, ground := Go.Ground.data }], guard := none }) (v := ?_) rfl (by kernel_rfl) (by kernel_rfl) (by kernel_rfl) (fun _ _ _ h => h) (Or.inl ⟨by rfl, ?_⟩) (by assumption) ?_
  rotate_left
  · intro w hSw
    try dsimp only at hSw
    go_simp
    all_goals with_reducible rfl
  try simp only [Act.put, List.setIfInBounds_toArray, List.set_cons_zero, List.set_cons_succ]
  refine wpAnyH_take (i := 9) (oi := { dst := some 41, op := Go.Op.move (Go.Operand.tmp 1), type := 9, pos := "sender.go:41", after := #[], guard := none }) (v := ?_) rfl (by kernel_rfl) (by kernel_rfl) (by kernel_rfl) (fun _ _ _ h => h) (Or.inl ⟨by rfl, ?_⟩) (by assumption) ?_
  rotate_left
  · intro w hSw
    try dsimp only at hSw
    go_simp
    all_goals with_reducible rfl
  try simp only [Act.put, List.setIfInBounds_toArray, List.set_cons_zero, List.set_cons_succ]
  refine wpAnyH_ready (rs := [4, 10]) (by kernel_rfl) (by simp) ?_
  refine AllReadyH.cons (o := { dst := some 36, op := Go.Op.load 93 (Go.Operand.tmp 35), type := 93, pos := "sender.go:41", after := #[{ on := 3, ground := Go.Ground.data }], guard := none }) rfl (fun K hK => ?_) ?_
  · go_simp
    refine hK.out _ _ ?_ (fun hH => ?_)
    · exact hS0
    clear hK K
    try simp only [Act.put, List.setIfInBounds_toArray, List.set_cons_zero, List.set_cons_succ]
    refine wpAnyH_ready (rs := [10]) (by kernel_rfl) (by simp) ?_
    refine AllReadyH.cons (o := { dst := some 42, op := Go.Op.call { callee := Go.Callee.value (Go.Operand.func 65), args := #[Go.Operand.tmp 41], argTypes := #[9] }, type := 9, pos := "sender.go:41", after := #[{ on := 9, ground := Go.Ground.data }], guard := none }) rfl (fun K hK => ?_) ?_
    · go_simp
      refine (clone_any x (by omega) _).mono ?_
      rintro e w3 ⟨rfl, hb⟩
      obtain ⟨a', c', w5, hrun, HPR, HGR, HNW, e3, g3, e2, e33, e43, e52, e42, e5⟩ := off_app x 93 H.out HS1.out hb rfl
      have HB := Lib.hid hb
      clear hb
      go_wp2_with fail
      refine hK.out _ _ ?_ (fun hH => ?_)
      · exact e2
      clear hK K
      try simp only [Act.put, List.setIfInBounds_toArray, List.set_cons_zero, List.set_cons_succ]
      refine wpAnyH_take (i := 11) (oi := { dst := some 43, op := Go.Op.build 96 #[(0, Go.Operand.tmp 40), (1, Go.Operand.tmp 42)], type := 96, pos := "sender.go:41", after := #[{ on := 8, ground := Go.Ground.data }, { on := 10, ground := Go.Ground.data }], guard := none }) (v := ?_) rfl (by kernel_rfl) (by kernel_rfl) (by kernel_rfl) (fun _ _ _ h => h) (Or.inl ⟨by rfl, ?_⟩) (by assumption) ?_
      rotate_left
      · intro w hSw
        try dsimp only at hSw
        go_simp
        all_goals with_reducible rfl
      try simp only [Act.put, List.setIfInBounds_toArray, List.set_cons_zero, List.set_cons_succ]
      refine wpAnyH_ready (rs := [12]) (by kernel_rfl) (by simp) ?_
      refine AllReadyH.cons (o := { dst := some 44, op := Go.Op.buildSlice 93 1 #[(0, Go.Operand.tmp 43)], type := 93, pos := "sender.go:41", after := #[{ on := 11, ground := Go.Ground.data }], guard := none }) rfl (fun K hK => ?_) ?_
      · go_simp
        refine hK.out _ _ ?_ (fun hH => ?_)
        · exact e42
        clear hK K
        try simp only [Act.put, List.setIfInBounds_toArray, List.set_cons_zero, List.set_cons_succ]
        refine wpAnyH_ready (rs := [13]) (by kernel_rfl) (by simp) ?_
        refine AllReadyH.cons (o := { dst := some 45, op := Go.Op.call { callee := Go.Callee.builtin Go.Builtin.append, args := #[Go.Operand.tmp 36, Go.Operand.tmp 44], argTypes := #[93, 93] }, type := 93, pos := "sender.go:41", after := #[{ on := 4, ground := Go.Ground.data }, { on := 12, ground := Go.Ground.data }, { on := 10, ground := Go.Ground.chain }], guard := none }) rfl (fun K hK => ?_) ?_
        · refine step_append_run (by rfl) (.tmp 36) (.tmp 44) 93 rfl _ _ _ rfl rfl hrun ?_
          refine hK.out _ _ ?_ (fun hH => ?_)
          · exact e5
          clear hK K
          try simp only [Act.put, List.setIfInBounds_toArray, List.set_cons_zero, List.set_cons_succ]
          refine wpAnyH_take (i := 14) (oi := { dst := some 46, op := Go.Op.nilCheck (Go.Operand.tmp 32), type := 0, pos := "sender.go:41", after := #[{ on := 0, ground := Go.Ground.data }, { on := 0, ground := Go.Ground.phase }, { on := 1, ground := Go.Ground.phase }, { on := 2, ground := Go.Ground.phase }, { on := 3, ground := Go.Ground.phase }, { on := 4, ground := Go.Ground.phase }, { on := 5, ground := Go.Ground.phase }, { on := 6, ground := Go.Ground.phase }, { on := 7, ground := Go.Ground.phase }, { on := 8, ground := Go.Ground.phase }, { on := 9, ground := Go.Ground.phase }, { on := 10, ground := Go.Ground.phase }, { on := 11, ground := Go.Ground.phase }, { on := 12, ground := Go.Ground.phase }, { on := 13, ground := Go.Ground.phase }], guard := none }) (v := ?_) rfl (by kernel_rfl) (by kernel_rfl) (by kernel_rfl) (fun _ _ _ h => h) (Or.inl ⟨by rfl, ?_⟩) (by assumption) ?_
          rotate_left
          · intro w hSw
            try dsimp only at hSw
            go_simp
            all_goals with_reducible rfl
          try simp only [Act.put, List.setIfInBounds_toArray, List.set_cons_zero, List.set_cons_succ]
          refine wpAnyH_take (i := 15) (oi := { dst := some 47, op := Go.Op.fieldAddr 125 (Go.Operand.tmp 46) 3, type := 0, pos := "sender.go:41", after := #[{ on := 14, ground := Go.Ground.data }, { on := 0, ground := Go.Ground.phase }, { on := 1, ground := Go.Ground.phase }, { on := 2, ground := Go.Ground.phase }, { on := 3, ground := Go.Ground.phase }, { on := 4, ground := Go.Ground.phase }, { on := 5, ground := Go.Ground.phase }, { on := 6, ground := Go.Ground.phase }, { on := 7, ground := Go.Ground.phase }, { on := 8, ground := Go.Ground.phase }, { on := 9, ground := Go.Ground.phase }, { on := 10, ground := Go.Ground.phase }, { on := 11, ground := Go.Ground.phase }, { on := 12, ground := Go.Ground.phase }, { on := 13, ground := Go.Ground.phase }], guard := none }) (v := ?_) rfl (by kernel_rfl) (by kernel_rfl) (by kernel_rfl) (fun _ _ _ h => h) (Or.inl ⟨by rfl, ?_⟩) (by assumption) ?_
          rotate_left
          · intro w hSw
            try dsimp only at hSw
            go_simp
            all_goals with_reducible rfl
          try simp only [Act.put, List.setIfInBounds_toArray, List.set_cons_zero, List.set_cons_succ]
          refine wpAnyH_ready (rs := [16]) (by kernel_rfl) (by simp) ?_
          refine AllReadyH.cons (o := { dst := none, op := Go.Op.store 93 (Go.Operand.tmp 47) (Go.Operand.tmp 45), type := 0, pos := "sender.go:41", after := #[{ on := 15, ground := Go.Ground.data }, { on := 13, ground := Go.Ground.data }, { on := 13, ground := Go.Ground.chain }, { on := 0, ground := Go.Ground.phase }, { on := 1, ground := Go.Ground.phase }, { on := 2, ground := Go.Ground.phase }, { on := 3, ground := Go.Ground.phase }, { on := 4, ground := Go.Ground.phase }, { on := 5, ground := Go.Ground.phase }, { on := 6, ground := Go.Ground.phase }, { on := 7, ground := Go.Ground.phase }, { on := 8, ground := Go.Ground.phase }, { on := 9, ground := Go.Ground.phase }, { on := 10, ground := Go.Ground.phase }, { on := 11, ground := Go.Ground.phase }, { on := 12, ground := Go.Ground.phase }, { on := 13, ground := Go.Ground.phase }], guard := none }) rfl (fun K hK => ?_) ?_
          · go_simp
            refine hK.out _ _ ?_ (fun hH => ?_)
            · exact e52
            clear hK K
            try simp only [Act.put, List.setIfInBounds_toArray, List.set_cons_zero, List.set_cons_succ]
            refine wpAnyH_done (by kernel_rfl) ?_ _
            go_wp2
            go_ret2
            exact ⟨rfl, _, off_fin hx H.out H1.out H2.out HS1.out HB.out rfl rfl rfl rfl HPR.out HGR.out HNW.out⟩
          exact AllReadyH.nil
        exact AllReadyH.nil
      exact AllReadyH.nil
    exact AllReadyH.nil
  refine AllReadyH.cons (o := { dst := some 42, op := Go.Op.call { callee := Go.Callee.value (Go.Operand.func 65), args := #[Go.Operand.tmp 41], argTypes := #[9] }, type := 9, pos := "sender.go:41", after := #[{ on := 9, ground := Go.Ground.data }], guard := none }) rfl (fun K hK => ?_) ?_
  · go_simp
    refine (clone_any x (by omega) _).mono ?_
    rintro e w3 ⟨rfl, hb⟩
    obtain ⟨a', c', w5, hrun, HPR, HGR, HNW, e3, g3, e2, e33, e43, e52, e42, e5⟩ := off_app x 93 H.out HS1.out hb rfl
    have HB := Lib.hid hb
    clear hb
    go_wp2_with fail
    refine hK.out _ _ ?_ (fun hH => ?_)
    · exact e2
    clear hK K
    try simp only [Act.put, List.setIfInBounds_toArray, List.set_cons_zero, List.set_cons_succ]
    refine wpAnyH_take (i := 11) (oi := { dst := some 43, op := Go.Op.build 96 #[(0, Go.Operand.tmp 40), (1, Go.Operand.tmp 42)], type := 96, pos := "sender.go:41", after := #[{ on := 8, ground := Go.Ground.data }, { on := 10, ground := Go.Ground.data }], guard := none }) (v := ?_) rfl (by kernel_rfl) (by kernel_rfl) (by kernel_rfl) (fun _ _ _ h => h) (Or.inl ⟨by rfl, ?_⟩) (by assumption) ?_
    rotate_left
    · intro w hSw
      try dsimp only at hSw
      go_simp
      all_goals with_reducible rfl
    try simp only [Act.put, List.setIfInBounds_toArray, List.set_cons_zero, List.set_cons_succ]
    refine wpAnyH_ready (rs := [4, 12]) (by kernel_rfl) (by simp) ?_
    refine AllReadyH.cons (o := { dst := some 36, op := Go.Op.load 93 (Go.Operand.tmp 35), type := 93, pos := "sender.go:41", after := #[{ on := 3, ground := Go.Ground.data }], guard := none }) rfl (fun K hK => ?_) ?_
    · go_simp
      refine hK.out _ _ ?_ (fun hH => ?_)
      · exact e2
      clear hK K
      try simp only [Act.put, List.setIfInBounds_toArray, List.set_cons_zero, List.set_cons_succ]
      refine wpAnyH_ready (rs := [12]) (by kernel_rfl) (by simp) ?_
      refine AllReadyH.cons (o := { dst := some 44, op := Go.Op.buildSlice 93 1 #[(0, Go.Operand.tmp 43)], type := 93, pos := "sender.go:41", after := #[{ on := 11, ground := Go.Ground.data }], guard := none }) rfl (fun K hK => ?_) ?_
      · go_simp
        refine hK.out _ _ ?_ (fun hH => ?_)
        · exact e42
        clear hK K
        try simp only [Act.put, List.setIfInBounds_toArray, List.set_cons_zero, List.set_cons_succ]
        refine wpAnyH_ready (rs := [13]) (by kernel_rfl) (by simp) ?_
        refine AllReadyH.cons (o := { dst := some 45, op := Go.Op.call { callee := Go.Callee.builtin Go.Builtin.append, args := #[Go.Operand.tmp 36, Go.Operand.tmp 44], argTypes := #[93, 93] }, type := 93, pos := "sender.go:41", after := #[{ on := 4, ground := Go.Ground.data }, { on := 12, ground := Go.Ground.data }, { on := 10, ground := Go.Ground.chain }], guard := none }) rfl (fun K hK => ?_) ?_
        · refine step_append_run (by rfl) (.tmp 36) (.tmp 44) 93 rfl _ _ _ rfl rfl hrun ?_
          refine hK.out _ _ ?_ (fun hH => ?_)
          · exact e5
          clear hK K
          try simp only [Act.put, List.setIfInBounds_toArray, List.set_cons_zero, List.set_cons_succ]
          refine wpAnyH_take (i := 14) (oi := { dst := some 46, op := Go.Op.nilCheck (Go.Operand.tmp 32), type := 0, pos := "sender.go:41", after := #[{ on := 0, ground := Go.Ground.data }, { on := 0, ground := Go.Ground.phase }, { on := 1, ground := Go.Ground.phase }, { on := 2, ground := Go.Ground.phase }, { on := 3, ground := Go.Ground.phase }, { on := 4, ground := Go.Ground.phase }, { on := 5, ground := Go.Ground.phase }, { on := 6, ground := Go.Ground.phase }, { on := 7, ground := Go.Ground.phase }, { on := 8, ground := Go.Ground.phase }, { on := 9, ground := Go.Ground.phase }, { on := 10, ground := Go.Ground.phase }, { on := 11, ground := Go.Ground.phase }, { on := 12, ground := Go.Ground.phase }, { on := 13, ground := Go.Ground.phase }], guard := none }) (v := ?_) rfl (by kernel_rfl) (by kernel_rfl) (by kernel_rfl) (fun _ _ _ h => h) (Or.inl ⟨by rfl, ?_⟩) (by assumption) ?_
          rotate_left
          · intro w hSw
            try dsimp only at hSw
            go_simp
            all_goals with_reducible rfl
          try simp only [Act.put, List.setIfInBounds_toArray, List.set_cons_zero, List.set_cons_succ]
          refine wpAnyH_take (i := 15) (oi := { dst := some 47, op := Go.Op.fieldAddr 125 (Go.Operand.tmp 46) 3, type := 0, pos := "sender.go:41", after := #[{ on := 14, ground := Go.Ground.data }, { on := 0, ground := Go.Ground.phase }, { on := 1, ground := Go.Ground.phase }, { on := 2, ground := Go.Ground.phase }, { on := 3, ground := Go.Ground.phase }, { on := 4, ground := Go.Ground.phase }, { on := 5, ground := Go.Ground.phase }, { on := 6, ground := Go.Ground.phase }, { on := 7, ground := Go.Ground.phase }, { on := 8, ground := Go.Ground.phase }, { on := 9, ground := Go.Ground.phase }, { on := 10, ground := Go.Ground.phase }, { on := 11, ground := Go.Ground.phase }, { on := 12, ground := Go.Ground.phase }, { on := 13, ground := Go.Ground.phase }], guard := none }) (v := ?_) rfl (by kernel_rfl) (by kernel_rfl) (by kernel_rfl) (fun _ _ _ h => h) (Or.inl ⟨by rfl, ?_⟩) (by assumption) ?_
          rotate_left
          · intro w hSw
            try dsimp only at hSw
            go_simp
            all_goals with_reducible rfl
          try simp only [Act.put, List.setIfInBounds_toArray, List.set_cons_zero, List.set_cons_succ]
          refine wpAnyH_ready (rs := [16]) (by kernel_rfl) (by simp) ?_
          refine AllReadyH.cons (o := { dst := none, op := Go.Op.store 93 (Go.Operand.tmp 47) (Go.Operand.tmp 45), type := 0, pos := "sender.go:41", after := #[{ on := 15, ground := Go.Ground.data }, { on := 13, ground := Go.Ground.data }, { on := 13, ground := Go.Ground.chain }, { on := 0, ground := Go.Ground.phase }, { on := 1, ground := Go.Ground.phase }, { on := 2, ground := Go.Ground.phase }, { on := 3, ground := Go.Ground.phase }, { on := 4, ground := Go.Ground.phase }, { on := 5, ground := Go.Ground.phase }, { on := 6, ground := Go.Ground.phase }, { on := 7, ground := Go.Ground.phase }, { on := 8, ground := Go.Ground.phase }, { on := 9, ground := Go.Ground.phase }, { on := 10, ground := Go.Ground.phase }, { on := 11, ground := Go.Ground.phase }, { on := 12, ground := Go.Ground.phase }, { on := 13, ground := Go.Ground.phase }], guard := none }) rfl (fun K hK => ?_) ?_
          · go_simp
            refine hK.out _ _ ?_ (fun hH => ?_)
            · exact e52
            clear hK K
            try simp only [Act.put, List.setIfInBounds_toArray, List.set_cons_zero, List.set_cons_succ]
            refine wpAnyH_done (by kernel_rfl) ?_ _
            go_wp2
            go_ret2
            exact ⟨rfl, _, off_fin hx H.out H1.out H2.out HS1.out HB.out rfl rfl rfl rfl HPR.out HGR.out HNW.out⟩
          exact AllReadyH.nil
        exact AllReadyH.nil
      exact AllReadyH.nil
    refine AllReadyH.cons (o := { dst := some 44, op := Go.Op.buildSlice 93 1 #[(0, Go.Operand.tmp 43)], type := 93, pos := "sender.go:41", after := #[{ on := 11, ground := Go.Ground.data }], guard := none }) rfl (fun K hK => ?_) ?_
    · go_simp
      refine hK.out _ _ ?_ (fun hH => ?_)
      · exact e42
      clear hK K
      try simp only [Act.put, List.setIfInBounds_toArray, List.set_cons_zero, List.set_cons_succ]
      refine wpAnyH_ready (rs := [4]) (by kernel_rfl) (by simp) ?_
      refine AllReadyH.cons (o := { dst := some 36, op := Go.Op.load 93 (Go.Operand.tmp 35), type := 93, pos := "sender.go:41", after := #[{ on := 3, ground := Go.Ground.data }], guard := none }) rfl (fun K hK => ?_) ?_
      · go_simp
        refine hK.out _ _ ?_ (fun hH => ?_)
        · exact e42
        clear hK K
        try simp only [Act.put, List.setIfInBounds_toArray, List.set_cons_zero, List.set_cons_succ]
        refine wpAnyH_ready (rs := [13]) (by kernel_rfl) (by simp) ?_
        refine AllReadyH.cons (o := { dst := some 45, op := Go.Op.call { callee := Go.Callee.builtin Go.Builtin.append, args := #[Go.Operand.tmp 36, Go.Operand.tmp 44], argTypes := #[93, 93] }, type := 93, pos := "sender.go:41", after := #[{ on := 4, ground := Go.Ground.data }, { on := 12, ground := Go.Ground.data }, { on := 10, ground := Go.Ground.chain }], guard := none }) rfl (fun K hK => ?_) ?_
        · refine step_append_run (by rfl) (.tmp 36) (.tmp 44) 93 rfl _ _ _ rfl rfl hrun ?_
          refine hK.out _ _ ?_ (fun hH => ?_)
          · exact e5
          clear hK K
          try simp only [Act.put, List.setIfInBounds_toArray, List.set_cons_zero, List.set_cons_succ]
          refine wpAnyH_take (i := 14) (oi := { dst := some 46, op := Go.Op.nilCheck (Go.Operand.tmp 32), type := 0, pos := "sender.go:41", after := #[{ on := 0, ground := Go.Ground.data }, { on := 0, ground := Go.Ground.phase }, { on := 1, ground := Go.Ground.phase }, { on := 2, ground := Go.Ground.phase }, { on := 3, ground := Go.Ground.phase }, { on := 4, ground := Go.Ground.phase }, { on := 5, ground := Go.Ground.phase }, { on := 6, ground := Go.Ground.phase }, { on := 7, ground := Go.Ground.phase }, { on := 8, ground := Go.Ground.phase }, { on := 9, ground := Go.Ground.phase }, { on := 10, ground := Go.Ground.phase }, { on := 11, ground := Go.Ground.phase }, { on := 12, ground := Go.Ground.phase }, { on := 13, ground := Go.Ground.phase }], guard := none }) (v := ?_) rfl (by kernel_rfl) (by kernel_rfl) (by kernel_rfl) (fun _ _ _ h => h) (Or.inl ⟨by rfl, ?_⟩) (by assumption) ?_
          rotate_left
          · intro w hSw
            try dsimp only at hSw
            go_simp
            all_goals with_reducible rfl
          try simp only [Act.put, List.setIfInBounds_toArray, List.set_cons_zero, List.set_cons_succ]
          refine wpAnyH_take (i := 15) (oi := { dst := some 47, op := Go.Op.fieldAddr 125 (Go.Operand.tmp 46) 3, type := 0, pos := "sender.go:41", after := #[{ on := 14, ground := Go.Ground.data }, { on := 0, ground := Go.Ground.phase }, { on := 1, ground := Go.Ground.phase }, { on := 2, ground := Go.Ground.phase }, { on := 3, ground := Go.Ground.phase }, { on := 4, ground := Go.Ground.phase }, { on := 5, ground := Go.Ground.phase }, { on := 6, ground := Go.Ground.phase }, { on := 7, ground := Go.Ground.phase }, { on := 8, ground := Go.Ground.phase }, { on := 9, ground := Go.Ground.phase }, { on := 10, ground := Go.Ground.phase }, { on := 11, ground := Go.Ground.phase }, { on := 12, ground := Go.Ground.phase }, { on := 13, ground := Go.Ground.phase }], guard := none }) (v := ?_) rfl (by kernel_rfl) (by kernel_rfl) (by kernel_rfl) (fun _ _ _ h => h) (Or.inl ⟨by rfl, ?_⟩) (by assumption) ?_
          rotate_left
          · intro w hSw
            try dsimp only at hSw
            go_simp
            all_goals with_reducible rfl
          try simp only [Act.put, List.setIfInBounds_toArray, List.set_cons_zero, List.set_cons_succ]
          refine wpAnyH_ready (rs := [16]) (by kernel_rfl) (by simp) ?_
          refine AllReadyH.cons (o := { dst := none, op := Go.Op.store 93 (Go.Operand.tmp 47) (Go.Operand.tmp 45), type := 0, pos := "sender.go:41", after := #[{ on := 15, ground := Go.Ground.data }, { on := 13, ground := Go.Ground.data }, { on := 13, ground := Go.Ground.chain }, { on := 0, ground := Go.Ground.phase }, { on := 1, ground := Go.Ground.phase }, { on := 2, ground := Go.Ground.phase }, { on := 3, ground := Go.Ground.phase }, { on := 4, ground := Go.Ground.phase }, { on := 5, ground := Go.Ground.phase }, { on := 6, ground := Go.Ground.phase }, { on := 7, ground := Go.Ground.phase }, { on := 8, ground := Go.Ground.phase }, { on := 9, ground := Go.Ground.phase }, { on := 10, ground := Go.Ground.phase }, { on := 11, ground := Go.Ground.phase }, { on := 12, ground := Go.Ground.phase }, { on := 13, ground := Go.Ground.phase }], guard := none }) rfl (fun K hK => ?_) ?_
          · go_simp
            refine hK.out _ _ ?_ (fun hH => ?_)
            · exact e52
            clear hK K
            try simp only [Act.put, List.setIfInBounds_toArray, List.set_cons_zero, List.set_cons_succ]
            refine wpAnyH_done (by kernel_rfl) ?_ _
            go_wp2
            go_ret2
            exact ⟨rfl, _, off_fin hx H.out H1.out H2.out HS1.out HB.out rfl rfl rfl rfl HPR.out HGR.out HNW.out⟩
          exact AllReadyH.nil
        exact AllReadyH.nil
      exact AllReadyH.nil
    exact AllReadyH.nil
  exact AllReadyH.nil
end
end Go.Proofs.YtjmkdgjdemndaaaDoor.K
/- Offer, Ack, Clone, Pieces, Copy. -/
namespace Go.Proofs.YtjmkdgjdemndaaaDoor.K
open Go Go.RowKit
set_option maxRecDepth 20000
section
variable {B b : Nat} {v : Value} {win last : Int} {k : Nat} {ds : List ByteArray}
set_option maxHeartbeats 1000000 in
theorem off_full (x : ByteArray) (h1 : win ≤ (ds.length : Int)) (w : World) (h : Sn B w b v win last k ds) :
    Calls Tryd.prog 83 #[.pointer (some ⟨b, 0, none⟩), .string x] w fun e w' => e = .returned (.tuple #[.int .i64 0, .int .i64 7]) ∧ w'.heap = w.heap ∧ w'.os = w.os ∧ w'.tape = w.tape ∧ w'.output = w.output := by
  obtain ⟨a, c, hv, hlc, hn⟩ := h.row.is
  subst hv
  have c0 := h.c0
  have c3 := h.c3
  clear h hlc hn
  go_enter Tryd.func83, Tryd.ntmps83
  go_wp2_with fail
  go_quiet (fail)
  go_wp2
  go_ret2
  exact ⟨rfl, rfl, rfl, rfl, rfl⟩
set_option maxHeartbeats 1000000 in
theorem off_used (x : ByteArray) (h1 : (ds.length : Int) < win) (h2 : last ≤ ((k + ds.length : Nat) : Int)) (w : World) (h : Sn B w b v win last k ds) :
    Calls Tryd.prog 83 #[.pointer (some ⟨b, 0, none⟩), .string x] w fun e w' => e = .returned (.tuple #[.int .i64 0, .int .i64 8]) ∧ w'.heap = w.heap ∧ w'.os = w.os ∧ w'.tape = w.tape ∧ w'.output = w.output := by
  obtain ⟨a, c, hv, hlc, hn⟩ := h.row.is
  subst hv
  have c0 := h.c0
  have c1 := h.c1
  have c2 := h.c2
  have c3 := h.c3
  have k1 : ¬ win ≤ (ds.length : Int) := by omega
  clear h hlc hn h1
  generalize ((k + ds.length : Nat) : Int) = S at *
  go_enter Tryd.func83, Tryd.ntmps83
  go_wp2_with fail
  go_quiet (fail)
  go_wp2_with fail
  go_quiet (fail)
  go_wp2
  go_ret2
  exact ⟨rfl, rfl, rfl, rfl, rfl⟩
theorem Sn.asit {w w' : World} (h : Sn B w b v win last k ds) (e : w'.heap = w.heap) : Sn B w' b v win last k ds := h.same (by rw [e]) (fun j _ => by rw [e])
theorem Fr.asit {w w' : World} {b : Nat} {r : Option Nat} (e : w'.heap = w.heap) (e1 : w'.os = w.os) (e2 : w'.tape = w.tape) (e3 : w'.output = w.output) : Fr w w' b r := ⟨e1, e2, e3, by rw [e]; exact Nat.le_refl _, fun i _ _ _ => by rw [e]⟩
theorem off_any (x : ByteArray) (hx : x.size ≤ 1000) (w : World) (h : Sn B w b v win last k ds) :
    Calls Tryd.prog 83 #[.pointer (some ⟨b, 0, none⟩), .string x] w fun e w' => e = .returned (.tuple #[.int .i64 (offN win last k ds), .int .i64 (offE win last k ds)]) ∧ ∃ v', Sn B w' b v' win last k (offD win last k ds x) ∧ Fr w w' b v.ownBlock ∧ Nw w v v' := by
  unfold offN offE offD
  by_cases h1 : win ≤ (ds.length : Int)
  · simp only [if_pos h1]
    refine (off_full x h1 w h).mono ?_
    rintro e w1 ⟨rfl, e1, e2, e3, e4⟩
    exact ⟨rfl, v, h.asit e1, Fr.asit e1 e2 e3 e4, Nw.refl _ _⟩
  · simp only [if_neg h1]
    by_cases h2 : last ≤ ((k + ds.length : Nat) : Int)
    · simp only [if_pos h2]
      refine (off_used x (by omega) h2 w h).mono ?_
      rintro e w1 ⟨rfl, e1, e2, e3, e4⟩
      exact ⟨rfl, v, h.asit e1, Fr.asit e1 e2 e3 e4, Nw.refl _ _⟩
    · simp only [if_neg h2]
      exact off_yes x hx (by omega) (by omega) w h
/-- So many pieces less. -/
theorem Ok.less (h : Ok win last k ds) (m : Nat) (hm : m ≤ ds.length) : Ok win last (k + m) (ds.drop m) := by
  have := h.len
  have := h.all
  refine ⟨h.w1, h.w2, h.l1, h.l2, by simp only [List.length_drop]; omega, by simp only [List.length_drop]; omega, fun d hd => h.sh d (List.mem_of_mem_drop hd)⟩
theorem cut_fin {w w1 : World} {g off cap m : Nat} {cur cur' : Array Value} (h : Sn B w b (.slice (some ⟨g, off, none⟩) ds.length cap) win last k ds) (hm : m ≤ ds.length)
    (hg : w.heap[g]? = some (.cells cur 96 (0, 0))) (hsz : off + ds.length * 2 ≤ cur.size) (hc : ∀ j, j < ds.length * 2 → cur[off + j]? = (flP k ds)[j]?)
    (hg1 : w1.heap[g]? = some (.cells cur' 96 (0, 0))) (hs1 : cur'.size = cur.size) (hc1 : ∀ j, off + m * 2 ≤ j → cur'[j]? = cur[j]?) (hgr : w.grownBy w1 (some g)) :
    Sn B (w1.setCell ⟨b, 3, none⟩ (.slice (if ds.length = m then some ⟨g, off, none⟩ else some ⟨g, off + m * 2, none⟩) (ds.length - m) (ds.length - m))) b (.slice (if ds.length = m then some ⟨g, off, none⟩ else some ⟨g, off + m * 2, none⟩) (ds.length - m) (ds.length - m)) win last (k + m) (ds.drop m) ∧
      Fr w (w1.setCell ⟨b, 3, none⟩ (.slice (if ds.length = m then some ⟨g, off, none⟩ else some ⟨g, off + m * 2, none⟩) (ds.length - m) (ds.length - m))) b (some g) ∧ Nw w (.slice (some ⟨g, off, none⟩) ds.length cap) (.slice (if ds.length = m then some ⟨g, off, none⟩ else some ⟨g, off + m * 2, none⟩) (ds.length - m) (ds.length - m)) := by
  have hblk := h.blk
  have hbg : b ≠ g := two_types hblk hg (by decide)
  have b1 : w1.heap[b]? = some (.cells #[.int .i64 win, .int .i64 last, .int .i64 ((k + ds.length : Nat) : Int), .slice (some ⟨g, off, none⟩) ds.length cap] 125 (0, 0)) := (hgr.block b h.lt (fun e => hbg (by simpa using e))).trans hblk
  have hgB := (h.row.lt g rfl).1
  have eN : k + ds.length = k + m + (ds.drop m).length := by rw [List.length_drop]; omega
  obtain ⟨P, hP⟩ : ∃ P : Nat, (if ds.length = m then some (⟨g, off, none⟩ : Addr) else some ⟨g, off + m * 2, none⟩) = some ⟨g, P, none⟩ ∧ (ds.length ≠ m → P = off + m * 2) ∧ (ds.length = m → P = off) := by
    by_cases e : ds.length = m
    · exact ⟨off, by rw [if_pos e], fun x => absurd e x, fun _ => rfl⟩
    · exact ⟨off + m * 2, by rw [if_neg e], fun _ => rfl, fun x => absurd x e⟩
  obtain ⟨hP, hP1, hP2⟩ := hP
  rw [hP]
  refine ⟨⟨h.lo, ?_, .inr ⟨g, P, ds.length - m, cur', by rw [List.length_drop], hgB, ?_, by rw [List.length_drop]; exact Nat.le_refl _, ?_, ?_, .inl (by rw [List.length_drop])⟩, h.ok.less m hm⟩, (Fr.ofRow hgr).trans (Fr.set _ _ _ _ _), fun j hj => .inl ?_⟩
  · rw [← eN]
    simp [World.setCell, Array.getElem?_modify, b1]
  · rw [Below.heap_setCell _ _ _ _ (Ne.symm hbg)]
    exact hg1
  · rw [List.length_drop]
    rcases Classical.em (ds.length = m) with e | e
    · rw [hP2 e]; omega
    · rw [hP1 e]; omega
  · intro j hj
    rw [List.length_drop] at hj
    have e : ds.length ≠ m := by omega
    rw [hP1 e, hc1 _ (by omega), show off + m * 2 + j = off + (m * 2 + j) by omega, hc _ (by omega), ← flP_drop, List.getElem?_drop]
  · exact hj
set_option maxHeartbeats 1000000 in
theorem cut_any (m : Nat) (h0 : 0 < m) (hm : m ≤ ds.length) (w : World) (h : Sn B w b v win last k ds) :
    Calls Tryd.prog 64 #[.pointer (some ⟨b, 0, none⟩), .int .i64 (m : Int)] w fun e w' => e = .returned (.tuple #[]) ∧ ∃ v', Sn B w' b v' win last (k + m) (ds.drop m) ∧ Fr w w' b v.ownBlock ∧ Nw w v v' := by
  rcases h.row with ⟨_, e⟩ | ⟨g, off, cap, cur, rfl, hB, hg, hlc, hsz, hcell, _⟩
  · subst e; simp at hm; omega
  obtain ⟨w1, hcl, ⟨cur', hg1, hs1, hc1⟩, hgr⟩ := run_clearP w 0 g off m cap cur hg h0 (by omega)
  have hbg : b ≠ g := two_types h.blk hg (by decide)
  have b1 : w1.heap[b]? = some (.cells #[.int .i64 win, .int .i64 last, .int .i64 ((k + ds.length : Nat) : Int), .slice (some ⟨g, off, none⟩) ds.length cap] 125 (0, 0)) := (hgr.block b h.lt (fun e => hbg (by simpa using e))).trans h.blk
  have c3 := h.c3
  have d3 : w1.cell? ⟨b, 3, none⟩ = some (.slice (some ⟨g, off, none⟩) ds.length cap) := cell_at b1 3 _ rfl
  have f3 : w1.frozen? ⟨b, 3, none⟩ = false := by simp [World.frozen?, b1]
  have s1 := fun w => slP_front (some ⟨g, off, none⟩) ds.length cap m (by omega) w
  have s2 := fun w => slP_three (some ⟨g, off, none⟩) ds.length cap m ds.length hm hlc w
  have HF := Lib.hid (cut_fin h hm hg hsz hcell hg1 hs1 hc1 hgr)
  have ea : (if ds.length = m then some (⟨g, off, none⟩ : Addr) else (some (⟨g, off, none⟩ : Addr)).map (·.add (m * 2))) = (if ds.length = m then some ⟨g, off, none⟩ else some ⟨g, off + m * 2, none⟩) := by
    simp [Addr.add_lit]
  rw [ea] at s2
  generalize (if ds.length = m then some (⟨g, off, none⟩ : Addr) else some ⟨g, off + m * 2, none⟩) = A at *
  clear h b1 hgr hg hg1 hc1 hs1 hcell hsz ea hbg
  go_enter Tryd.func64, Tryd.ntmps64
  go_wp2
  first | go_end0 | refine bodyPost_ret (results_none rfl _ _ _) rfl ?_
  exact ⟨rfl, _, HF.out⟩
end
end Go.Proofs.YtjmkdgjdemndaaaDoor.K
/- Ack, Clone, Pieces, Copy. -/
namespace Go.Proofs.YtjmkdgjdemndaaaDoor.K
open Go Go.RowKit
set_option maxRecDepth 20000
section
variable {B b : Nat} {v : Value} {win last : Int} {k : Nat} {ds : List ByteArray}
theorem sub_len (h : Ok win last k ds) : IntKind.i64.wrap (((k + ds.length : Nat) : Int) - (ds.length : Int)) = (k : Int) := by
  have := h.all
  have := h.l2
  rw [show ((k + ds.length : Nat) : Int) - (ds.length : Int) = (k : Int) by omega]
  exact i64_id (by omega) (by omega)
set_option maxHeartbeats 1000000 in
theorem ack_above (n : Int) (h1 : ((k + ds.length : Nat) : Int) < n) (w : World) (h : Sn B w b v win last k ds) :
    Calls Tryd.prog 38 #[.pointer (some ⟨b, 0, none⟩), .int .i64 n] w fun e w' => e = .returned (.int .i64 0) ∧ w'.heap = w.heap ∧ w'.os = w.os ∧ w'.tape = w.tape ∧ w'.output = w.output := by
  obtain ⟨a, c, hv, hlc, hn⟩ := h.row.is
  subst hv
  have hw := sub_len h.ok
  have c2 := h.c2
  have c3 := h.c3
  clear h hlc hn
  generalize ((k + ds.length : Nat) : Int) = S at *
  go_enter Tryd.func38, Tryd.ntmps38
  go_wp2_with fail
  go_quiet (fail)
  go_wp2
  go_ret
  exact ⟨rfl, rfl, rfl, rfl, rfl⟩
set_option maxHeartbeats 1000000 in
theorem ack_below (n : Int) (h1 : n ≤ ((k + ds.length : Nat) : Int)) (h2 : n ≤ (k : Int)) (w : World) (h : Sn B w b v win last k ds) :
    Calls Tryd.prog 38 #[.pointer (some ⟨b, 0, none⟩), .int .i64 n] w fun e w' => e = .returned (.int .i64 0) ∧ w'.heap = w.heap ∧ w'.os = w.os ∧ w'.tape = w.tape ∧ w'.output = w.output := by
  obtain ⟨a, c, hv, hlc, hn⟩ := h.row.is
  subst hv
  have hw := sub_len h.ok
  have c2 := h.c2
  have c3 := h.c3
  have k1 : ¬ ((k + ds.length : Nat) : Int) < n := by omega
  clear h hlc hn h1
  generalize ((k + ds.length : Nat) : Int) = S at *
  generalize (k : Int) = K at *
  go_enter Tryd.func38, Tryd.ntmps38
  go_wp2_with fail
  go_quiet (fail)
  go_wp2
  go_ret
  exact ⟨rfl, rfl, rfl, rfl, rfl⟩
theorem Fr.later {w w1 w2 : World} {r : Option Nat} (h : Fr w1 w2 b r) (e : w1.heap = w.heap) (e1 : w1.os = w.os) (e2 : w1.tape = w.tape) (e3 : w1.output = w.output) : Fr w w2 b r := (Fr.asit e e1 e2 e3).trans h
theorem Nw.later {w w1 : World} {v' : Value} (h : Nw w1 v v') (e : w1.heap = w.heap) : Nw w v v' := fun j hj => by rw [← e]; exact h j hj
set_option maxHeartbeats 1000000 in
theorem ack_yes (m : Nat) (h0 : 0 < m) (hm : m ≤ ds.length) (n : Int) (hn : n = (k : Int) + (m : Int)) (w : World) (h : Sn B w b v win last k ds) :
    Calls Tryd.prog 38 #[.pointer (some ⟨b, 0, none⟩), .int .i64 n] w fun e w' => e = .returned (.int .i64 (m : Int)) ∧ ∃ v', Sn B w' b v' win last (k + m) (ds.drop m) ∧ Fr w w' b v.ownBlock ∧ Nw w v v' := by
  obtain ⟨a, c, hv, hlc, hnn⟩ := h.row.is
  subst hv
  have hw := sub_len h.ok
  have c2 := h.c2
  have c3 := h.c3
  have k1 : ¬ ((k + ds.length : Nat) : Int) < n := by omega
  have k2 : ¬ n ≤ (k : Int) := by omega
  have hw2 : IntKind.i64.wrap (n - (k : Int)) = (m : Int) := by
    have := h.ok.l2
    have := h.ok.all
    rw [show n - (k : Int) = (m : Int) by omega]
    exact i64_id (by omega) (by omega)
  have H := Lib.hid h
  have HC := fun w h => Lib.hid (cut_any (B := B) (b := b) (v := .slice a ds.length c) (win := win) (last := last) (k := k) (ds := ds) m h0 hm w h)
  clear h hlc hnn hn h0 hm
  generalize ((k + ds.length : Nat) : Int) = S at c2 hw k1
  generalize (k : Int) = K at hw hw2 k2
  go_enter Tryd.func38, Tryd.ntmps38
  go_wp2_with fail
  go_quiet (fail)
  go_wp2_with fail
  refine (HC (w.drewN nq) (H.out.asit rfl)).out.mono ?_
  rintro e w1 ⟨rfl, v', hs, hf, hnw⟩
  have HS := Lib.hid hs
  have HF := Lib.hid (hf.later (w := w) rfl rfl rfl rfl)
  have HN := Lib.hid (hnw.later (w := w) rfl)
  clear hs hf hnw c2 c3
  go_wp2
  go_ret
  exact ⟨rfl, v', HS.out, HF.out, HN.out⟩
theorem ack_any (n : Int) (w : World) (h : Sn B w b v win last k ds) :
    Calls Tryd.prog 38 #[.pointer (some ⟨b, 0, none⟩), .int .i64 n] w fun e w' => e = .returned (.int .i64 (ackM k ds.length n : Int)) ∧ ∃ v', Sn B w' b v' win last (k + ackM k ds.length n) (ds.drop (ackM k ds.length n)) ∧ Fr w w' b v.ownBlock ∧ Nw w v v' := by
  unfold ackM
  by_cases h1 : ((k + ds.length : Nat) : Int) < n
  · simp only [if_pos (show ((k + ds.length : Nat) : Int) < n ∨ n ≤ (k : Int) from .inl h1)]
    refine (ack_above n h1 w h).mono ?_
    rintro e w1 ⟨rfl, e1, e2, e3, e4⟩
    exact ⟨rfl, v, h.asit e1, Fr.asit e1 e2 e3 e4, Nw.refl _ _⟩
  by_cases h2 : n ≤ (k : Int)
  · simp only [if_pos (show ((k + ds.length : Nat) : Int) < n ∨ n ≤ (k : Int) from .inr h2)]
    refine (ack_below n (by omega) h2 w h).mono ?_
    rintro e w1 ⟨rfl, e1, e2, e3, e4⟩
    exact ⟨rfl, v, h.asit e1, Fr.asit e1 e2 e3 e4, Nw.refl _ _⟩
  simp only [if_neg (show ¬ (((k + ds.length : Nat) : Int) < n ∨ n ≤ (k : Int)) by omega)]
  exact ack_yes _ (by omega) (by omega) n (by omega) w h
theorem wpList_append_run {ops : Array Oper} {rest : List Oper} {o : Oper} {a : Act} {Q : Exit → Act → World → Prop} {w w' : World} (hgd : o.guard = none) (s x : Operand) (t : TypeId)
    (ho : o.op = .call { callee := .builtin .append, args := #[s, x], argTypes := #[t, t] }) (vs vx v' : Value) (hs : a.eval s = vs) (hx : a.eval x = vx) (hrun : (Builtin.append_ #[t, t] o.type #[vs, vx]).run Tryd.prog w = .ok v' w')
    (h : wpList Tryd.prog ops Q rest (a.put o.dst v') w') : wpList Tryd.prog ops Q (o :: rest) a w := by
  refine wpList_plain hgd fun K hK => ?_
  unfold Oper.wp execOp
  simp only [ho, resolve, invoke, builtin, Sem.run_bind, Sem.run_pure, Result.andThen_ok, List.map_toArray, List.map_cons, List.map_nil, hs, hx, hrun]
  exact hK _ _ h
/-- slices.Clone of pieces. -/
theorem clonep_nil (w : World) : Calls Tryd.prog 70 #[.slice none 0 0] w fun e w' => e = .returned (.slice none 0 0) ∧ w' = w := by
  have he := fun w => Lib.run_eql_slice_nil (P := Tryd.prog) w 93 96 none 0 0 0 0 Tryd.underlying93
  go_enter Tryd.func70, Tryd.ntmps70
  go_wp2
  go_ret
  exact ⟨rfl, rfl⟩
set_option maxHeartbeats 1000000 in
theorem clonep_some (g off c : Nat) (hl : ds.length ≤ 1000) (w : World) (h : PR B w (.slice (some ⟨g, off, none⟩) ds.length c) k ds) : Calls Tryd.prog 70 #[.slice (some ⟨g, off, none⟩) ds.length c] w fun e w' => ∃ a' c', e = .returned (.slice a' ds.length c') ∧ RowP w.heap.size w' (.slice a' ds.length c') k ds ∧ Below w.heap.size w w' := by
  obtain ⟨a', c', w', hrun, hrow, hbel⟩ := run_cloneP w 93 B _ c k ds h hl
  have HR := Lib.hid hrow
  have HB := Lib.hid hbel
  clear h hrow hbel hl
  generalize ds.length = L at *
  have he := fun w => Lib.run_eql_slice_nil (P := Tryd.prog) w 93 96 (some ⟨g, off, none⟩) L c 0 0 Tryd.underlying93
  go_enter Tryd.func70, Tryd.ntmps70
  have HRUN := Lib.hid hrun
  clear hrun
  go_wp2_with (at_builtin; refine wpList_append_run rfl (.tmp 5) (.tmp 6) 93 rfl _ _ _ rfl rfl HRUN.out ?_)
  go_ret
  exact ⟨a', c', rfl, HR.out, HB.out⟩
theorem clonep_any (hl : ds.length ≤ 1000) (a : Option Addr) (c : Nat) (w : World) (h : PR B w (.slice a ds.length c) k ds) : Calls Tryd.prog 70 #[.slice a ds.length c] w fun e w' => ∃ a' c', e = .returned (.slice a' ds.length c') ∧ RowP w.heap.size w' (.slice a' ds.length c') k ds ∧ Below w.heap.size w w' := by
  rcases h with ⟨e, rfl⟩ | ⟨g, off, cap, cur, e, r⟩
  · cases e
    refine (clonep_nil w).mono ?_
    rintro e w1 ⟨rfl, rfl⟩
    exact ⟨none, 0, rfl, World.ownsRow_nil _ _ _ _, Below.refl _ _⟩
  · cases e
    exact clonep_some g off c hl w (.inr ⟨g, off, c, cur, rfl, r⟩)
end
end Go.Proofs.YtjmkdgjdemndaaaDoor.K
/- Pieces. -/
namespace Go.Proofs.YtjmkdgjdemndaaaDoor.K
open Go Go.RowKit
set_option maxRecDepth 20000
section
variable {B b : Nat} {v : Value} {win last : Int} {k : Nat} {ds : List ByteArray}
theorem RowP.cells {w : World} {a : Option Addr} {c : Nat} (h : RowP B w (.slice a ds.length c) k ds) (i : Nat) (hi : i < ds.length) : ∃ g, a = some ⟨g, 0, none⟩ ∧ B ≤ g ∧ g < w.heap.size ∧ w.cell? ⟨g, i * 2, none⟩ = some (.int .i64 ((k + i + 1 : Nat) : Int)) ∧ w.cell? ⟨g, i * 2 + 1, none⟩ = some (.string (ds.getD i emp)) ∧ ∀ j, w.frozen? ⟨g, j, none⟩ = false := by
  rcases h.2 with ⟨e, h0⟩ | ⟨g, cap, cur, e, hb, hg, _⟩
  · omega
  · cases e
    have h1 := World.ownsRow.cellAt h (i * 2) (by omega)
    have h2 := World.ownsRow.cellAt h (i * 2 + 1) (by omega)
    rw [flP_get0 k ds i hi] at h1
    rw [flP_get1 k ds i hi] at h2
    exact ⟨g, rfl, hb, (Array.getElem?_eq_some_iff.1 hg).1, h1, h2, fun j => World.ownsRow.frozenAt h j⟩
theorem RowP.below {w w1 : World} (h : RowP B w v k ds) (hb : Below w.heap.size w w1) : RowP B w1 v k ds := World.ownsRow.kept h (grownOf none hb) (Classical.em _)
/-- A piece's data stored where it stood. -/
theorem RowP.again {w : World} {g c : Nat} (h : RowP B w (.slice (some ⟨g, 0, none⟩) ds.length c) k ds) (i : Nat) (hi : i < ds.length) : RowP B (w.setCell ⟨g, i * 2 + 1, none⟩ (.string (ds.getD i emp))) (.slice (some ⟨g, 0, none⟩) ds.length c) k ds ∧ w.grownBy (w.setCell ⟨g, i * 2 + 1, none⟩ (.string (ds.getD i emp))) (some g) := by
  obtain ⟨h1, h2⟩ := World.ownsRow.stored h (i * 2 + 1) (.string (ds.getD i emp))
  refine ⟨?_, h2⟩
  have e : (flP k ds).set (i * 2 + 1) (.string (ds.getD i emp)) = flP k ds := by
    have hg := flP_get1 k ds i hi
    obtain ⟨hl, hv⟩ := List.getElem?_eq_some_iff.1 hg
    rw [← hv, List.set_getElem_self]
  rw [e] at h1
  exact h1
theorem getD_mem {i : Nat} (hi : i < ds.length) : ds.getD i emp ∈ ds := by
  have e : ds.getD i emp = ds[i] := by simp [List.getD_eq_getElem?_getD, hi]
  rw [e]; exact List.getElem_mem _
set_option maxHeartbeats 4000000 in
theorem pieces_any (w : World) (h : Sn B w b v win last k ds) :
    Calls Tryd.prog 47 #[.pointer (some ⟨b, 0, none⟩)] w fun e w' => ∃ a' c', e = .returned (.slice a' ds.length c') ∧ RowP w.heap.size w' (.slice a' ds.length c') k ds ∧ Below w.heap.size w w' := by
  obtain ⟨a, c, hv, hlc, hn⟩ := h.row.is
  subst hv
  have hl : ds.length ≤ 16 := by have := h.ok.len; have := h.ok.w2; omega
  have c3 := h.c3
  have HC := fun w h => Lib.hid (clonep_any (B := B) (k := k) (ds := ds) (by omega) a c w h)
  have HR := Lib.hid h.row
  have HS := Lib.hid h.ok.sh
  clear h hlc hn
  go_enter Tryd.func47, Tryd.ntmps47
  go_wp2_with fail
  refine (HC _ HR.out).out.mono ?_
  rintro e w1 ⟨a', c', rfl, hrow, hbel⟩
  have HW := Lib.hid hrow
  have HB := Lib.hid hbel
  clear hrow hbel c3 HC HR
  go_wp2_with fail
  go_loopw [12] (fun v12 wr => ∃ i : Nat, i ≤ ds.length ∧ v12 = .int .i64 i ∧ RowP w.heap.size wr (.slice a' ds.length c') k ds ∧ Below w.heap.size w wr) (fun v12 _ => ds.length - (intOf v12).toNat)
  case atStart => exact ⟨0, Nat.zero_le _, rfl, HW.out, HB.out⟩
  case round =>
    obtain ⟨i, hi, rfl, hrow, hbel⟩ := hrel
    clear HW HB
    by_cases hlt : i < ds.length
    · obtain ⟨g, rfl, hgB, hgl, d0, d1, hf⟩ := hrow.cells i hlt
      have hx : (ds.getD i emp).size ≤ 140737488355328 := by have := HS.out _ (getD_mem hlt); omega
      have HW := Lib.hid hrow
      have HB := Lib.hid hbel
      have HAG := Lib.hid (fun w (h : RowP _ w _ _ _) => RowP.again (B := w.heap.size) (k := k) (c := c') (g := g) h i hlt)
      clear hrow hbel hf d0 HAG
      generalize hD : ds.getD i emp = x at *
      have HD := Lib.hid hD
      clear hD
      go_wp2_with fail
      refine (clone_any x hx _).mono ?_
      rintro e w2 ⟨rfl, hb⟩
      have hrow := HW.out.below hb
      obtain ⟨g', e', _, hgl', e0, e1, hf⟩ := hrow.cells i hlt
      cases e'
      rw [HD.out] at e1
      have f1 := hf (i * 2 + 1)
      have hag := hrow.again i hlt
      rw [HD.out] at hag
      have HW2 := Lib.hid hag.1
      have HB2 := Lib.hid ((Below.next HB.out hb).grown hag.2 (Below.next HB.out hb).size (fun j hj => by cases hj; exact hgB))
      clear hrow hb hf e0 hag d1 HB HW
      go_wp2
      go_roundw
      case rel => exact ⟨i + 1, by omega, by go_num, HW2.out, HB2.out⟩
      case measure => simp [intOf]; omega
    · obtain rfl : i = ds.length := by omega
      have HW := Lib.hid hrow
      have HB := Lib.hid hbel
      clear hrow hbel
      go_wp2
      go_ret
      exact ⟨a', c', rfl, HW.out, HB.out⟩
end
end Go.Proofs.YtjmkdgjdemndaaaDoor.K
