/- A client, plain; a row of rounds within an object of some cells (Kn). -/
import Derived.Test.YtbbgibekplfacaaDoorQA
import Derived.Test.YtbbgibekplfacaaDoorT1
import Derived.Test.YtbbgibekplfacaaDoorB8
import Derived.Deep.RegionHeld3
import Derived.Deep.CutRange
import Derived.Deep.QuietTactic
import Derived.BigQuiet
namespace Go.Proofs.YtbbgibekplfacaaDoor
open Go Go.RowKit
set_option maxRecDepth 20000
/-- A round without where its updates lie. -/
abbrev Cr := Int × Int × List Up
def kR (r : Rn) : Cr := (r.o, r.n, r.us)
def kr0 : Cr := kR rn0
theorem map_getD (rs : List Rn) (i : Nat) : (rs.map kR).getD i kr0 = kR (rs.getD i rn0) := by
  simp only [List.getD_eq_getElem?_getD, List.getElem?_map]
  cases rs[i]? <;> rfl
/-- What is played is small. -/
def Sl (us : List Up) : Prop := us.length ≤ 20 ∧ ∀ u ∈ us, u.1.size ≤ 1000 ∧ Y.Sh u.2.2.2
theorem Sl.sm {us : List Up} (h : Sl us) : Sm us := by
  refine ⟨by have := h.1; omega, fun i hi => ?_⟩
  have := h.2 (us.getD i up0) (by
    have e : us.getD i up0 = us[i] := by simp [List.getD_eq_getElem?_getD, hi]
    rw [e]; exact List.getElem_mem hi)
  have h2 : (us.getD i up0).2.2.2.size ≤ 100000 := this.2
  omega
theorem Sl.nil : Sl [] := ⟨Nat.zero_le _, fun u h => by cases h⟩
/-- A client: its origin, mtu, how many may be pending, the journal's last number; the journal's rounds' updates, how many of these are known; what is known, what is open. -/
structure Cs where
  o : Int
  mtu : Int
  most : Int
  last : Int
  uss : List (List Up)
  k : Nat
  kn : List Cr
  op : List Up
/-- The updates that are seen. -/
def seenU (uss : List (List Up)) (k : Nat) (kn : List Cr) (op : List Up) : List Up := (kn.flatMap fun r => r.2.2) ++ (uss.drop k).flatten ++ op
def Cs.seen (s : Cs) : List Up := seenU s.uss s.k s.kn s.op
/-- How many rounds may be pending. -/
def mostOf (p : Int) : Int := if p < 1 then 1 else if 16 < p then 16 else p
def updE (mtu : Int) (op : List Up) (u : Up) : Int := if mayE u = 0 then (if X.fitsB [u] mtu = true then (if X.fitsB (op ++ [u]) mtu = true then 0 else 7) else 3) else mayE u
def updO (mtu : Int) (op : List Up) (u : Up) : List Up := if updE mtu op u = 0 then op ++ [u] else op
def pushE (o last most : Int) (uss : List (List Up)) (k : Nat) (op : List Up) : Int := if op.length = 0 then 11 else if most ≤ (uss.length : Int) - k then 7 else addE o last uss op
def takeE (o : Int) (L k : Nat) (ro rn : Int) : Int := if ro = o then (if k < L ∧ rn = ((k + 1 : Nat) : Int) then 0 else 10) else 0
def Cs.updE (s : Cs) (u : Up) : Int := Go.Proofs.YtbbgibekplfacaaDoor.updE s.mtu s.op u
def Cs.upd (s : Cs) (u : Up) : Cs := { s with op := updO s.mtu s.op u }
def Cs.pushE (s : Cs) : Int := Go.Proofs.YtbbgibekplfacaaDoor.pushE s.o s.last s.most s.uss s.k s.op
def Cs.push (s : Cs) : Cs := if s.pushE = 0 then { s with uss := s.uss ++ [s.op], op := [] } else s
def Cs.takeE (s : Cs) (r : Cr) : Int := Go.Proofs.YtbbgibekplfacaaDoor.takeE s.o s.uss.length s.k r.1 r.2.1
def Cs.take (s : Cs) (r : Cr) : Cs := if s.takeE r = 0 then { s with kn := s.kn ++ [r], k := if r.1 = s.o then s.k + 1 else s.k } else s
def Cs.resume (s : Cs) : Cs := { s with kn := [], k := 0, op := [] }
/-- A client's lists are small: behind n calls. -/
structure Cs.Ok (n : Nat) (s : Cs) : Prop where
  len : s.kn.length + s.uss.length ≤ n
  tot : (s.kn.flatMap fun r => r.2.2).length + s.uss.flatten.length + s.op.length ≤ 20 * n
  k : s.k ≤ s.uss.length
  su : ∀ us ∈ s.uss, Sl us
  sk : ∀ r ∈ s.kn, Sl r.2.2
  so : Sl s.op
  s8 : s.op.length ≤ 8
theorem flatten_drop_len (uss : List (List Up)) (k : Nat) : (uss.drop k).flatten.length ≤ uss.flatten.length := by
  have : uss.flatten = (uss.take k).flatten ++ (uss.drop k).flatten := by rw [← List.flatten_append, List.take_append_drop]
  rw [this, List.length_append]
  omega
theorem Cs.Ok.seen {n : Nat} {s : Cs} (h : s.Ok n) : s.seen.length ≤ 20 * n ∧ ∀ u ∈ s.seen, u.1.size ≤ 1000 ∧ Y.Sh u.2.2.2 := by
  have h1 := h.tot
  have h2 := flatten_drop_len s.uss s.k
  refine ⟨by unfold Cs.seen seenU; rw [List.length_append, List.length_append]; omega, fun u hu => ?_⟩
  unfold Cs.seen seenU at hu
  rcases List.mem_append.1 hu with hu | hu
  · rcases List.mem_append.1 hu with hu | hu
    · obtain ⟨r, hr, hu⟩ := List.mem_flatMap.1 hu
      exact (h.sk r hr).2 u hu
    · obtain ⟨us, hs, hu⟩ := List.mem_flatten.1 hu
      exact (h.su us (List.mem_of_mem_drop hs)).2 u hu
  · exact h.so.2 u hu
theorem updE_zero {mtu : Int} {op : List Up} {u : Up} (h : Go.Proofs.YtbbgibekplfacaaDoor.updE mtu op u = 0) : mayE u = 0 ∧ X.fitsB [u] mtu = true ∧ X.fitsB (op ++ [u]) mtu = true := by
  unfold Go.Proofs.YtbbgibekplfacaaDoor.updE at h
  split at h
  next h1 =>
    split at h
    next h2 =>
      split at h
      next h3 => exact ⟨h1, h2, h3⟩
      next => omega
    next => omega
  next h1 => exact absurd h h1
theorem fits_len {us : List Up} {mtu : Int} (h : X.fitsB us mtu = true) : us.length ≤ 8 := by
  unfold X.fitsB at h
  obtain ⟨_, _, h3, _⟩ := of_decide_eq_true h
  have := (mayR_zero h3).1
  unfold headOk at this
  omega
theorem Cs.Ok.upd {n : Nat} {s : Cs} (h : s.Ok n) {u : Up} (hu : u.1.size ≤ 1000 ∧ Y.Sh u.2.2.2) : (s.upd u).Ok (n + 1) := by
  have h1 := h.len
  have h2 := h.tot
  unfold Cs.upd updO
  split
  next he =>
    have h8 := fits_len (updE_zero he).2.2
    have e1 : (s.op ++ [u]).length = s.op.length + 1 := by simp
    refine ⟨by show s.kn.length + s.uss.length ≤ n + 1; omega, ?_, h.k, h.su, h.sk, ⟨by show (s.op ++ [u]).length ≤ 20; omega, fun x hx => ?_⟩, h8⟩
    · dsimp only
      omega
    · rcases List.mem_append.1 hx with hx | hx
      · exact h.so.2 x hx
      · rw [List.mem_singleton.1 hx]; exact hu
  next => exact ⟨by show s.kn.length + s.uss.length ≤ n + 1; omega, by dsimp only; omega, h.k, h.su, h.sk, h.so, h.s8⟩
theorem Cs.Ok.more {n : Nat} {s : Cs} (h : s.Ok n) : s.Ok (n + 1) := by
  have h1 := h.len
  have h2 := h.tot
  exact ⟨by omega, by omega, h.k, h.su, h.sk, h.so, h.s8⟩
theorem Cs.Ok.push {n : Nat} {s : Cs} (h : s.Ok n) : s.push.Ok (n + 1) := by
  have h1 := h.len
  have h2 := h.tot
  have h3 := h.k
  unfold Cs.push
  split
  · refine ⟨by simp; omega, by simp at h2 ⊢; omega, by simp; omega, fun us hu => ?_, h.sk, Sl.nil, Nat.zero_le _⟩
    rcases List.mem_append.1 hu with hu | hu
    · exact h.su us hu
    · rw [List.mem_singleton.1 hu]; exact h.so
  · exact h.more
theorem takeE_own {o : Int} {L k : Nat} {ro rn : Int} (h : Go.Proofs.YtbbgibekplfacaaDoor.takeE o L k ro rn = 0) (he : ro = o) : k < L ∧ rn = ((k + 1 : Nat) : Int) := by
  unfold Go.Proofs.YtbbgibekplfacaaDoor.takeE at h
  rw [if_pos he] at h
  split at h
  next hx => exact hx
  next => omega
theorem Cs.Ok.take {n : Nat} {s : Cs} (h : s.Ok n) {r : Cr} (hr : Sl r.2.2) : (s.take r).Ok (n + 1) := by
  have h1 := h.len
  have h2 := h.tot
  have h3 := h.k
  have h4 := hr.1
  unfold Cs.take
  split
  next he =>
    refine ⟨by simp; omega, by simp at h2 ⊢; omega, ?_, h.su, fun x hx => ?_, h.so, h.s8⟩
    · show (if r.1 = s.o then s.k + 1 else s.k) ≤ s.uss.length
      split
      next ho =>
        have := (takeE_own he ho).1
        omega
      next => exact h3
    · rcases List.mem_append.1 hx with hx | hx
      · exact h.sk x hx
      · rw [List.mem_singleton.1 hx]; exact hr
  next => exact h.more
theorem Cs.Ok.resume {n : Nat} {s : Cs} (h : s.Ok n) : s.resume.Ok (n + 1) := by
  have h1 := h.len
  have h2 := h.tot
  exact ⟨by show 0 + s.uss.length ≤ n + 1; omega, by show 0 + s.uss.flatten.length + 0 ≤ _; omega, Nat.zero_le _, h.su, fun r hr => (by cases hr), Sl.nil, Nat.zero_le _⟩
/-- A log in block b, of type T, with the cells cs: its row of rounds in the slice v, their updates in the blocks S. -/
structure Kn (T : TypeId) (B : Nat) (w : World) (b : Nat) (cs : Array Value) (v : Value) (S : Nat → Prop) (rs : List Rn) : Prop where
  lo : B ≤ b
  blk : w.heap[b]? = some (.cells cs T (0, 0))
  row : RowR B w v rs
  each : ∀ r ∈ rs, Ru w r ∧ ∀ g off, r.a = some ⟨g, off, none⟩ → S g
  own : ∀ g, S g → B ≤ g ∧ ∃ cur, w.heap[g]? = some (.cells cur 32 (0, 0))
section
variable {T : TypeId} {B b : Nat} {w w' w1 w3 W : World} {cs : Array Value} {v : Value} {S : Nat → Prop} {F : Nat → Prop} {rs : List Rn}
theorem Kn.c (h : Kn T B w b cs v S rs) (i : Nat) (x : Value) (hx : cs[i]? = some x) : w.cell? ⟨b, i, none⟩ = some x := cell_at h.blk i x hx
theorem Kn.f0 (h : Kn T B w b cs v S rs) (i : Nat) : w.frozen? ⟨b, i, none⟩ = false := by have := h.blk; simp [World.frozen?, this]
theorem Kn.lt (h : Kn T B w b cs v S rs) : b < w.heap.size := (Array.getElem?_eq_some_iff.1 h.blk).1
theorem Kn.foot (h : Kn T B w b cs v S rs) (k : Nat) (hk : Jf b v S k) : B ≤ k ∧ k < w.heap.size := by
  rcases hk with rfl | hk | hk
  · exact ⟨h.lo, h.lt⟩
  · obtain ⟨h1, cur, h2⟩ := h.row.typ k hk
    exact ⟨h1, (Array.getElem?_eq_some_iff.1 h2).1⟩
  · obtain ⟨h1, cur, h2⟩ := h.own k hk
    exact ⟨h1, (Array.getElem?_eq_some_iff.1 h2).1⟩
theorem Kn.keep (h : Kn T B w b cs v S rs) (hk : ∀ k, Jf b v S k → w'.heap[k]? = w.heap[k]?) : Kn T B w' b cs v S rs :=
  ⟨h.lo, (hk b (.inl rfl)).trans h.blk, h.row.same fun j hj => hk j (.inr (.inl hj)), fun r hr => ⟨⟨isUs_same (h.each r hr).1.1 fun b off e => hk b (.inr (.inr ((h.each r hr).2 b off e))), (h.each r hr).1.2⟩, (h.each r hr).2⟩, fun g hg => ⟨(h.own g hg).1, by
    obtain ⟨cur, hc⟩ := (h.own g hg).2
    exact ⟨cur, (hk g (.inr (.inr hg))).trans hc⟩⟩⟩
theorem Kn.next (h : Kn T B w b cs v S rs) (hb : Below w.heap.size w w') : Kn T B w' b cs v S rs := h.keep fun k hk => hb.block k (h.foot k hk).2
theorem Kn.is (h : Kn T B w b cs v S rs) : ∃ a c, v = .slice a rs.length c ∧ IsRs w a rs.length rs ∧ rs.length ≤ c ∧ (a = none → c = 0) := by
  obtain ⟨a, c, rfl, hx, hc, hn⟩ := h.row.is
  exact ⟨a, c, rfl, ⟨rfl, hx.lies, fun r hr => (h.each r hr).1⟩, hc, hn⟩
theorem Kn.vb (h : Kn T B w b cs v S rs) (hT : T ≠ 35) : v.ownBlock ≠ some b := fun e => by
  obtain ⟨_, cur, hc⟩ := h.row.typ b e
  exact two_types h.blk hc hT rfl
theorem Kn.vS (h : Kn T B w b cs v S rs) (g : Nat) (hg : S g) : v.ownBlock ≠ some g := fun e => by
  obtain ⟨_, cur, hc⟩ := h.row.typ g e
  obtain ⟨_, cur', hc'⟩ := h.own g hg
  exact two_types hc hc' (by decide) rfl
theorem Kn.bS (h : Kn T B w b cs v S rs) (hT : T ≠ 32) : ¬ S b := fun hg => by
  obtain ⟨_, cur', hc'⟩ := h.own b hg
  exact two_types h.blk hc' hT rfl
/-- A cell of the log's block is stored, its row stays. -/
theorem Kn.set (h : Kn T B w b cs v S rs) (hT : T ≠ 35) (hU : T ≠ 32) (i : Nat) (x : Value) : Kn T B (w.setCell ⟨b, i, none⟩ x) b (cs.setIfInBounds i x) v S rs := by
  have hvb := h.vb hT
  have hSb := h.bS hU
  have hne : ∀ k, k ≠ b → (w.setCell ⟨b, i, none⟩ x).heap[k]? = w.heap[k]? := fun k hk => Below.heap_setCell _ _ _ _ hk
  refine ⟨h.lo, by simp [World.setCell, Array.getElem?_modify, h.blk], h.row.same fun j hj => hne j fun e => hvb (by rw [hj, e]), fun r hr => ⟨⟨isUs_same (h.each r hr).1.1 fun g off e => hne g fun e' => hSb (by rw [← e']; exact (h.each r hr).2 g off e), (h.each r hr).1.2⟩, (h.each r hr).2⟩, fun g hg => ⟨(h.own g hg).1, ?_⟩⟩
  obtain ⟨cur, hc⟩ := (h.own g hg).2
  exact ⟨cur, (hne g fun e => hSb (by rw [← e]; exact hg)).trans hc⟩
/-- A log when one more round is in its row: in the world W it was as it came; w3 came of new memory; w5 of the append; then its row is stored. -/
theorem com_fin {w5 : World} {r : Rn} {g : Nat} {a' : Option Addr} {c' : Nat} (h : Kn T B W b cs v S rs) (hb : Below W.heap.size W w3) (hru : Ru w3 r) (hg : r.a = some ⟨g, 0, none⟩) (hgB : B ≤ g) (hgt : ∃ cur, w3.heap[g]? = some (.cells cur 32 (0, 0)))
    (hT : T ≠ 35) (hU : T ≠ 32) (O : Obj) (i : Nat) (hrow : RowR B w5 (.slice a' (rs.length + 1) c') (rs ++ [r])) (hgr : (w3.alloc O).grownBy w5 v.ownBlock) :
    Kn T B (w5.setCell ⟨b, i, none⟩ (.slice a' (rs.length + 1) c')) b (cs.setIfInBounds i (.slice a' (rs.length + 1) c')) (.slice a' (rs.length + 1) c') (fun k => S k ∨ k = g) (rs ++ [r]) := by
  have s3 := hb.size
  have hsz : (w3.alloc O).heap.size = w3.heap.size + 1 := by simp
  have h4 : Kn T B (w3.alloc O) b cs v S rs := (h.next hb).next (Joins.below_alloc1 _ _)
  have hvb := h4.vb hT
  have hbl := h4.lt
  obtain ⟨curg, hcg⟩ := hgt
  have hgl : g < w3.heap.size := (Array.getElem?_eq_some_iff.1 hcg).1
  have hcg4 : (w3.alloc O).heap[g]? = some (.cells curg 32 (0, 0)) := (Below.heap_alloc _ _ _ hgl).trans hcg
  have hvg : v.ownBlock ≠ some g := fun e => by
    obtain ⟨_, cur, hc⟩ := h4.row.typ g e
    exact two_types hc hcg4 (by decide) rfl
  have b5 : w5.heap[b]? = some (.cells cs T (0, 0)) := (hgr.block b hbl (fun e => hvb e.symm)).trans h4.blk
  have hne : (Value.slice a' (rs.length + 1) c').ownBlock ≠ some b := fun e => by
    obtain ⟨_, cur, hc⟩ := hrow.typ b e
    exact two_types b5 hc hT rfl
  have hgb : g ≠ b := fun e => by
    subst e
    exact two_types h4.blk hcg4 hU rfl
  have hSb := h4.bS hU
  refine ⟨h.lo, by simp [World.setCell, Array.getElem?_modify, b5], hrow.same fun j hj => Below.heap_setCell _ _ _ _ (fun e => hne (by rw [hj, e])), fun x hx => ?_, fun k hk => ?_⟩
  · rcases List.mem_append.1 hx with hx | hx
    · obtain ⟨y1, y2⟩ := h4.each x hx
      refine ⟨⟨isUs_same y1.1 fun j off e => ?_, y1.2⟩, fun j off e => .inl (y2 j off e)⟩
      have hj := y2 j off e
      rw [Below.heap_setCell _ _ _ _ (fun e => hSb (by have e' : j = b := e; rw [← e']; exact hj))]
      exact hgr.block j (h4.foot j (.inr (.inr hj))).2 (fun e => h4.vS j hj e.symm)
    · rw [List.mem_singleton.1 hx]
      refine ⟨⟨isUs_same hru.1 fun j off e => ?_, hru.2⟩, fun j off e => .inr ?_⟩
      · rw [hg] at e
        simp only [Option.some.injEq, Addr.mk.injEq, and_true] at e
        obtain ⟨rfl, _⟩ := e
        rw [Below.heap_setCell _ _ _ _ hgb, hgr.block g (by omega) (fun e => hvg e.symm)]
        exact Below.heap_alloc _ _ _ hgl
      · rw [hg] at e
        simp only [Option.some.injEq, Addr.mk.injEq, and_true] at e
        exact e.1.symm
  · rcases hk with hk | rfl
    · obtain ⟨y1, cur, y2⟩ := h4.own k hk
      refine ⟨y1, cur, ?_⟩
      rw [Below.heap_setCell _ _ _ _ (fun e => hSb (by have e' : k = b := e; rw [← e']; exact hk)), hgr.block k (h4.foot k (.inr (.inr hk))).2 (fun e => h4.vS k hk e.symm)]
      exact y2
    · refine ⟨hgB, curg, ?_⟩
      rw [Below.heap_setCell _ _ _ _ hgb, hgr.block k (by omega) (fun e => hvg e.symm)]
      exact hcg4
theorem com_left {w5 : World} {O : Obj} {i : Nat} {x : Value} (hb : Below W.heap.size W w3) (hgr : (w3.alloc O).grownBy w5 v.ownBlock) : Lv W (w5.setCell ⟨b, i, none⟩ x) (Jf b v S) :=
  (((Lv.ofBelow hb _).trans (Lv.ofBelow (Joins.below_alloc1 w3 O) _)).trans (Lv.grown hgr fun _ hk => .inr (.inl hk))).trans (Lv.set (.inl rfl) _ _)
theorem com_foot {a' : Option Addr} {n c' g N : Nat} (hg : N ≤ g) (hown : (Value.slice a' n c').ownBlock = v.ownBlock ∨ ∃ j, (Value.slice a' n c').ownBlock = some j ∧ N ≤ j) (k : Nat) (hk : Jf b (.slice a' n c') (fun k => S k ∨ k = g) k) : Jf b v S k ∨ N ≤ k := by
  rcases hk with hk | hk | hk | hk
  · exact .inl (.inl hk)
  · rcases hown with h | ⟨j, h, hj⟩
    · exact .inl (.inr (.inl (h ▸ hk)))
    · rw [h] at hk
      cases hk
      exact .inr hj
  · exact .inl (.inr (.inr hk))
  · exact .inr (by omega)
theorem com_app {w2 : World} {ax : Option Addr} {c : Nat} (h : Kn T B w b cs (.slice ax rs.length c) S rs) (hA : Below w.heap.size w w2) (hb3 : Below w2.heap.size w2 w3) (r : Rn) (hT : T ≠ 35) (hn : rs.length ≤ 1000) (ty : TypeId) (i : Nat) (hi : cs[i]? = some (.slice ax rs.length c)) :
    ∃ a' c' w5, (Builtin.append_ #[40, 40] ty #[.slice ax rs.length c, .slice (some ⟨w3.heap.size, 0, none⟩) 1 1]).run Tryd.prog (w3.alloc (.cells #[.int .i64 r.o, .int .i64 r.n, .slice r.a r.len r.cap] 35)) = .ok (.slice a' (rs.length + 1) c') w5 ∧ Hid (RowR B w5 (.slice a' (rs.length + 1) c') (rs ++ [r])) ∧ Hid ((w3.alloc (.cells #[.int .i64 r.o, .int .i64 r.n, .slice r.a r.len r.cap] 35)).grownBy w5 (Value.slice ax rs.length c).ownBlock) ∧ Hid ((Value.slice a' (rs.length + 1) c').ownBlock = (Value.slice ax rs.length c).ownBlock ∨ ∃ j, (Value.slice a' (rs.length + 1) c').ownBlock = some j ∧ w2.heap.size ≤ j) ∧ w5.cell? ⟨b, i, none⟩ = some (.slice ax rs.length c) ∧ w5.frozen? ⟨b, i, none⟩ = false ∧ w3.cell? ⟨b, i, none⟩ = some (.slice ax rs.length c) ∧ (w3.alloc (.cells #[.int .i64 r.o, .int .i64 r.n, .slice r.a r.len r.cap] 35)).cell? ⟨b, i, none⟩ = some (.slice ax rs.length c) ∧ Hid (∀ k o' n' a l' c' x, w.heap.size ≤ k → Rb w2 k o' n' a l' c' → Rb w3 k o' n' a l' c' ∧ Rb (w3.alloc (.cells #[.int .i64 r.o, .int .i64 r.n, .slice r.a r.len r.cap] 35)) k o' n' a l' c' ∧ Rb w5 k o' n' a l' c' ∧ Rb (w5.setCell ⟨b, i, none⟩ x) k o' n' a l' c') := by
  have h3 := (h.next hA).next hb3
  have h4 := h3.next (Joins.below_alloc1 w3 (.cells #[.int .i64 r.o, .int .i64 r.n, .slice r.a r.len r.cap] 35))
  have hvb := h4.vb hT
  have hB : B ≤ w3.heap.size := Nat.le_trans h3.lo (Nat.le_of_lt h3.lt)
  obtain ⟨a', c', w5, r1, r2, r3, r4⟩ := run_appR _ ty B _ rs h4.row (some ⟨w3.heap.size, 0, none⟩) 1 1 [r] (rsAt_one w3 r) (Nat.le_refl _) (fun e => by cases e) (by omega) (by simp; omega)
  have s3 := hb3.size
  have hsz : (w3.alloc (.cells #[.int .i64 r.o, .int .i64 r.n, .slice r.a r.len r.cap] 35)).heap.size = w3.heap.size + 1 := by simp
  have b5 : w5.heap[b]? = some (.cells cs T (0, 0)) := (r3.block b h4.lt (fun e => hvb e.symm)).trans h4.blk
  refine ⟨a', c', w5, r1, r2, r3, ?_, cell_at b5 i _ hi, by simp [World.frozen?, b5], h3.c i _ hi, h4.c i _ hi, fun k o' n' al l' cl x hk hr => ?_⟩
  · rcases r4 with e | e
    · exact .inl e
    · exact .inr ⟨_, e, by omega⟩
  · have k3 := hr.next hb3
    have k4 := k3.alloc (.cells #[.int .i64 r.o, .int .i64 r.n, .slice r.a r.len r.cap] 35)
    have k5 := k4.kept r3 (fun e => by
      have := (h.foot k (.inr (.inl e.symm))).2
      omega)
    have hkb : k ≠ b := by have := h.lt; omega
    exact ⟨k3, k4, k5, k5.setnew hkb _ _⟩
end
section
variable {T : TypeId} {B b : Nat} {o last : Int}
/-- A log's round. -/
theorem Kn.at' {T : TypeId} {cs : Array Value} {w w1 : World} {a : Option Addr} {cp : Nat} {S : Nat → Prop} {rs : List Rn} (hj : Kn T B w b cs (.slice a rs.length cp) S rs) {i : Nat} (hi : i < rs.length) (hb : Below w.heap.size w w1) :
    ∃ g off, a = some ⟨g, off, none⟩ ∧ w1.cell? ⟨g, off + i * 3, none⟩ = some (.int .i64 (rs.getD i rn0).o) ∧ w1.cell? ⟨g, off + i * 3 + 1, none⟩ = some (.int .i64 (rs.getD i rn0).n) ∧ w1.cell? ⟨g, off + i * 3 + 2, none⟩ = some (.slice (rs.getD i rn0).a (rs.getD i rn0).len (rs.getD i rn0).cap) ∧ Ru w (rs.getD i rn0) := by
  obtain ⟨a', c', e, hx, _⟩ := hj.is
  cases e
  exact rcells_of hx hb hi
end
end Go.Proofs.YtbbgibekplfacaaDoor
