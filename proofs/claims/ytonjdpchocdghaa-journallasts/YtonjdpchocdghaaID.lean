/- Two journals side by side; what is played. -/
import Derived.Test.YtonjdpchocdghaaI8
import Derived.Test.YtonjdpchocdghaaIC
namespace Go.Proofs.Ytonjdpchocdghaa
open Go Go.RowKit
set_option maxRecDepth 20000
/-- The updates of the rounds behind so many of the lists. -/
def plays (o last : Int) (ls : List Rn) : Nat → List (List Up)
  | 0 => []
  | k + 1 => addL o last (plays o last ls k) (ls.getD k rn0).us
theorem addL_len (o last : Int) (uss : List (List Up)) (us : List Up) : (addL o last uss us).length ≤ uss.length + 1 := by
  unfold addL
  split
  · simp
  · omega
theorem plays_len (o last : Int) (ls : List Rn) : ∀ k, (plays o last ls k).length ≤ k
  | 0 => Nat.le_refl _
  | k + 1 => by
    have h1 := plays_len o last ls k
    have h2 := addL_len o last (plays o last ls k) (ls.getD k rn0).us
    unfold plays
    omega
theorem addL_yes {o last : Int} {uss : List (List Up)} {us : List Up} (h : addE o last uss us = 0) : addL o last uss us = uss ++ [us] := if_pos h
theorem addL_no {o last : Int} {uss : List (List Up)} {us : List Up} (h : ¬ addE o last uss us = 0) : addL o last uss us = uss := if_neg h
theorem RowU.addr {B : Nat} {w : World} {a : Option Addr} {n c : Nat} {l : List Up} (h : RowU B w (.slice a n c) l) {g off : Nat} (e : a = some ⟨g, off, none⟩) : B ≤ g ∧ off = 0 ∧ ∃ cur, w.heap[g]? = some (.cells cur 50 (0, 0)) := by
  subst e
  rcases h.2 with ⟨e, _⟩ | ⟨g', cap, cur, e, hb, hh, _⟩
  · cases e
  · cases e
    exact ⟨hb, rfl, cur, hh⟩
section
variable {T T1 T2 : TypeId} {B : Nat} {w0 w w' : World} {b c : Nat} {F F' G G' : Nat → Prop} {o o1 o2 last : Int} {uss vss : List (List Up)} {us : List Up} {r : Rn}
/-- One journal within a law. -/
structure J1 (T : TypeId) (w0 w : World) (b : Nat) (F : Nat → Prop) (o last : Int) (uss : List (List Up)) : Prop where
  bel : Below w0.heap.size w0 w
  j : Jx T w0.heap.size w b F o last uss
theorem J1.next (h : J1 T w0 w b F o last uss) (hb : Below w.heap.size w w') : J1 T w0 w' b F o last uss := ⟨Below.next h.bel hb, h.j.next hb⟩
theorem J1.add (h : J1 T w0 w b F o last uss) (ha : AddW T w0.heap.size w w' b F F' o last uss us r) : J1 T w0 w' b F' o last (addL o last uss us) :=
  ⟨ha.lv.below h.bel (fun k hk => (h.j.foot k hk).1) h.bel.size, ha.jx⟩
/-- Two journals side by side within a law. -/
structure Jp (T1 T2 : TypeId) (w0 w : World) (b c : Nat) (F G : Nat → Prop) (o1 o2 last : Int) (uss vss : List (List Up)) : Prop where
  bel : Below w0.heap.size w0 w
  j : Jx T1 w0.heap.size w b F o1 last uss
  m : Jx T2 w0.heap.size w c G o2 last vss
  dis : ∀ k, F k → ¬ G k
theorem Jp.next (h : Jp T1 T2 w0 w b c F G o1 o2 last uss vss) (hb : Below w.heap.size w w') : Jp T1 T2 w0 w' b c F G o1 o2 last uss vss := ⟨Below.next h.bel hb, h.j.next hb, h.m.next hb, h.dis⟩
theorem Jp.drew (h : Jp T1 T2 w0 w b c F G o1 o2 last uss vss) : Jp T1 T2 w0 w.drew b c F G o1 o2 last uss vss := h.next (Below.refl _ _).drew
theorem Jp.add1 (h : Jp T1 T2 w0 w b c F G o1 o2 last uss vss) (ha : AddW T1 w0.heap.size w w' b F F' o1 last uss us r) : Jp T1 T2 w0 w' b c F' G o1 o2 last (addL o1 last uss us) vss :=
  ⟨ha.lv.below h.bel (fun k hk => (h.j.foot k hk).1) h.bel.size, ha.jx, h.m.other ha.lv (fun k hk hF => h.dis k hF hk), fun k hk hG => by
    rcases ha.new k hk with hF | hF
    · exact h.dis k hF hG
    · have := (h.m.foot k hG).2; omega⟩
theorem Jp.add2 (h : Jp T1 T2 w0 w b c F G o1 o2 last uss vss) (ha : AddW T2 w0.heap.size w w' c G G' o2 last vss us r) : Jp T1 T2 w0 w' b c F G' o1 o2 last uss (addL o2 last vss us) :=
  ⟨ha.lv.below h.bel (fun k hk => (h.m.foot k hk).1) h.bel.size, h.j.other ha.lv h.dis, ha.jx, fun k hk hG => by
    rcases ha.new k hG with hF | hF
    · exact h.dis k hk hF
    · have := (h.j.foot k hk).2; omega⟩
theorem Jp.setnew (h : Jp T1 T2 w0 w b c F G o1 o2 last uss vss) {g : Nat} (h0 : w0.heap.size ≤ g) (h1 : ¬ F g) (h2 : ¬ G g) (i : Nat) (x : Value) : Jp T1 T2 w0 (w.setCell ⟨g, i, none⟩ x) b c F G o1 o2 last uss vss :=
  ⟨h.bel.setCell h0 _, h.j.setnew h1 _ _, h.m.setnew h2 _ _, h.dis⟩
theorem Jx.open' (h : Jx T B w c G o last vss) : ∃ a cp rs, w.cell? ⟨c, 2, none⟩ = some (.slice a vss.length cp) ∧ IsRs w a vss.length rs ∧ Of o 0 vss rs ∧ (∀ us ∈ vss, Sm us) ∧ ∀ W, Below w.heap.size w W → W.cell? ⟨c, 2, none⟩ = some (.slice a vss.length cp) := by
  obtain ⟨v, S, rs, hj, ho, hs, rfl⟩ := h
  obtain ⟨a, cp, rfl, hx, _⟩ := hj.is
  rw [ho.len] at hj hx
  exact ⟨a, cp, rs, hj.c2, hx, ho, hs, fun W hW => (hj.next hW).c2⟩
end
end Go.Proofs.Ytonjdpchocdghaa
