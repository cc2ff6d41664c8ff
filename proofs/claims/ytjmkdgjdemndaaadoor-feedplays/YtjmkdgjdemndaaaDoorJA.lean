/- An end within a law; two ends within a law. -/
import Derived.Test.YtjmkdgjdemndaaaDoorJ8
namespace Go.Proofs.YtjmkdgjdemndaaaDoor.K
open Go Go.RowKit
set_option maxRecDepth 20000
/-- Blocks of other types than an end's are left. -/
def OthL (w w' : World) : Prop := ∀ (X : Nat) (cur : Array Value) (t : TypeId) (fr : Nat × Nat), w.heap[X]? = some (.cells cur t fr) → t ≠ 73 → t ≠ 125 → t ≠ 96 → t ≠ 128 → w'.heap[X]? = w.heap[X]?
theorem OthL.trans {w1 w2 w3 : World} (h : OthL w1 w2) (k : OthL w2 w3) : OthL w1 w3 := fun X cur t fr hX h1 h2 h3 h4 => (k X cur t fr ((h X cur t fr hX h1 h2 h3 h4).trans hX) h1 h2 h3 h4).trans (h X cur t fr hX h1 h2 h3 h4)
theorem OthL.ofBelow {w w' : World} (h : Below w.heap.size w w') : OthL w w' := fun X _ _ _ hX _ _ _ _ => h.block X (Array.getElem?_eq_some_iff.1 hX).1
theorem OthL.asit {w w' : World} (e : w'.heap = w.heap) : OthL w w' := fun X _ _ _ _ _ _ _ _ => by rw [e]
theorem OthL.of {B : Nat} {w w' : World} {b bs : Nat} {v : Value} {br : Nat} {L : List ByteArray} {E : En} {P' : Nat → Prop} (h : Lx B w b bs v br L E) (hf : Lf w w' (ft b bs v br) P') : OthL w w' :=
  fun X _ _ _ hX h1 h2 h3 h4 => hf.block X (Array.getElem?_eq_some_iff.1 hX).1 (h.other hX h1 h2 h3 h4)
theorem RowF.oth {B : Nat} {w w' : World} {v : Value} {fs : List Fra} (h : RowF B w v fs) (ho : OthL w w') : RowF B w' v fs := h.same fun j hj => by
  obtain ⟨c, hc⟩ := h.typ j hj
  exact ho j _ _ _ hc (by decide) (by decide) (by decide) (by decide)
theorem RowS.oth {B : Nat} {w w' : World} {v : Value} {ts : List ByteArray} (h : RowS B w v ts) (ho : OthL w w') : RowS B w' v ts := h.same fun j hj => by
  obtain ⟨c, hc⟩ := h.typ j hj
  exact ho j _ _ _ hc (by decide) (by decide) (by decide) (by decide)
theorem Fb.oth {w w' : World} {H : Nat} {f : Fra} (h : Fb w H f) (ho : OthL w w') : Fb w' H f := h.same (ho H _ _ _ h (by decide) (by decide) (by decide) (by decide))
/-- The first that waits goes. -/
def En.pop (E : En) : En := { E with q := E.q + (E.ps.take 1).length, ps := E.ps.drop 1 }
section
variable {B : Nat} {w w' : World} {b bs : Nat} {v : Value} {br : Nat} {L : List ByteArray} {E : En}
end
/-- An end within a law that began in w0. -/
structure Tu (B : Nat) (w0 w : World) (b bs br : Nat) (E : En) : Prop where
  ex : ∃ v L, Lx B w b bs v br L E
  bel : Below B w0 w
  le : B ≤ w.heap.size
section
variable {B : Nat} {w0 w w' : World} {b bs br : Nat} {E : En}
theorem Tu.next (h : Tu B w0 w b bs br E) (hb : Below w.heap.size w w') : Tu B w0 w' b bs br E := by
  obtain ⟨v, L, hx⟩ := h.ex
  exact ⟨⟨v, L, hx.next hb⟩, h.bel.trans (hb.mono h.le), Nat.le_trans h.le hb.size⟩
theorem Tu.asit (h : Tu B w0 w b bs br E) (e : w'.heap = w.heap) (e1 : w'.os = w.os) (e2 : w'.tape = w.tape) (e3 : w'.output = w.output) : Tu B w0 w' b bs br E := h.next (below_asit e e1 e2 e3)
/-- Blocks of no end turn. -/
theorem Tu.grown {row : Option Nat} (h : Tu B w0 w b bs br E) (hg : w.grownBy w' row) (hr : ∀ j, row = some j → B ≤ j ∧ ∃ cur t fr, w.heap[j]? = some (.cells cur t fr) ∧ t ≠ 73 ∧ t ≠ 125 ∧ t ≠ 96 ∧ t ≠ 128) : Tu B w0 w' b bs br E := by
  obtain ⟨v, L, hx⟩ := h.ex
  refine ⟨⟨v, L, hx.same fun j hj => hg.block j (hx.ftlt j hj).2 (fun e => ?_)⟩, h.bel.grown hg h.le (fun j hj => (hr j hj).1), Nat.le_trans h.le hg.size⟩
  obtain ⟨_, cur, t, fr, hc, h1, h2, h3, h4⟩ := hr j e.symm
  exact hx.other hc h1 h2 h3 h4 hj
theorem Tu.c4 (h : Tu B w0 w b bs br E) : w.cell? ⟨b, 4, none⟩ = some (.pointer (some ⟨bs, 0, none⟩)) := by
  obtain ⟨v, L, hx⟩ := h.ex
  exact hx.blk.c4
theorem Tu.c5 (h : Tu B w0 w b bs br E) : w.cell? ⟨b, 5, none⟩ = some (.pointer (some ⟨br, 0, none⟩)) := by
  obtain ⟨v, L, hx⟩ := h.ex
  exact hx.blk.c5
theorem Lf.bel {v : Value} {L : List ByteArray} {P' : Nat → Prop} (hf : Lf w w' (ft b bs v br) P') (hx : Lx B w b bs v br L E) (hb : Below B w0 w) (hB : B ≤ w.heap.size) : Below B w0 w' :=
  ⟨hf.os.trans hb.os, hf.tape.trans hb.tape, hf.output.trans hb.output, Nat.le_trans hb.size hf.size, fun j hj => (hf.block j (by omega) (fun hp => by have := (hx.ftlt j hp).1; omega)).trans (hb.block j hj)⟩
theorem tu_new (ep wa ra : Int) (pas : Bool) (hbel : Below B w0 w) (hB : B ≤ w.heap.size) :
    Calls Tryd.prog 8 #[.int .i64 ep, .int .i64 wa, .int .i64 ra, .bool pas] w fun x w' => x = .returned (.pointer (some ⟨w.heap.size, 0, none⟩)) ∧ (∃ bs br, Tu B w0 w' w.heap.size bs br ⟨clampE ep, wa, ra, pas, 0, [], 0, []⟩) ∧ Below w.heap.size w w' := by
  refine (lnew_any ep wa ra pas w).mono ?_
  rintro x w1 ⟨rfl, ⟨bs, br, hx⟩, hb⟩
  exact ⟨rfl, ⟨bs, br, ⟨_, _, hx.lower hB⟩, hbel.trans (hb.mono hB), Nat.le_trans hB hb.size⟩, hb⟩
theorem tu_off (x : ByteArray) (hx : x.size ≤ 1000) (h : Tu B w0 w b bs br E) :
    Calls Tryd.prog 63 #[.pointer (some ⟨b, 0, none⟩), .string x] w fun e w' => e = .returned (.int .i64 E.offe) ∧ Tu B w0 w' b bs br (E.off x) ∧ OthL w w' := by
  obtain ⟨v, L, hl⟩ := h.ex
  refine (loff_any x hx w hl).mono ?_
  rintro e w1 ⟨rfl, v', hl', hf⟩
  exact ⟨rfl, ⟨⟨v', L, hl'⟩, hf.bel hl h.bel h.le, Nat.le_trans h.le hf.size⟩, OthL.of hl hf⟩
theorem tu_hear {f : Fra} (hx : f.2.2.2.size ≤ 1000) (hq : E.q + E.ps.length ≤ 1000000) (h : Tu B w0 w b bs br E) :
    Calls Tryd.prog 16 #[.pointer (some ⟨b, 0, none⟩), fv f] w fun e w' => e = .returned (.bool (E.anew f)) ∧ (∃ bs' br', Tu B w0 w' b bs' br' (E.hear f)) ∧ OthL w w' := by
  obtain ⟨v, L, hl⟩ := h.ex
  refine (lhear_any hx hq w hl).mono ?_
  rintro e w1 ⟨rfl, bs', v', br', L', hl', hf⟩
  exact ⟨rfl, ⟨bs', br', ⟨v', L', hl'⟩, hf.bel hl h.bel h.le, Nat.le_trans h.le hf.size⟩, OthL.of hl hf⟩
theorem tu_frames {n : Nat} {F : List Fra} (hF : E.frames = F) (hn : F.length = n) (h : Tu B w0 w b bs br E) :
    Calls Tryd.prog 23 #[.pointer (some ⟨b, 0, none⟩)] w fun e w' => ∃ a c, e = .returned (.slice a n c) ∧ RowF w.heap.size w' (.slice a n c) F ∧ Below w.heap.size w w' ∧ Tu B w0 w' b bs br E := by
  subst hF hn
  obtain ⟨v, L, hl⟩ := h.ex
  refine (lframes_any w hl).mono ?_
  rintro e w1 ⟨a, c, rfl, hr, hb⟩
  exact ⟨a, c, rfl, hr, hb, h.next hb⟩
end
/-- Two ends within a law that began in w0. -/
structure Tq (B : Nat) (w0 w : World) (b bs br : Nat) (E : En) (c cs cr : Nat) (F : En) : Prop where
  ex : ∃ v L u M, Lx B w b bs v br L E ∧ Lx B w c cs u cr M F ∧ ∀ j, ft b bs v br j → ¬ ft c cs u cr j
  bel : Below B w0 w
  le : B ≤ w.heap.size
section
variable {B : Nat} {w0 w w' : World} {b bs br c cs cr : Nat} {E F : En}
theorem Tq.swap (h : Tq B w0 w b bs br E c cs cr F) : Tq B w0 w c cs cr F b bs br E := by
  obtain ⟨v, L, u, M, h1, h2, h3⟩ := h.ex
  exact ⟨⟨u, M, v, L, h2, h1, fun j hj hk => h3 j hk hj⟩, h.bel, h.le⟩
theorem Tq.t1 (h : Tq B w0 w b bs br E c cs cr F) : Tu B w0 w b bs br E := by
  obtain ⟨v, L, u, M, h1, h2, h3⟩ := h.ex
  exact ⟨⟨v, L, h1⟩, h.bel, h.le⟩
theorem Tq.t2 (h : Tq B w0 w b bs br E c cs cr F) : Tu B w0 w c cs cr F := h.swap.t1
theorem Tq.next (h : Tq B w0 w b bs br E c cs cr F) (hb : Below w.heap.size w w') : Tq B w0 w' b bs br E c cs cr F := by
  obtain ⟨v, L, u, M, h1, h2, h3⟩ := h.ex
  exact ⟨⟨v, L, u, M, h1.next hb, h2.next hb, h3⟩, h.bel.trans (hb.mono h.le), Nat.le_trans h.le hb.size⟩
theorem Tq.asit (h : Tq B w0 w b bs br E c cs cr F) (e : w'.heap = w.heap) (e1 : w'.os = w.os) (e2 : w'.tape = w.tape) (e3 : w'.output = w.output) : Tq B w0 w' b bs br E c cs cr F := h.next (below_asit e e1 e2 e3)
theorem Tq.grown {row : Option Nat} (h : Tq B w0 w b bs br E c cs cr F) (hg : w.grownBy w' row) (hr : ∀ j, row = some j → B ≤ j ∧ ∃ cur t fr, w.heap[j]? = some (.cells cur t fr) ∧ t ≠ 73 ∧ t ≠ 125 ∧ t ≠ 96 ∧ t ≠ 128) : Tq B w0 w' b bs br E c cs cr F := by
  obtain ⟨v, L, u, M, hx, hy, h3⟩ := h.ex
  have no : ∀ {b bs : Nat} {v : Value} {br : Nat} {L : List ByteArray} {E : En}, Lx B w b bs v br L E → ∀ j, ft b bs v br j → w'.heap[j]? = w.heap[j]? := fun hx j hj => hg.block j (hx.ftlt j hj).2 (fun e => by
    obtain ⟨_, cur, t, fr, hc, h1, h2, h3, h4⟩ := hr j e.symm
    exact hx.other hc h1 h2 h3 h4 hj)
  exact ⟨⟨v, L, u, M, hx.same (no hx), hy.same (no hy), h3⟩, h.bel.grown hg h.le (fun j hj => (hr j hj).1), Nat.le_trans h.le hg.size⟩
/-- Both made, one behind the other. -/
theorem tq_new (ep wa ra : Int) (pas : Bool) (h : Tu B w0 w b bs br E) :
    Calls Tryd.prog 8 #[.int .i64 ep, .int .i64 wa, .int .i64 ra, .bool pas] w fun x w' => x = .returned (.pointer (some ⟨w.heap.size, 0, none⟩)) ∧ (∃ cs cr, Tq B w0 w' b bs br E w.heap.size cs cr ⟨clampE ep, wa, ra, pas, 0, [], 0, []⟩) ∧ Below w.heap.size w w' := by
  refine (lnew_any ep wa ra pas w).mono ?_
  rintro x w1 ⟨rfl, ⟨cs, cr, hx⟩, hb⟩
  obtain ⟨v, L, hl⟩ := h.ex
  refine ⟨rfl, ⟨cs, cr, ⟨v, L, _, _, hl.next hb, hx.lower h.le, fun j hj hk => ?_⟩, h.bel.trans (hb.mono h.le), Nat.le_trans h.le hb.size⟩, hb⟩
  have h1 := (hl.ftlt j hj).2
  have h2 := (hx.ftlt j hk).1
  omega
/-- What a call on the first leaves of both. -/
theorem Tq.on {bs' br' : Nat} {v v' u : Value} {L L' M : List ByteArray} {E' : En} (h1 : Lx B w b bs v br L E) (h2 : Lx B w c cs u cr M F) (h3 : ∀ j, ft b bs v br j → ¬ ft c cs u cr j) (hbel : Below B w0 w) (hB : B ≤ w.heap.size) (hl : Lx B w' b bs' v' br' L' E') (hf : Lf w w' (ft b bs v br) (ft b bs' v' br')) : Tq B w0 w' b bs' br' E' c cs cr F :=
  ⟨⟨v', L', u, M, hl, h2.same fun j hj => hf.block j (h2.ftlt j hj).2 (fun hk => h3 j hk hj), fun j hj hk => (hf.nw j hj).elim (fun hp => h3 j hp hk) (fun hs => by have := (h2.ftlt j hk).2; omega)⟩, hf.bel h1 hbel hB, Nat.le_trans hB hf.size⟩
theorem tq_off (x : ByteArray) (hx : x.size ≤ 1000) (h : Tq B w0 w b bs br E c cs cr F) :
    Calls Tryd.prog 63 #[.pointer (some ⟨b, 0, none⟩), .string x] w fun e w' => e = .returned (.int .i64 E.offe) ∧ Tq B w0 w' b bs br (E.off x) c cs cr F ∧ OthL w w' := by
  obtain ⟨v, L, u, M, h1, h2, h3⟩ := h.ex
  refine (loff_any x hx w h1).mono ?_
  rintro e w1 ⟨rfl, v', hl', hf⟩
  exact ⟨rfl, Tq.on h1 h2 h3 h.bel h.le hl' hf, OthL.of h1 hf⟩
theorem tq_hear {f : Fra} (hx : f.2.2.2.size ≤ 1000) (hq : E.q + E.ps.length ≤ 1000000) (h : Tq B w0 w b bs br E c cs cr F) :
    Calls Tryd.prog 16 #[.pointer (some ⟨b, 0, none⟩), fv f] w fun e w' => e = .returned (.bool (E.anew f)) ∧ (∃ bs' br', Tq B w0 w' b bs' br' (E.hear f) c cs cr F) ∧ OthL w w' := by
  obtain ⟨v, L, u, M, h1, h2, h3⟩ := h.ex
  refine (lhear_any hx hq w h1).mono ?_
  rintro e w1 ⟨rfl, bs', v', br', L', hl', hf⟩
  exact ⟨rfl, ⟨bs', br', Tq.on h1 h2 h3 h.bel h.le hl' hf⟩, OthL.of h1 hf⟩
theorem tq_frames {n : Nat} {G : List Fra} (hG : E.frames = G) (hn : G.length = n) (h : Tq B w0 w b bs br E c cs cr F) :
    Calls Tryd.prog 23 #[.pointer (some ⟨b, 0, none⟩)] w fun e w' => ∃ a x, e = .returned (.slice a n x) ∧ RowF w.heap.size w' (.slice a n x) G ∧ Below w.heap.size w w' ∧ Tq B w0 w' b bs br E c cs cr F := by
  refine (tu_frames hG hn h.t1).mono ?_
  rintro e w1 ⟨a, x, rfl, hr, hb, _⟩
  exact ⟨a, x, rfl, hr, hb, h.next hb⟩
end
end Go.Proofs.YtjmkdgjdemndaaaDoor.K
