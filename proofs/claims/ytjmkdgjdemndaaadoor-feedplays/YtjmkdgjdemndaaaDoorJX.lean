/- An end and the document's, side by side, within a law. -/
import Derived.Test.YtjmkdgjdemndaaaDoorJA
import Derived.Test.YtjmkdgjdemndaaaDoorJ7
import Derived.Test.YtjmkdgjdemndaaaDoorJ8
namespace Go.Proofs.YtjmkdgjdemndaaaDoor.K
open Go Go.RowKit
set_option maxRecDepth 20000
/-- Blocks of other types are left. -/
def OthP (w w' : World) : Prop := ∀ (X : Nat) (cur : Array Value) (t : TypeId) (fr : Nat × Nat), w.heap[X]? = some (.cells cur t fr) → t ≠ 73 → t ≠ 125 → t ≠ 96 → t ≠ 128 → t ≠ 82 → t ≠ 100 → t ≠ 102 → w'.heap[X]? = w.heap[X]?
theorem OthP.ofL {w w' : World} (h : OthL w w') : OthP w w' := fun X cur t fr hX h1 h2 h3 h4 _ _ _ => h X cur t fr hX h1 h2 h3 h4
theorem OthP.ofD {B : Nat} {w w' : World} {b bs : Nat} {v : Value} {br : Nat} {v2 : Value} {pre pre2 : List ByteArray} {E : En} {P' : Nat → Prop} (h : Dx B w b bs v br v2 pre pre2 E) (hf : Lf w w' (dft b bs br) P') : OthP w w' :=
  fun X _ _ _ hX _ _ _ _ h1 h2 h3 => hf.block X (Array.getElem?_eq_some_iff.1 hX).1 (h.other hX h1 h2 h3)
/-- The two stand side by side. -/
structure Tp (B : Nat) (w0 w : World) (b bs br : Nat) (E : En) (c cs cr : Nat) (F : En) : Prop where
  ex : ∃ v L u u2 pre pre2, Lx B w b bs v br L E ∧ Dx B w c cs u cr u2 pre pre2 F
  bel : Below B w0 w
  le : B ≤ w.heap.size
section
variable {B : Nat} {w0 w w' : World} {b bs br c cs cr : Nat} {E F : En}
theorem Lx.crossD {v u u2 : Value} {L pre pre2 : List ByteArray} {P' : Nat → Prop} (h : Lx B w b bs v br L E) (hd : Dx B w c cs u cr u2 pre pre2 F) (hf : Lf w w' (dft c cs cr) P') : Lx B w' b bs v br L E := h.same fun j hj => by
  obtain ⟨cur, t, fr, hc, ht⟩ := h.fty j hj
  refine hf.block j (h.ftlt j hj).2 (hd.other hc ?_ ?_ ?_) <;> (rcases ht with rfl | rfl | rfl | rfl <;> decide)
theorem Dx.crossL {v u u2 : Value} {L pre pre2 : List ByteArray} {P' : Nat → Prop} (hd : Dx B w c cs u cr u2 pre pre2 F) (h : Lx B w b bs v br L E) (hf : Lf w w' (ft b bs v br) P') : Dx B w' c cs u cr u2 pre pre2 F := hd.same fun j hj => by
  obtain ⟨cur, t, fr, hc, ht⟩ := hd.fty j hj
  refine hf.block j (hd.ftlt j hj).2 (h.other hc ?_ ?_ ?_ ?_) <;> (rcases ht with rfl | rfl | rfl | rfl <;> decide)
theorem Lf.belD {v u2 : Value} {pre pre2 : List ByteArray} {P' : Nat → Prop} (hf : Lf w w' (dft c cs cr) P') (hx : Dx B w c cs v cr u2 pre pre2 F) (hb : Below B w0 w) (hB : B ≤ w.heap.size) : Below B w0 w' :=
  ⟨hf.os.trans hb.os, hf.tape.trans hb.tape, hf.output.trans hb.output, Nat.le_trans hb.size hf.size, fun j hj => (hf.block j (by omega) (fun hp => by have := (hx.ftlt j (.inl hp)).1; omega)).trans (hb.block j hj)⟩
theorem Tp.tu (h : Tp B w0 w b bs br E c cs cr F) : Tu B w0 w b bs br E := by
  obtain ⟨v, L, u, u2, pre, pre2, h1, h2⟩ := h.ex
  exact ⟨⟨v, L, h1⟩, h.bel, h.le⟩
theorem Tp.next (h : Tp B w0 w b bs br E c cs cr F) (hb : Below w.heap.size w w') : Tp B w0 w' b bs br E c cs cr F := by
  obtain ⟨v, L, u, u2, pre, pre2, h1, h2⟩ := h.ex
  exact ⟨⟨v, L, u, u2, pre, pre2, h1.next hb, h2.next hb⟩, h.bel.trans (hb.mono h.le), Nat.le_trans h.le hb.size⟩
theorem Tp.asit (h : Tp B w0 w b bs br E c cs cr F) (e : w'.heap = w.heap) (e1 : w'.os = w.os) (e2 : w'.tape = w.tape) (e3 : w'.output = w.output) : Tp B w0 w' b bs br E c cs cr F := h.next (below_asit e e1 e2 e3)
theorem Tp.d0 (h : Tp B w0 w b bs br E c cs cr F) : w.cell? ⟨c, 0, none⟩ = some (.int .i64 F.ep) := by
  obtain ⟨v, L, u, u2, pre, pre2, h1, h2⟩ := h.ex
  exact h2.blk.c0
theorem Tp.d1 (h : Tp B w0 w b bs br E c cs cr F) : w.cell? ⟨c, 1, none⟩ = some (.pointer (some ⟨cs, 0, none⟩)) := by
  obtain ⟨v, L, u, u2, pre, pre2, h1, h2⟩ := h.ex
  exact h2.blk.c1
theorem Tp.d2 (h : Tp B w0 w b bs br E c cs cr F) : w.cell? ⟨c, 2, none⟩ = some (.pointer (some ⟨cr, 0, none⟩)) := by
  obtain ⟨v, L, u, u2, pre, pre2, h1, h2⟩ := h.ex
  exact h2.blk.c2
theorem tp_new (ep wa ra : Int) (pas : Bool) (h : Tu B w0 w b bs br E) :
    Calls Tryd.prog 11 #[.int .i64 ep, .int .i64 wa, .int .i64 ra, .bool pas] w fun x w' => x = .returned (.pointer (some ⟨w.heap.size, 0, none⟩)) ∧ (∃ cs cr, Tp B w0 w' b bs br E w.heap.size cs cr ⟨clampE ep, wa, ra, pas, 0, [], 0, []⟩) ∧ Below w.heap.size w w' := by
  refine (dlnew_any ep wa ra pas w).mono ?_
  rintro x w1 ⟨rfl, ⟨cs, cr, hx⟩, hb⟩
  obtain ⟨v, L, hl⟩ := h.ex
  exact ⟨rfl, ⟨cs, cr, ⟨v, L, _, _, _, _, hl.next hb, hx.lower h.le⟩, h.bel.trans (hb.mono h.le), Nat.le_trans h.le hb.size⟩, hb⟩
theorem tp_off (x : ByteArray) (hx : x.size ≤ 1000) {e : Int} (he : E.offe = e) (h : Tp B w0 w b bs br E c cs cr F) :
    Calls Tryd.prog 63 #[.pointer (some ⟨b, 0, none⟩), .string x] w fun r w' => r = .returned (.int .i64 e) ∧ Tp B w0 w' b bs br (E.off x) c cs cr F ∧ OthP w w' := by
  subst he
  obtain ⟨v, L, u, u2, pre, pre2, h1, h2⟩ := h.ex
  refine (loff_any x hx w h1).mono ?_
  rintro e w1 ⟨rfl, v', hl', hf⟩
  exact ⟨rfl, ⟨⟨v', L, u, u2, pre, pre2, hl', h2.crossL h1 hf⟩, hf.bel h1 h.bel h.le, Nat.le_trans h.le hf.size⟩, .ofL (OthL.of h1 hf)⟩
theorem tp_doff (x : ByteArray) (hx : x.size ≤ 1000) {e : Int} (he : F.offe = e) (hb : F.k + F.ds.length ≤ 10000) (h : Tp B w0 w b bs br E c cs cr F) :
    Calls Tryd.prog 37 #[.pointer (some ⟨cs, 0, none⟩), .string x] w fun r w' => (∃ n, r = .returned (.tuple #[.int .i64 n, .int .i64 e])) ∧ Tp B w0 w' b bs br E c cs cr (F.off x) ∧ OthP w w' := by
  subst he
  obtain ⟨v, L, u, u2, pre, pre2, h1, h2⟩ := h.ex
  have hk := h2.kk
  refine (doff_any x hx (by rw [hk]; exact hb) w h2.sn).mono ?_
  rintro e w1 ⟨rfl, v', hs, hg, _⟩
  obtain ⟨hd, hf⟩ := h2.onS hs hg
  rw [hk] at hd ⊢
  exact ⟨⟨_, rfl⟩, ⟨⟨v, L, v', u2, pre, pre2, h1.crossD h2 hf, hd⟩, hf.belD h2 h.bel h.le, Nat.le_trans h.le hf.size⟩, .ofD h2 hf⟩
theorem tp_hear {f : Fra} {E' : En} {an : Bool} (hE : E.hear f = E') (ha : E.anew f = an) (hx : f.2.2.2.size ≤ 1000) (hq : E.q + E.ps.length ≤ 1000000) (h : Tp B w0 w b bs br E c cs cr F) :
    Calls Tryd.prog 16 #[.pointer (some ⟨b, 0, none⟩), fv f] w fun e w' => e = .returned (.bool an) ∧ (∃ bs' br', Tp B w0 w' b bs' br' E' c cs cr F) ∧ OthP w w' := by
  subst hE ha
  obtain ⟨v, L, u, u2, pre, pre2, h1, h2⟩ := h.ex
  refine (lhear_any hx hq w h1).mono ?_
  rintro e w1 ⟨rfl, bs', v', br', L', hl', hf⟩
  exact ⟨rfl, ⟨bs', br', ⟨v', L', u, u2, pre, pre2, hl', h2.crossL h1 hf⟩, hf.bel h1 h.bel h.le, Nat.le_trans h.le hf.size⟩, .ofL (OthL.of h1 hf)⟩
theorem tp_dhear {f : Fra} {F' : En} {an : Bool} (hE : F.hear f = F') (ha : F.anew f = an) (hx : f.2.2.2.size ≤ 1000) (hq : F.q + F.ps.length ≤ 10000) (hok : okF f) (h : Tp B w0 w b bs br E c cs cr F) :
    Calls Tryd.prog 17 #[.pointer (some ⟨c, 0, none⟩), fv f] w fun e w' => e = .returned (.bool an) ∧ (∃ cs' cr', Tp B w0 w' b bs br E c cs' cr' F') ∧ OthP w w' := by
  subst hE ha
  obtain ⟨v, L, u, u2, pre, pre2, h1, h2⟩ := h.ex
  obtain ⟨k1, k2, k3, k4, _, _⟩ := hok
  have hqq := h2.qq
  refine (dlhear_any hx (by rw [hqq]; exact hq) k1 k2 k3 (by omega) w h2).mono ?_
  rintro e w1 ⟨rfl, bs', v', br', v2', pre', pre2', hd, hf⟩
  exact ⟨rfl, ⟨bs', br', ⟨v, L, v', v2', pre', pre2', h1.crossD h2 hf, hd⟩, hf.belD h2 h.bel h.le, Nat.le_trans h.le hf.size⟩, .ofD h2 hf⟩
theorem tp_frames {n : Nat} {G : List Fra} (hG : E.frames = G) (hn : G.length = n) (h : Tp B w0 w b bs br E c cs cr F) :
    Calls Tryd.prog 23 #[.pointer (some ⟨b, 0, none⟩)] w fun e w' => ∃ a x, e = .returned (.slice a n x) ∧ RowF w.heap.size w' (.slice a n x) G ∧ Below w.heap.size w w' ∧ Tp B w0 w' b bs br E c cs cr F := by
  refine (tu_frames hG hn h.tu).mono ?_
  rintro e w1 ⟨a, x, rfl, hr, hb, _⟩
  exact ⟨a, x, rfl, hr, hb, h.next hb⟩
theorem tp_dframes {n : Nat} {G : List Fra} (hG : F.frames = G) (hn : G.length = n) (hk : F.k ≤ 10000) (h : Tp B w0 w b bs br E c cs cr F) :
    Calls Tryd.prog 24 #[.pointer (some ⟨c, 0, none⟩)] w fun e w' => ∃ a x, e = .returned (.slice a n x) ∧ RowF w.heap.size w' (.slice a n x) G ∧ Below w.heap.size w w' ∧ Tp B w0 w' b bs br E c cs cr F := by
  subst hG hn
  obtain ⟨v, L, u, u2, pre, pre2, h1, h2⟩ := h.ex
  refine (dlframes_any (by rw [h2.kk]; exact hk) w h2).mono ?_
  rintro e w1 ⟨a, x, rfl, hr, hb⟩
  exact ⟨a, x, rfl, hr, hb, h.next hb⟩
theorem tp_left {n : Nat} (hn : F.ds.length = n) (hl : n ≤ 10000) (h : Tp B w0 w b bs br E c cs cr F) :
    Calls Tryd.prog 48 #[.pointer (some ⟨cs, 0, none⟩)] w fun e w' => ∃ a x, e = .returned (.slice a n x) ∧ Below w.heap.size w w' ∧ Tp B w0 w' b bs br E c cs cr F := by
  subst hn
  obtain ⟨v, L, u, u2, pre, pre2, h1, h2⟩ := h.ex
  refine (left_any hl w h2.sn).mono ?_
  rintro e w1 ⟨a, x, rfl, _, hb⟩
  exact ⟨a, x, rfl, hb, h.next hb⟩
end
theorem off_more (E : En) (x : ByteArray) : (E.off x).k + (E.off x).ds.length ≤ E.k + E.ds.length + 1 ∧ (E.off x).q + (E.off x).ps.length = E.q + E.ps.length := by
  refine ⟨?_, rfl⟩
  unfold En.off offD
  simp only
  split
  · omega
  · split
    · omega
    · simp; omega
theorem hear_more (E : En) (f : Fra) : (E.hear f).k + (E.hear f).ds.length ≤ E.k + E.ds.length := by
  unfold En.hear
  split
  · omega
  · split
    · unfold En.take En.fresh
      have := dackM_le 0 ([] : List ByteArray).length f.2.2.1
      simp only [List.length_nil, List.drop_nil] at *
      omega
    · unfold En.take
      have := dackM_le E.k E.ds.length f.2.2.1
      simp only [List.length_drop]
      omega
end Go.Proofs.YtjmkdgjdemndaaaDoor.K
