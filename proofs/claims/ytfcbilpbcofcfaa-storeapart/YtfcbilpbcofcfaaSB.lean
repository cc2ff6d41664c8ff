/- Two stores beside each other. -/
import Derived.Test.YtfcbilpbcofcfaaSK
namespace Go.Proofs.Ytfcbilpbcofcfaa
open Go Go.RowKit Go.Maps Go.Sort
theorem new_ex (w : World) : Calls Try.prog 8 #[] w fun e w' => ∃ b m, e = .returned (.pointer (some ⟨b, 0, none⟩)) ∧ w.heap.size ≤ b ∧ w.heap.size ≤ m ∧ St w' b m 0 f0 ∧ Below w.heap.size w w' :=
  (new_any w).mono fun _ _ ⟨he, h, hb, _⟩ => ⟨w.heap.size + 1, w.heap.size, he, by omega, Nat.le_refl _, h, hb⟩
theorem St.cross {w : World} {b m n f b' m' n' f'} (h : St w b m n f) (k : St w b' m' n' f') : b ≠ m' := by
  obtain ⟨hb, _⟩ := h
  obtain ⟨_, D, ⟨es, clock, hm, _⟩, _⟩ := k
  intro e; subst e; rw [hb] at hm; cases hm
theorem Ub.cross {w : World} {B u b m n f} (h : Ub w B u) (k : St w b m n f) : B ≠ m := by
  obtain ⟨_, D, ⟨es, clock, hm, _⟩, _⟩ := k
  intro e; subst e; unfold Ub at h; rw [h] at hm; cases hm
/-- Two stores, apart from each other and from what lies below B. -/
structure Tw (B : Nat) (w wr : World) (b m n : Nat) (f : Fn) (b' m' n' : Nat) (f' : Fn) : Prop where
  one : St wr b m n f
  two : St wr b' m' n' f'
  ne : m ≠ m'
  lo : B ≤ m
  lo' : B ≤ m'
  bel : Below B w wr
theorem Tw.below {B w wr w1 b m n f b' m' n' f'} (h : Tw B w wr b m n f b' m' n' f') (hb : Below wr.heap.size wr w1) : Tw B w w1 b m n f b' m' n' f' :=
  ⟨h.one.below hb, h.two.below hb, h.ne, h.lo, h.lo', h.bel.trans (hb.mono (by have := h.one.ltm; have := h.lo; omega))⟩
theorem Tw.alloc {B w wr b m n f b' m' n' f'} (h : Tw B w wr b m n f b' m' n' f') (o : Obj) : Tw B w (wr.alloc o) b m n f b' m' n' f' := h.below (Joins.below_alloc1 _ _)
theorem Tw.first {B w wr w1 b m n f b' m' n' f' n1 f1} (h : Tw B w wr b m n f b' m' n' f') (hs : St w1 b m n1 f1) (hg : wr.grownBy w1 (some m)) : Tw B w w1 b m n1 f1 b' m' n' f' :=
  ⟨hs, h.two.kept hg (fun e => h.two.cross h.one (by injection e)) (fun e => h.ne (by injection e with e; exact e.symm)), h.ne, h.lo, h.lo', bgrown h.bel hg (by have := h.one.ltm; have := h.lo; omega) h.lo⟩
theorem Tw.second {B w wr w1 b m n f b' m' n' f' n1 f1} (h : Tw B w wr b m n f b' m' n' f') (hs : St w1 b' m' n1 f1) (hg : wr.grownBy w1 (some m')) : Tw B w w1 b m n f b' m' n1 f1 :=
  ⟨h.one.kept hg (fun e => h.one.cross h.two (by injection e)) (fun e => h.ne (by injection e)), hs, h.ne, h.lo, h.lo', bgrown h.bel hg (by have := h.one.ltm; have := h.lo; omega) h.lo'⟩
theorem Ub.first {wr w1 : World} {B u b m n f} (h : Ub wr B u) (k : St wr b m n f) (hg : wr.grownBy w1 (some m)) : Ub w1 B u := (hg.block B h.lt (fun e => h.cross k (by injection e))).trans h
theorem Tw.mono {B w wr b m n f b' m' n' f'} (h : Tw B w wr b m n f b' m' n' f') {k k' : Nat} (h1 : n ≤ k) (h2 : n' ≤ k') : Tw B w wr b m k f b' m' k' f' := ⟨h.one.mono h1, h.two.mono h2, h.ne, h.lo, h.lo', h.bel⟩
theorem key_le {f : Fn} {ss : List Ky} (h : KeyL f ss) (hk : Kn f) {j : Nat} (hj : j < ss.length) : (ByteArray.mk (ss.getD j []).toArray).size ≤ 1000 := by
  have := hk _ ((h.2 _).1 (getD_mem hj))
  show (ss.getD j []).toArray.size ≤ 1000
  simpa using this
theorem isSs_cell {w : World} {g : Nat} {ss : List Ky} (h : IsSs w (some ⟨g, 0, none⟩) ss) {j : Nat} (hj : j < ss.length) : w.cell? ⟨g, j, none⟩ = some (.string ⟨(ss.getD j []).toArray⟩) := by
  obtain ⟨b, off, e, hl, hf⟩ := h.lies (by omega)
  injection e with e
  injection e with e1 e2
  subst e1 e2
  have := hf j hj
  rwa [Nat.zero_add] at this
end Go.Proofs.Ytfcbilpbcofcfaa
