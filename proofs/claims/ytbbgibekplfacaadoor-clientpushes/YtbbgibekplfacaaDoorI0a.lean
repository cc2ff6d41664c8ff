import Derived.Test.YtbbgibekplfacaaDoorU5
import Derived.Lib.Hide
import Derived.Laws.OwnMore
import Derived.Laws.AppendOwnNone
import Derived.Deep.RegionLawGrows
import Derived.Maps.AppendAt
import Derived.RegionTactic
import Derived.BigRegion
/- Updates, rounds, and rows of them, as they lie in memory; what May tells of them. -/
namespace Go.Proofs.YtbbgibekplfacaaDoor
open Go Go.RowKit
theorem Ub.setnew {w b u} (h : Ub w b u) {k : Nat} (hk : b ≠ k) (i : Nat) (v : Value) : Ub (w.setCell ⟨k, i, none⟩ v) b u := (Below.heap_setCell _ _ _ _ hk).trans h
theorem Ub.new (w : World) (u : Up) : Ub (w.alloc (.cells #[.string u.1, .int .i64 u.2.1, .int .i64 u.2.2.1, .string u.2.2.2] 32)) w.heap.size u := heap_alloc_new _ _
theorem Ub.set0 {w b u} (h : Ub w b u) (s : ByteArray) : Ub (w.setCell ⟨b, 0, none⟩ (.string s)) b (s, u.2) := by
  unfold Ub at *; simp [World.setCell, Array.getElem?_modify, h]
theorem Ub.set1 {w b u} (h : Ub w b u) (k : Int) : Ub (w.setCell ⟨b, 1, none⟩ (.int .i64 k)) b (u.1, k, u.2.2) := by
  unfold Ub at *; simp [World.setCell, Array.getElem?_modify, h]
theorem Ub.set2 {w b u} (h : Ub w b u) (k : Int) : Ub (w.setCell ⟨b, 2, none⟩ (.int .i64 k)) b (u.1, u.2.1, k, u.2.2.2) := by
  unfold Ub at *; simp [World.setCell, Array.getElem?_modify, h]
theorem Ub.set3 {w b u} (h : Ub w b u) (s : ByteArray) : Ub (w.setCell ⟨b, 3, none⟩ (.string s)) b (u.1, u.2.1, u.2.2.1, s) := by
  unfold Ub at *; simp [World.setCell, Array.getElem?_modify, h]
theorem new_at {W : World} {o : Obj} {n : Nat} (h : W.heap.size = n) : (W.alloc o).heap[n]? = some o := h ▸ heap_alloc_new W o
theorem cell_at {w : World} {b : Nat} {xs : Array Value} {t : TypeId} (h : w.heap[b]? = some (.cells xs t (0, 0))) (i : Nat) (v : Value) (hv : xs[i]? = some v) : w.cell? ⟨b, i, none⟩ = some v := by simp [World.cell?, h, hv]
theorem four {w : World} {b off : Nat} {us : List Up} (h : ∀ i, i < us.length → w.cell? ⟨b, off + i * 4, none⟩ = some (.string (us.getD i up0).1) ∧ w.cell? ⟨b, off + i * 4 + 1, none⟩ = some (.int .i64 (us.getD i up0).2.1) ∧ w.cell? ⟨b, off + i * 4 + 2, none⟩ = some (.int .i64 (us.getD i up0).2.2.1) ∧ w.cell? ⟨b, off + i * 4 + 3, none⟩ = some (.string (us.getD i up0).2.2.2)) : Us w b off us :=
  ⟨fun i hi => (h i hi).1, fun i hi => (h i hi).2.1, fun i hi => (h i hi).2.2.1, fun i hi => (h i hi).2.2.2⟩
theorem Below.next {w w1 w2 : World} (h : Below w.heap.size w w1) (hb : Below w1.heap.size w1 w2) : Below w.heap.size w w2 := h.trans (hb.mono h.size)
theorem Below.far {w w1 W w2 : World} (hb : Below W.heap.size W w2) (h : Below w.heap.size w w1) (e1 : W.os = w1.os) (e2 : W.tape = w1.tape) (e3 : W.output = w1.output) (e4 : W.heap = w1.heap) : Below w.heap.size w w2 := Below.next (w1 := W) ⟨e1.trans h.os, e2.trans h.tape, e3.trans h.output, by rw [e4]; exact h.size, fun k hk => by rw [e4]; exact h.block k hk⟩ hb
theorem utake_step (us : List Up) (k : Nat) (h : k < us.length) : us.take (k + 1) = us.take k ++ [us.getD k up0] := by
  rw [List.take_add_one, List.getElem?_eq_getElem h, List.getD_eq_getElem?_getD, List.getElem?_eq_getElem h]
  rfl
theorem Below.step {w w1 w2 : World} (h : Below w.heap.size w w1) (o : Obj) (hb : Below (w1.alloc o).heap.size (w1.alloc o) w2) : Below w.heap.size w w2 := Below.next (h.alloc h.size o) hb
theorem below_set3 {w w1 : World} {b : Nat} (h : Below w.heap.size w w1) (hb : w.heap.size ≤ b) (v0 v1 v2 : Value) : Below w.heap.size w (((w1.setCell ⟨b, 0, none⟩ v0).setCell ⟨b, 1, none⟩ v1).setCell ⟨b, 2, none⟩ v2) := ((h.setCell hb _).setCell hb _).setCell hb _
/-- A round: its origin, its number, where its updates lie, and its updates. -/
structure Rn where
  o : Int
  n : Int
  a : Option Addr
  len : Nat
  cap : Nat
  us : List Up
def rn0 : Rn := ⟨0, 0, none, 0, 0, []⟩
def rv (r : Rn) : Value := .agg #[.int .i64 r.o, .int .i64 r.n, .slice r.a r.len r.cap]
theorem take_snoc (rs : List Rn) (k : Nat) (h : k < rs.length) : rs.take (k + 1) = rs.take k ++ [rs.getD k rn0] := by
  rw [List.take_add_one]; simp [List.getD_eq_getElem?_getD, h]
theorem rn_mem {rs : List Rn} {k : Nat} (h : k < rs.length) : rs.getD k rn0 ∈ rs := by
  have e : rs.getD k rn0 = rs[k] := by simp [List.getD_eq_getElem?_getD, h]
  rw [e]; exact List.getElem_mem _
set_option maxRecDepth 20000
/-- A round lies in block b. -/
def Rb (w : World) (b : Nat) (o n : Int) (a : Option Addr) (len cap : Nat) : Prop := w.heap[b]? = some (.cells #[.int .i64 o, .int .i64 n, .slice a len cap] 35 (0, 0))
section
variable {w w' : World} {b : Nat} {o n : Int} {a : Option Addr} {len cap : Nat}
theorem Rb.c0 (h : Rb w b o n a len cap) : w.cell? ⟨b, 0, none⟩ = some (.int .i64 o) := by unfold Rb at h; simp [World.cell?, h]
theorem Rb.c1 (h : Rb w b o n a len cap) : w.cell? ⟨b, 1, none⟩ = some (.int .i64 n) := by unfold Rb at h; simp [World.cell?, h]
theorem Rb.c2 (h : Rb w b o n a len cap) : w.cell? ⟨b, 2, none⟩ = some (.slice a len cap) := by unfold Rb at h; simp [World.cell?, h]
theorem Rb.f0 (h : Rb w b o n a len cap) (i : Nat) : w.frozen? ⟨b, i, none⟩ = false := by unfold Rb at h; simp [World.frozen?, h]
theorem Rb.lt (h : Rb w b o n a len cap) : b < w.heap.size := (Array.getElem?_eq_some_iff.1 h).1
theorem Rb.below {B : Nat} (h : Rb w b o n a len cap) (hb : Below B w w') (hl : b < B) : Rb w' b o n a len cap := (hb.block b hl).trans h
theorem Rb.next (h : Rb w b o n a len cap) (hb : Below w.heap.size w w') : Rb w' b o n a len cap := h.below hb h.lt
theorem Rb.alloc (h : Rb w b o n a len cap) (x : Obj) : Rb (w.alloc x) b o n a len cap := (Below.heap_alloc _ _ _ h.lt).trans h
theorem Rb.kept {row : Option Nat} (h : Rb w b o n a len cap) (hg : w.grownBy w' row) (hne : some b ≠ row) : Rb w' b o n a len cap := (hg.block b h.lt hne).trans h
theorem Rb.setnew (h : Rb w b o n a len cap) {k : Nat} (hk : b ≠ k) (i : Nat) (v : Value) : Rb (w.setCell ⟨k, i, none⟩ v) b o n a len cap := (Below.heap_setCell _ _ _ _ hk).trans h
theorem Rb.new (w : World) (o n : Int) (a : Option Addr) (len cap : Nat) : Rb (w.alloc (.cells #[.int .i64 o, .int .i64 n, .slice a len cap] 35)) w.heap.size o n a len cap := heap_alloc_new _ _
theorem Rb.set0 (h : Rb w b o n a len cap) (x : Int) : Rb (w.setCell ⟨b, 0, none⟩ (.int .i64 x)) b x n a len cap := by
  unfold Rb at *; simp [World.setCell, Array.getElem?_modify, h]
theorem Rb.set1 (h : Rb w b o n a len cap) (x : Int) : Rb (w.setCell ⟨b, 1, none⟩ (.int .i64 x)) b o x a len cap := by
  unfold Rb at *; simp [World.setCell, Array.getElem?_modify, h]
theorem Rb.set2 (h : Rb w b o n a len cap) (a' : Option Addr) (len' cap' : Nat) : Rb (w.setCell ⟨b, 2, none⟩ (.slice a' len' cap')) b o n a' len' cap' := by
  unfold Rb at *; simp [World.setCell, Array.getElem?_modify, h]
end
/-- From the place off of block b on lie these rounds. -/
structure Rs (w : World) (b off : Nat) (rs : List Rn) : Prop where
  o : ∀ i, i < rs.length → w.cell? ⟨b, off + i * 3, none⟩ = some (.int .i64 (rs.getD i rn0).o)
  n : ∀ i, i < rs.length → w.cell? ⟨b, off + i * 3 + 1, none⟩ = some (.int .i64 (rs.getD i rn0).n)
  u : ∀ i, i < rs.length → w.cell? ⟨b, off + i * 3 + 2, none⟩ = some (.slice (rs.getD i rn0).a (rs.getD i rn0).len (rs.getD i rn0).cap)
theorem Rs.lt {w b off rs} (h : Rs w b off rs) (h0 : 0 < rs.length) : b < w.heap.size := block_lt_of_cell (h.o 0 h0)
theorem Rs.below {w w' : World} {B b off : Nat} {rs : List Rn} (hf : Rs w b off rs) (hb : Below B w w') (hl : b < B) : Rs w' b off rs :=
  ⟨fun i hi => (hb.cell hl).trans (hf.o i hi), fun i hi => (hb.cell hl).trans (hf.n i hi), fun i hi => (hb.cell hl).trans (hf.u i hi)⟩
theorem three {w : World} {b off : Nat} {rs : List Rn} (h : ∀ i, i < rs.length → w.cell? ⟨b, off + i * 3, none⟩ = some (.int .i64 (rs.getD i rn0).o) ∧ w.cell? ⟨b, off + i * 3 + 1, none⟩ = some (.int .i64 (rs.getD i rn0).n) ∧ w.cell? ⟨b, off + i * 3 + 2, none⟩ = some (.slice (rs.getD i rn0).a (rs.getD i rn0).len (rs.getD i rn0).cap)) : Rs w b off rs :=
  ⟨fun i hi => (h i hi).1, fun i hi => (h i hi).2.1, fun i hi => (h i hi).2.2⟩
/-- A round's updates lie there. -/
def Ru (w : World) (r : Rn) : Prop := IsUs w r.a r.len r.us ∧ r.len ≤ r.cap ∧ (r.a = none → r.cap = 0)
theorem Ru.below {w w' : World} {B : Nat} {r : Rn} (h : Ru w r) (hb : Below B w w') (hB : w.heap.size ≤ B := by exact Nat.le_refl _) : Ru w' r := ⟨isUs_below h.1 hb hB, h.2⟩
/-- What the walk is told of rounds. -/
structure IsRs (w : World) (a : Option Addr) (len : Nat) (rs : List Rn) : Prop where
  size : rs.length = len
  lies : 0 < len → ∃ b off, a = some ⟨b, off, none⟩ ∧ Rs w b off rs
  each : ∀ r ∈ rs, Ru w r
theorem isRs_below {w w' : World} {B : Nat} {a : Option Addr} {len : Nat} {rs : List Rn} (h : IsRs w a len rs) (hb : Below B w w') (hB : w.heap.size ≤ B := by exact Nat.le_refl _) : IsRs w' a len rs :=
  ⟨h.size, fun h0 => by
    obtain ⟨b, off, e, hf⟩ := h.lies h0
    have hl := hf.lt (by rw [h.size]; exact h0)
    exact ⟨b, off, e, hf.below hb (by omega)⟩, fun r hr => (h.each r hr).below hb hB⟩
theorem isRs_nil (w : World) : IsRs w none 0 [] := ⟨rfl, fun h => absurd h (Nat.lt_irrefl _), fun r hr => (by cases hr)⟩
theorem isUs_nil (w : World) : IsUs w none 0 [] := ⟨rfl, fun h => absurd h (Nat.lt_irrefl _)⟩
theorem rcells_of {w wr : World} {a : Option Addr} {len : Nat} {rs : List Rn} {k : Nat} (h : IsRs w a len rs) (hb : Below w.heap.size w wr) (hk : k < len) :
    ∃ b off, a = some ⟨b, off, none⟩ ∧ wr.cell? ⟨b, off + k * 3, none⟩ = some (.int .i64 (rs.getD k rn0).o) ∧ wr.cell? ⟨b, off + k * 3 + 1, none⟩ = some (.int .i64 (rs.getD k rn0).n) ∧ wr.cell? ⟨b, off + k * 3 + 2, none⟩ = some (.slice (rs.getD k rn0).a (rs.getD k rn0).len (rs.getD k rn0).cap) ∧ Ru w (rs.getD k rn0) := by
  have hI := isRs_below h hb
  have hl := h.size
  obtain ⟨b, off, rfl, hf⟩ := hI.lies (by omega)
  exact ⟨b, off, rfl, hf.o k (by omega), hf.n k (by omega), hf.u k (by omega), h.each _ (rn_mem (by omega))⟩
theorem cells4 {w wr : World} {a : Option Addr} {len : Nat} {us : List Up} {k : Nat} (h : IsUs w a len us) (hb : Below w.heap.size w wr) (hk : k < len) :
    ∃ b off, a = some ⟨b, off, none⟩ ∧ wr.cell? ⟨b, off + k * 4, none⟩ = some (.string (us.getD k up0).1) ∧ wr.cell? ⟨b, off + k * 4 + 1, none⟩ = some (.int .i64 (us.getD k up0).2.1) ∧ wr.cell? ⟨b, off + k * 4 + 2, none⟩ = some (.int .i64 (us.getD k up0).2.2.1) ∧ wr.cell? ⟨b, off + k * 4 + 3, none⟩ = some (.string (us.getD k up0).2.2.2) := by
  have hI := isUs_below h hb
  have hl := h.size
  obtain ⟨b, off, rfl, hf⟩ := hI.lies (by omega)
  exact ⟨b, off, rfl, hf.key k (by omega), hf.k k (by omega), hf.n k (by omega), hf.t k (by omega)⟩
theorem take_all {us : List Up} {len : Nat} (h : us.length = len) : us.take len = us := List.take_of_length_le (by omega)
theorem takeR_all {rs : List Rn} {len : Nat} (h : rs.length = len) : rs.take len = rs := List.take_of_length_le (by omega)
/-- The cells of the row's next update. -/
theorem cells_of {w wr : World} {a : Option Addr} {len k : Nat} {us : List Up} (h : IsUs w a len us) (hb : Below w.heap.size w wr) (hk : k < len) : ∃ b off, a = some ⟨b, off, none⟩ ∧ b < w.heap.size ∧ wr.cell? ⟨b, off + k * 4, none⟩ = some (.string (us.getD k up0).1) ∧ wr.cell? ⟨b, off + k * 4 + 1, none⟩ = some (.int .i64 (us.getD k up0).2.1) ∧ wr.cell? ⟨b, off + k * 4 + 2, none⟩ = some (.int .i64 (us.getD k up0).2.2.1) ∧ wr.cell? ⟨b, off + k * 4 + 3, none⟩ = some (.string (us.getD k up0).2.2.2) := by
  obtain ⟨b, off, rfl, hf⟩ := h.lies (by omega)
  have hs := h.size
  have hl := hf.lt (by omega)
  exact ⟨b, off, rfl, hl, (hb.cell hl).trans (hf.key k (by omega)), (hb.cell hl).trans (hf.k k (by omega)), (hb.cell hl).trans (hf.n k (by omega)), (hb.cell hl).trans (hf.t k (by omega))⟩
set_option maxRecDepth 20000
theorem belN {B : Nat} {w w' : World} (h : Below B w w') (n : Nat) : Below B w (w'.drewN n) := ⟨h.os, h.tape, h.output, h.size, h.block⟩
theorem Rb.drewN {w : World} {b : Nat} {o n : Int} {a : Option Addr} {len cap : Nat} (h : Rb w b o n a len cap) (k : Nat) : Rb (w.drewN k) b o n a len cap := h
theorem two_rounds (w : World) (o1 n1 : Int) (a1 : Option Addr) (l1 c1 : Nat) (o2 n2 : Int) (a2 : Option Addr) (l2 c2 : Nat) :
    Rb ((w.alloc (.cells #[.int .i64 o1, .int .i64 n1, .slice a1 l1 c1] 35)).alloc (.cells #[.int .i64 o2, .int .i64 n2, .slice a2 l2 c2] 35)) w.heap.size o1 n1 a1 l1 c1 ∧
    Rb ((w.alloc (.cells #[.int .i64 o1, .int .i64 n1, .slice a1 l1 c1] 35)).alloc (.cells #[.int .i64 o2, .int .i64 n2, .slice a2 l2 c2] 35)) (w.heap.size + 1) o2 n2 a2 l2 c2 := by
  refine ⟨(Rb.new w o1 n1 a1 l1 c1).alloc _, ?_⟩
  have h := Rb.new (w.alloc (.cells #[.int .i64 o1, .int .i64 n1, .slice a1 l1 c1] 35)) o2 n2 a2 l2 c2
  rw [show (w.alloc (.cells #[.int .i64 o1, .int .i64 n1, .slice a1 l1 c1] 35)).heap.size = w.heap.size + 1 by simp] at h
  exact h
set_option maxRecDepth 20000
/-- The cells of updates, one behind the other. -/
def cellsU4 (u : Up) : List Value := [.string u.1, .int .i64 u.2.1, .int .i64 u.2.2.1, .string u.2.2.2]
def flU (us : List Up) : List Value := us.flatMap cellsU4
theorem flU_snoc (us : List Up) (u : Up) : flU (us ++ [u]) = flU us ++ cellsU4 u := by simp [flU]
theorem flU_len (us : List Up) : (flU us).length = us.length * 4 := by
  induction us with
  | nil => rfl
  | cons u l ih =>
    have e : flU (u :: l) = cellsU4 u ++ flU l := rfl
    have hl : (cellsU4 u).length = 4 := rfl
    rw [e, List.length_append, ih, hl, List.length_cons]
    omega
theorem flU_get : ∀ (us : List Up) (i r : Nat), i < us.length → r < 4 → (flU us)[i * 4 + r]? = (cellsU4 (us.getD i up0))[r]?
  | [], i, r, h, _ => absurd h (by simp)
  | u :: us, 0, r, _, hr => by
    have e : flU (u :: us) = cellsU4 u ++ flU us := rfl
    rw [e, Nat.zero_mul, Nat.zero_add, List.getElem?_append_left (by show r < 4; exact hr)]
    rfl
  | u :: us, i + 1, r, h, hr => by
    have e : flU (u :: us) = cellsU4 u ++ flU us := rfl
    have hl : (cellsU4 u).length = 4 := rfl
    rw [e, List.getElem?_append_right (by rw [hl]; omega), hl, show (i + 1) * 4 + r - 4 = i * 4 + r by omega, flU_get us i r (by simpa using h) hr]
    rfl
/-- Two lists of updates are one if their cells are. -/
theorem flU_at (us : List Up) (j : Nat) (h : j < us.length * 4) : (flU us)[j]? = (cellsU4 (us.getD (j / 4) up0))[j % 4]? := by
  have := flU_get us (j / 4) (j % 4) (by omega) (by omega)
  rw [show j / 4 * 4 + j % 4 = j by omega] at this
  exact this
/-- The cells of rounds, one behind the other. -/
def cellsR3 (u : Rn) : List Value := [.int .i64 u.o, .int .i64 u.n, .slice u.a u.len u.cap]
def flR (us : List Rn) : List Value := us.flatMap cellsR3
theorem flR_snoc (us : List Rn) (u : Rn) : flR (us ++ [u]) = flR us ++ cellsR3 u := by simp [flR]
theorem flR_len (us : List Rn) : (flR us).length = us.length * 3 := by
  induction us with
  | nil => rfl
  | cons u l ih =>
    have e : flR (u :: l) = cellsR3 u ++ flR l := rfl
    have hl : (cellsR3 u).length = 3 := rfl
    rw [e, List.length_append, ih, hl, List.length_cons]
    omega
theorem flR_get : ∀ (us : List Rn) (i r : Nat), i < us.length → r < 3 → (flR us)[i * 3 + r]? = (cellsR3 (us.getD i rn0))[r]?
  | [], i, r, h, _ => absurd h (by simp)
  | u :: us, 0, r, _, hr => by
    have e : flR (u :: us) = cellsR3 u ++ flR us := rfl
    rw [e, Nat.zero_mul, Nat.zero_add, List.getElem?_append_left (by show r < 3; exact hr)]
    rfl
  | u :: us, i + 1, r, h, hr => by
    have e : flR (u :: us) = cellsR3 u ++ flR us := rfl
    have hl : (cellsR3 u).length = 3 := rfl
    rw [e, List.getElem?_append_right (by rw [hl]; omega), hl, show (i + 1) * 3 + r - 3 = i * 3 + r by omega, flR_get us i r (by simpa using h) hr]
    rfl
/-- Two lists of rounds are one if their cells are. -/
theorem flR_at (us : List Rn) (j : Nat) (h : j < us.length * 3) : (flR us)[j]? = (cellsR3 (us.getD (j / 3) rn0))[j % 3]? := by
  have := flR_get us (j / 3) (j % 3) (by omega) (by omega)
  rw [show j / 3 * 3 + j % 3 = j by omega] at this
  exact this
theorem flU_app (us vs : List Up) : flU (us ++ vs) = flU us ++ flU vs := by simp [flU]
theorem flR_app (us vs : List Rn) : flR (us ++ vs) = flR us ++ flR vs := by simp [flR]
theorem flU_one (us : List Up) : ∀ v ∈ flU us, v.oneCell' = true := by
  intro v hv
  simp only [flU, List.mem_flatMap] at hv
  obtain ⟨u, _, hu⟩ := hv
  simp only [cellsU4, List.mem_cons, List.not_mem_nil, or_false] at hu
  rcases hu with rfl | rfl | rfl | rfl <;> rfl
theorem flR_one (us : List Rn) : ∀ v ∈ flR us, v.oneCell' = true := by
  intro v hv
  simp only [flR, List.mem_flatMap] at hv
  obtain ⟨u, _, hu⟩ := hv
  simp only [cellsR3, List.mem_cons, List.not_mem_nil, or_false] at hu
  rcases hu with rfl | rfl | rfl <;> rfl
/-- The cells of rounds lie there. -/
structure RsAt (w : World) (a : Option Addr) (len : Nat) (rs : List Rn) : Prop where
  size : rs.length = len
  lies : 0 < len → ∃ b off, a = some ⟨b, off, none⟩ ∧ Rs w b off rs
theorem IsRs.at {w : World} {a : Option Addr} {len : Nat} {rs : List Rn} (h : IsRs w a len rs) : RsAt w a len rs := ⟨h.size, h.lies⟩
theorem rsAt_below {w w' : World} {B : Nat} {a : Option Addr} {len : Nat} {rs : List Rn} (h : RsAt w a len rs) (hb : Below B w w') (hB : w.heap.size ≤ B := by exact Nat.le_refl _) : RsAt w' a len rs :=
  ⟨h.size, fun h0 => by
    obtain ⟨b, off, e, hf⟩ := h.lies h0
    have hl := hf.lt (by rw [h.size]; exact h0)
    exact ⟨b, off, e, hf.below hb (by omega)⟩⟩
theorem isUs_news {w : World} {ad : Addr} {len : Nat} {us : List Up} (h : IsUs w (some ad) len us) : ∀ j v, (flU us)[j]? = some v → w.cell? (ad.add j) = some v := by
  intro j v hj
  have hs := h.size
  have hjl : j < us.length * 4 := by
    have := (List.getElem?_eq_some_iff.1 hj).1
    rw [flU_len] at this
    exact this
  obtain ⟨b, off, e, hf⟩ := h.lies (by omega)
  simp only [Option.some.injEq] at e
  subst e
  rw [flU_at us j hjl] at hj
  have ea : (⟨b, off, none⟩ : Addr).add j = ⟨b, off + j / 4 * 4 + j % 4, none⟩ := by rw [Go.WideShapes.add_plain]; congr 1; omega
  rw [ea]
  have hi : j / 4 < us.length := by omega
  rcases (show j % 4 = 0 ∨ j % 4 = 1 ∨ j % 4 = 2 ∨ j % 4 = 3 by omega) with h0 | h0 | h0 | h0
  · rw [h0] at hj ⊢; rw [← hj]; exact hf.key _ hi
  · rw [h0] at hj ⊢; rw [← hj]; exact hf.k _ hi
  · rw [h0] at hj ⊢; rw [← hj]; exact hf.n _ hi
  · rw [h0] at hj ⊢; rw [← hj]; exact hf.t _ hi
theorem rsAt_news {w : World} {ad : Addr} {len : Nat} {us : List Rn} (h : RsAt w (some ad) len us) : ∀ j v, (flR us)[j]? = some v → w.cell? (ad.add j) = some v := by
  intro j v hj
  have hs := h.size
  have hjl : j < us.length * 3 := by
    have := (List.getElem?_eq_some_iff.1 hj).1
    rw [flR_len] at this
    exact this
  obtain ⟨b, off, e, hf⟩ := h.lies (by omega)
  simp only [Option.some.injEq] at e
  subst e
  rw [flR_at us j hjl] at hj
  have ea : (⟨b, off, none⟩ : Addr).add j = ⟨b, off + j / 3 * 3 + j % 3, none⟩ := by rw [Go.WideShapes.add_plain]; congr 1; omega
  rw [ea]
  have hi : j / 3 < us.length := by omega
  rcases (show j % 3 = 0 ∨ j % 3 = 1 ∨ j % 3 = 2 by omega) with h0 | h0 | h0
  · rw [h0] at hj ⊢; rw [← hj]; exact hf.o _ hi
  · rw [h0] at hj ⊢; rw [← hj]; exact hf.n _ hi
  · rw [h0] at hj ⊢; rw [← hj]; exact hf.u _ hi
/-- A row of updates of the call's own. -/
def RowU (B : Nat) (w : World) (v : Value) (l : List Up) : Prop := w.ownsRow B 32 4 v l.length (flU l)
/-- A row of rounds of the call's own. -/
def RowR (B : Nat) (w : World) (v : Value) (l : List Rn) : Prop := w.ownsRow B 35 3 v l.length (flR l)
theorem RowU.is {B w v l} (h : RowU B w v l) : ∃ a c, v = .slice a l.length c ∧ IsUs w a l.length l ∧ l.length ≤ c ∧ (a = none → c = 0) := by
  rcases h.2 with ⟨rfl, h0⟩ | ⟨g, cap, cur, rfl, _, _, hc, _⟩
  · rw [h0]; exact ⟨none, 0, rfl, ⟨h0, fun hx => absurd hx (Nat.lt_irrefl _)⟩, Nat.le_refl _, fun _ => rfl⟩
  · refine ⟨some ⟨g, 0, none⟩, cap, rfl, ⟨rfl, fun _ => ⟨g, 0, rfl, four fun i hi => ?_⟩⟩, hc, fun e => by cases e⟩
    have hc : ∀ r, r < 4 → w.cell? ⟨g, 0 + i * 4 + r, none⟩ = (cellsU4 (l.getD i up0))[r]? := fun r hr => by
      rw [Nat.zero_add, World.ownsRow.cellAt h (i * 4 + r) (by omega), flU_get l i r hi hr]
    exact ⟨hc 0 (by omega), hc 1 (by omega), hc 2 (by omega), hc 3 (by omega)⟩
theorem RowR.is {B w v l} (h : RowR B w v l) : ∃ a c, v = .slice a l.length c ∧ RsAt w a l.length l ∧ l.length ≤ c ∧ (a = none → c = 0) := by
  rcases h.2 with ⟨rfl, h0⟩ | ⟨g, cap, cur, rfl, _, _, hc, _⟩
  · rw [h0]; exact ⟨none, 0, rfl, ⟨h0, fun hx => absurd hx (Nat.lt_irrefl _)⟩, Nat.le_refl _, fun _ => rfl⟩
  · refine ⟨some ⟨g, 0, none⟩, cap, rfl, ⟨rfl, fun _ => ⟨g, 0, rfl, three fun i hi => ?_⟩⟩, hc, fun e => by cases e⟩
    have hc : ∀ r, r < 3 → w.cell? ⟨g, 0 + i * 3 + r, none⟩ = (cellsR3 (l.getD i rn0))[r]? := fun r hr => by
      rw [Nat.zero_add, World.ownsRow.cellAt h (i * 3 + r) (by omega), flR_get l i r hi hr]
    exact ⟨hc 0 (by omega), hc 1 (by omega), hc 2 (by omega)⟩
theorem RowU.isU {B w a n c l} (h : RowU B w (.slice a n c) l) (hn : n = l.length) : IsUs w a n l ∧ n ≤ c ∧ (a = none → c = 0) := by
  subst hn
  obtain ⟨a', c', e, hi, h1, h2⟩ := h.is
  cases e
  exact ⟨hi, h1, h2⟩
theorem RowR.isR {B w a n c l} (h : RowR B w (.slice a n c) l) (hn : n = l.length) (he : ∀ r ∈ l, Ru w r) : IsRs w a n l ∧ n ≤ c ∧ (a = none → c = 0) := by
  subst hn
  obtain ⟨a', c', e, hi, h1, h2⟩ := h.is
  cases e
  exact ⟨⟨hi.size, hi.lies, he⟩, h1, h2⟩
theorem RowU.kept {B w w1 v l} (h : RowU B w v l) {row : Option Nat} (hg : w.grownBy w1 row) (hne : v.ownBlock = none ∨ v.ownBlock ≠ row) : RowU B w1 v l := World.ownsRow.kept h hg hne
theorem RowR.kept {B w w1 v l} (h : RowR B w v l) {row : Option Nat} (hg : w.grownBy w1 row) (hne : v.ownBlock = none ∨ v.ownBlock ≠ row) : RowR B w1 v l := World.ownsRow.kept h hg hne
theorem grownOf {a b : World} (row : Option Nat) (h : Below a.heap.size a b) : a.grownBy b row := ⟨h.os, h.tape, h.output, h.size, fun j hj _ => h.block j hj⟩
theorem RowU.below {B w w1 v l} (h : RowU B w v l) (hb : Below w.heap.size w w1) : RowU B w1 v l := h.kept (grownOf none hb) (Classical.em _)
theorem RowR.below {B w w1 v l} (h : RowR B w v l) (hb : Below w.heap.size w w1) : RowR B w1 v l := h.kept (grownOf none hb) (Classical.em _)
theorem RowU.alloc {B w v l} (h : RowU B w v l) (o : Obj) : RowU B (w.alloc o) v l := World.ownsRow.alloc h o
theorem RowR.alloc {B w v l} (h : RowR B w v l) (o : Obj) : RowR B (w.alloc o) v l := World.ownsRow.alloc h o
theorem rowU_new (w : World) : RowU w.heap.size (w.alloc (.cells #[] 32)) (.slice (some ⟨w.heap.size, 0, none⟩) 0 0) [] := World.ownsRow_lit w #[] 0 (Nat.le_refl _) (Nat.zero_le _) rfl
theorem rowR_new (w : World) : RowR w.heap.size (w.alloc (.cells #[] 35)) (.slice (some ⟨w.heap.size, 0, none⟩) 0 0) [] := World.ownsRow_lit w #[] 0 (Nat.le_refl _) (Nat.zero_le _) rfl
theorem rowR_nil (B : Nat) (w : World) : RowR B w (.slice none 0 0) [] := World.ownsRow_nil w B _ _
/-- Below, behind an append to a row from the base on. -/
theorem belU {B : Nat} {w w1 w2 : World} {v : Value} {l : List Up} (hr : RowU B w1 v l) (h : Below B w w1) (hg : w1.grownBy w2 v.ownBlock) (hB : B ≤ w1.heap.size) : Below B w w2 := h.grown hg hB (fun j hj => (World.ownsRow.lt hr j hj).1)
theorem belR {B : Nat} {w w1 w2 : World} {v : Value} {l : List Rn} (hr : RowR B w1 v l) (h : Below B w w1) (hg : w1.grownBy w2 v.ownBlock) (hB : B ≤ w1.heap.size) : Below B w w2 := h.grown hg hB (fun j hj => (World.ownsRow.lt hr j hj).1)
/-- A row's elements. -/
def Elt (t e : TypeId) (size : Nat) : Prop := ∃ i z, Tryd.prog.underlying t = some (.slice e) ∧ Tryd.prog.info? e = some i ∧ i.zero = some z ∧ i.size = size ∧ i.bytes ≤ 100 ∧ z.cells.size = size ∧ 0 < size
theorem elt_of {t e : TypeId} {size bytes : Nat} (ht : Tryd.prog.underlying t = some (.slice e)) (h1 : (Tryd.prog.info? e).map (fun i => (i.size, i.bytes)) = some (size, bytes)) (h2 : ((Tryd.prog.info? e).bind (·.zero)).map (fun z => z.cells.size) = some size) (hb : bytes ≤ 100) (hs : 0 < size) : Elt t e size := by
  unfold Elt
  cases h : Tryd.prog.info? e with
  | none => rw [h] at h1; cases h1
  | some i =>
    rw [h] at h1 h2
    simp at h1 h2
    obtain ⟨z, hz, hs'⟩ := h2
    exact ⟨i, z, ht, rfl, hz, h1.1, by omega, hs', hs⟩
theorem eltU : Elt 33 32 4 := elt_of (bytes := 48) Tryd.underlying33 (by kernel_rfl) (by kernel_rfl) (by decide) (by decide)
theorem eltR : Elt 40 35 3 := elt_of (bytes := 40) Tryd.underlying40 (by kernel_rfl) (by kernel_rfl) (by decide) (by decide)
theorem run_app {t e : TypeId} {size : Nat} (hE : Elt t e size) (w : World) (ty : TypeId) (B : Nat) (v : Value) (n : Nat) (xs : List Value) (hown : w.ownsRow B e size v n xs) (ax : Option Addr) (len cx : Nat) (news : List Value) (hl : news.length = len * size)
    (hnews : ∀ ad, ax = some ad → ∀ j u, news[j]? = some u → w.cell? (ad.add j) = some u) (h1 : ∀ u ∈ news, u.oneCell' = true) (hc : len ≤ cx) (hn : ax = none → cx = 0) (hb : n + len ≤ 1000000) (hB : B ≤ w.heap.size) :
    ∃ v' w', (Builtin.append_ #[t, t] ty #[v, .slice ax len cx]).run Tryd.prog w = .ok v' w' ∧ w'.ownsRow B e size v' (n + len) (xs ++ news) ∧ w.grownBy w' v.ownBlock ∧ (v'.ownBlock = v.ownBlock ∨ v'.ownBlock = some w.heap.size) := by
  obtain ⟨i, z, ht, hi, hz, hs, hby, hzs, hpos⟩ := hE
  cases ax with
  | none =>
    obtain rfl := hn rfl
    obtain rfl : len = 0 := by omega
    obtain rfl : news = [] := List.eq_nil_of_length_eq_zero (by simpa using hl)
    exact ⟨v, w, run_append_owned_none w B t ty e i size ht hi v n xs hown, by simpa using hown, World.grownBy.refl _ _, .inl rfl⟩
  | some ad =>
    have hbb : (n + len) * i.bytes ≤ 1000000 * 100 := Nat.mul_le_mul hb hby
    obtain ⟨v', w', r1, r2, r3, _, r5⟩ := run_append_own_at (P := Tryd.prog) w B t ty e i z size i.bytes ht hi hz hs rfl hzs hpos v n xs hown ad len cx news hl (hnews ad rfl) h1 (by unfold maxLen; omega) (by omega) hB
    exact ⟨v', w', r1, r2, r3, r5⟩
theorem run_appU (w : World) (ty : TypeId) (B : Nat) (v : Value) (l : List Up) (hrow : RowU B w v l) (ax : Option Addr) (len cx : Nat) (us : List Up) (hu : IsUs w ax len us) (hc : len ≤ cx) (hn : ax = none → cx = 0) (hb : l.length + len ≤ 1000000) (hB : B ≤ w.heap.size) :
    ∃ a' c' w', (Builtin.append_ #[33, 33] ty #[v, .slice ax len cx]).run Tryd.prog w = .ok (.slice a' (l.length + len) c') w' ∧ RowU B w' (.slice a' (l.length + len) c') (l ++ us) ∧ w.grownBy w' v.ownBlock ∧ ((Value.slice a' (l.length + len) c').ownBlock = v.ownBlock ∨ (Value.slice a' (l.length + len) c').ownBlock = some w.heap.size) := by
  obtain ⟨v', w', h1, h2, h3, h4⟩ := run_app eltU w ty B v l.length (flU l) hrow ax len cx (flU us) (by rw [flU_len, hu.size]) (fun ad e => by subst e; exact isUs_news hu) (flU_one us) hc hn hb hB
  have hr : RowU B w' v' (l ++ us) := by
    unfold RowU
    rw [List.length_append, hu.size, flU_app]
    exact h2
  obtain ⟨a', c', e, _⟩ := hr.is
  rw [List.length_append, hu.size] at e
  subst e
  exact ⟨a', c', w', h1, hr, h3, h4⟩
theorem wpList_appU {ops : Array Oper} {rest : List Oper} {o : Oper} {a : Act} {Q : Exit → Act → World → Prop} {w : World} (hgd : o.guard = none) (s x : Operand)
    (ho : o.op = .call { callee := .builtin .append, args := #[s, x], argTypes := #[33, 33] })
    (B : Nat) (v : Value) (l : List Up) (hs : a.eval s = v) (hrow : RowU B w v l) (ax : Option Addr) (len cx : Nat) (hx : a.eval x = .slice ax len cx) (us : List Up) (hu : IsUs w ax len us) (hc : len ≤ cx) (hn : ax = none → cx = 0) (hb : l.length + len ≤ 1000000) (hB : B ≤ w.heap.size)
    (h : ∀ a' c' w', RowU B w' (.slice a' (l.length + len) c') (l ++ us) → w.grownBy w' v.ownBlock → ((Value.slice a' (l.length + len) c').ownBlock = v.ownBlock ∨ (Value.slice a' (l.length + len) c').ownBlock = some w.heap.size) → wpList Tryd.prog ops Q rest (a.put o.dst (.slice a' (l.length + len) c')) w') :
    wpList Tryd.prog ops Q (o :: rest) a w := by
  refine wpList_plain hgd fun K hK => ?_
  obtain ⟨a', c', w', hr, h2, h3, h4⟩ := run_appU w o.type B v l hrow ax len cx us hu hc hn hb hB
  unfold Oper.wp execOp
  simp only [ho, resolve, invoke, builtin, Sem.run_bind, Sem.run_pure, Result.andThen_ok, List.map_toArray, List.map_cons, List.map_nil, hs, hx, hr]
  exact hK _ _ (h a' c' w' h2 h3 h4)
theorem step_appU {ops : Array Oper} {o : Oper} {a : Act} {K : Act → World → Prop} {Q : Exit → Act → World → Prop} {E : Prop} {w : World} (hw : Region.wanted o (yielded ops a.tmps) = true) (s x : Operand)
    (ho : o.op = .call { callee := .builtin .append, args := #[s, x], argTypes := #[33, 33] })
    (B : Nat) (v : Value) (l : List Up) (hs : a.eval s = v) (hrow : RowU B w v l) (ax : Option Addr) (len cx : Nat) (hx : a.eval x = .slice ax len cx) (us : List Up) (hu : IsUs w ax len us) (hc : len ≤ cx) (hn : ax = none → cx = 0) (hb : l.length + len ≤ 1000000) (hB : B ≤ w.heap.size)
    (h : ∀ a' c' w', RowU B w' (.slice a' (l.length + len) c') (l ++ us) → w.grownBy w' v.ownBlock → ((Value.slice a' (l.length + len) c').ownBlock = v.ownBlock ∨ (Value.slice a' (l.length + len) c').ownBlock = some w.heap.size) → K (a.put o.dst (.slice a' (l.length + len) c')) w') :
    if Region.wanted o (yielded ops a.tmps) = true then Oper.wp Tryd.prog o a w K Q else E := by
  rw [if_pos hw]
  obtain ⟨a', c', w', hr, h2, h3, h4⟩ := run_appU w o.type B v l hrow ax len cx us hu hc hn hb hB
  unfold Oper.wp execOp
  simp only [ho, resolve, invoke, builtin, Sem.run_bind, Sem.run_pure, Result.andThen_ok, List.map_toArray, List.map_cons, List.map_nil, hs, hx, hr]
  exact h a' c' w' h2 h3 h4
theorem run_appR (w : World) (ty : TypeId) (B : Nat) (v : Value) (l : List Rn) (hrow : RowR B w v l) (ax : Option Addr) (len cx : Nat) (us : List Rn) (hu : RsAt w ax len us) (hc : len ≤ cx) (hn : ax = none → cx = 0) (hb : l.length + len ≤ 1000000) (hB : B ≤ w.heap.size) :
    ∃ a' c' w', (Builtin.append_ #[40, 40] ty #[v, .slice ax len cx]).run Tryd.prog w = .ok (.slice a' (l.length + len) c') w' ∧ RowR B w' (.slice a' (l.length + len) c') (l ++ us) ∧ w.grownBy w' v.ownBlock ∧ ((Value.slice a' (l.length + len) c').ownBlock = v.ownBlock ∨ (Value.slice a' (l.length + len) c').ownBlock = some w.heap.size) := by
  obtain ⟨v', w', h1, h2, h3, h4⟩ := run_app eltR w ty B v l.length (flR l) hrow ax len cx (flR us) (by rw [flR_len, hu.size]) (fun ad e => by subst e; exact rsAt_news hu) (flR_one us) hc hn hb hB
  have hr : RowR B w' v' (l ++ us) := by
    unfold RowR
    rw [List.length_append, hu.size, flR_app]
    exact h2
  obtain ⟨a', c', e, _⟩ := hr.is
  rw [List.length_append, hu.size] at e
  subst e
  exact ⟨a', c', w', h1, hr, h3, h4⟩
theorem wpList_appR {ops : Array Oper} {rest : List Oper} {o : Oper} {a : Act} {Q : Exit → Act → World → Prop} {w : World} (hgd : o.guard = none) (s x : Operand)
    (ho : o.op = .call { callee := .builtin .append, args := #[s, x], argTypes := #[40, 40] })
    (B : Nat) (v : Value) (l : List Rn) (hs : a.eval s = v) (hrow : RowR B w v l) (ax : Option Addr) (len cx : Nat) (hx : a.eval x = .slice ax len cx) (us : List Rn) (hu : RsAt w ax len us) (hc : len ≤ cx) (hn : ax = none → cx = 0) (hb : l.length + len ≤ 1000000) (hB : B ≤ w.heap.size)
    (h : ∀ a' c' w', RowR B w' (.slice a' (l.length + len) c') (l ++ us) → w.grownBy w' v.ownBlock → ((Value.slice a' (l.length + len) c').ownBlock = v.ownBlock ∨ (Value.slice a' (l.length + len) c').ownBlock = some w.heap.size) → wpList Tryd.prog ops Q rest (a.put o.dst (.slice a' (l.length + len) c')) w') :
    wpList Tryd.prog ops Q (o :: rest) a w := by
  refine wpList_plain hgd fun K hK => ?_
  obtain ⟨a', c', w', hr, h2, h3, h4⟩ := run_appR w o.type B v l hrow ax len cx us hu hc hn hb hB
  unfold Oper.wp execOp
  simp only [ho, resolve, invoke, builtin, Sem.run_bind, Sem.run_pure, Result.andThen_ok, List.map_toArray, List.map_cons, List.map_nil, hs, hx, hr]
  exact hK _ _ (h a' c' w' h2 h3 h4)
theorem step_appR {ops : Array Oper} {o : Oper} {a : Act} {K : Act → World → Prop} {Q : Exit → Act → World → Prop} {E : Prop} {w : World} (hw : Region.wanted o (yielded ops a.tmps) = true) (s x : Operand)
    (ho : o.op = .call { callee := .builtin .append, args := #[s, x], argTypes := #[40, 40] })
    (B : Nat) (v : Value) (l : List Rn) (hs : a.eval s = v) (hrow : RowR B w v l) (ax : Option Addr) (len cx : Nat) (hx : a.eval x = .slice ax len cx) (us : List Rn) (hu : RsAt w ax len us) (hc : len ≤ cx) (hn : ax = none → cx = 0) (hb : l.length + len ≤ 1000000) (hB : B ≤ w.heap.size)
    (h : ∀ a' c' w', RowR B w' (.slice a' (l.length + len) c') (l ++ us) → w.grownBy w' v.ownBlock → ((Value.slice a' (l.length + len) c').ownBlock = v.ownBlock ∨ (Value.slice a' (l.length + len) c').ownBlock = some w.heap.size) → K (a.put o.dst (.slice a' (l.length + len) c')) w') :
    if Region.wanted o (yielded ops a.tmps) = true then Oper.wp Tryd.prog o a w K Q else E := by
  rw [if_pos hw]
  obtain ⟨a', c', w', hr, h2, h3, h4⟩ := run_appR w o.type B v l hrow ax len cx us hu hc hn hb hB
  unfold Oper.wp execOp
  simp only [ho, resolve, invoke, builtin, Sem.run_bind, Sem.run_pure, Result.andThen_ok, List.map_toArray, List.map_cons, List.map_nil, hs, hx, hr]
  exact h a' c' w' h2 h3 h4
/-- One round in a block of its own. -/
theorem rsAt_one (w : World) (r : Rn) : RsAt (w.alloc (.cells #[.int .i64 r.o, .int .i64 r.n, .slice r.a r.len r.cap] 35)) (some ⟨w.heap.size, 0, none⟩) 1 [r] := by
  refine ⟨rfl, fun _ => ⟨w.heap.size, 0, rfl, three fun i hi => ?_⟩⟩
  obtain rfl : i = 0 := by simpa using hi
  have h := Rb.new w r.o r.n r.a r.len r.cap
  exact ⟨h.c0, h.c1, h.c2⟩
/-- A row of updates and a row of rounds never lie in one block. -/
theorem RowU.neR {B B' w v l v' l'} (h : RowU B w v l) (k : RowR B' w v' l') : v.ownBlock = none ∨ v.ownBlock ≠ v'.ownBlock := by
  rcases h.2 with ⟨rfl, _⟩ | ⟨g, cap, cur, rfl, _, hc, _⟩
  · exact .inl rfl
  · refine .inr fun e => ?_
    rcases k.2 with ⟨rfl, _⟩ | ⟨g', cap', cur', rfl, _, hc', _⟩
    · simp [Value.ownBlock] at e
    · simp only [Value.ownBlock, Option.some.injEq] at e
      subst e
      rw [hc] at hc'
      injection hc' with hc'
      injection hc' with _ hc2 _
      exact absurd hc2 (by decide)
set_option maxRecDepth 20000
theorem wpList_appU0 {ops : Array Oper} {rest : List Oper} {o : Oper} {a : Act} {Q : Exit → Act → World → Prop} {w : World} (hgd : o.guard = none) (s x : Operand)
    (ho : o.op = .call { callee := .builtin .append, args := #[s, x], argTypes := #[33, 33] })
    (hs : a.eval s = .slice (some ⟨w.heap.size, 0, none⟩) 0 0) (ax : Option Addr) (len cx : Nat) (hx : a.eval x = .slice ax len cx) (us : List Up) (hu : IsUs w ax len us) (hc : len ≤ cx) (hn : ax = none → cx = 0) (hb : len ≤ 1000000)
    (h : ∀ a' c' w', RowU w.heap.size w' (.slice a' len c') us → Below w.heap.size w w' → wpList Tryd.prog ops Q rest (a.put o.dst (.slice a' len c')) w') :
    wpList Tryd.prog ops Q (o :: rest) a (w.alloc (.cells #[] 32)) := by
  refine wpList_appU hgd s x ho w.heap.size _ [] hs (rowU_new w) ax len cx hx us (isUs_below hu (Joins.below_alloc1 _ _)) hc hn (by simpa using hb) (by simp) ?_
  intro a' c' w' h1 h2 _
  simp only [List.length_nil, Nat.zero_add, List.nil_append] at h1 ⊢
  exact h a' c' w' h1 (belU (rowU_new w) (Joins.below_alloc1 _ _) h2 (by simp))
theorem wpList_appR0 {ops : Array Oper} {rest : List Oper} {o : Oper} {a : Act} {Q : Exit → Act → World → Prop} {w : World} (hgd : o.guard = none) (s x : Operand)
    (ho : o.op = .call { callee := .builtin .append, args := #[s, x], argTypes := #[40, 40] })
    (hs : a.eval s = .slice (some ⟨w.heap.size, 0, none⟩) 0 0) (ax : Option Addr) (len cx : Nat) (hx : a.eval x = .slice ax len cx) (us : List Rn) (hu : RsAt w ax len us) (hc : len ≤ cx) (hn : ax = none → cx = 0) (hb : len ≤ 1000000)
    (h : ∀ a' c' w', RowR w.heap.size w' (.slice a' len c') us → Below w.heap.size w w' → wpList Tryd.prog ops Q rest (a.put o.dst (.slice a' len c')) w') :
    wpList Tryd.prog ops Q (o :: rest) a (w.alloc (.cells #[] 35)) := by
  refine wpList_appR hgd s x ho w.heap.size _ [] hs (rowR_new w) ax len cx hx us (rsAt_below hu (Joins.below_alloc1 _ _)) hc hn (by simpa using hb) (by simp) ?_
  intro a' c' w' h1 h2 _
  simp only [List.length_nil, Nat.zero_add, List.nil_append] at h1 ⊢
  exact h a' c' w' h1 (belR (rowR_new w) (Joins.below_alloc1 _ _) h2 (by simp))
theorem infoUz : (Tryd.prog.info? 32).map (fun i => (i.zero, i.size, i.bytes)) = some (some (.agg #[.string ⟨#[]⟩, .int .i64 0, .int .i64 0, .string ⟨#[]⟩]), 4, 48) := by kernel_rfl
/-- A row of updates that the call made: it lies in block g, whole. -/
def Rw (w : World) (g : Nat) (us : List Up) : Prop := w.heap[g]? = some (.cells (flU us).toArray 32 (0, 0))
section
variable {w w' : World} {g : Nat} {us : List Up}
theorem Rw.lt (h : Rw w g us) : g < w.heap.size := (Array.getElem?_eq_some_iff.1 h).1
theorem Rw.kept {row : Option Nat} (h : Rw w g us) (hg : w.grownBy w' row) (hne : some g ≠ row) : Rw w' g us := (hg.block g h.lt hne).trans h
theorem Rw.next (h : Rw w g us) (hb : Below w.heap.size w w') : Rw w' g us := (hb.block g h.lt).trans h
theorem Rw.alloc (h : Rw w g us) (x : Obj) : Rw (w.alloc x) g us := (Below.heap_alloc _ _ _ h.lt).trans h
theorem Rw.setnew (h : Rw w g us) {k : Nat} (hk : g ≠ k) (i : Nat) (v : Value) : Rw (w.setCell ⟨k, i, none⟩ v) g us := (Below.heap_setCell _ _ _ _ hk).trans h
theorem Rw.f0 (h : Rw w g us) (i : Nat) : w.frozen? ⟨g, i, none⟩ = false := by unfold Rw at h; simp [World.frozen?, h]
theorem Rw.is (h : Rw w g us) : IsUs w (some ⟨g, 0, none⟩) us.length us := by
  refine ⟨rfl, fun _ => ⟨g, 0, rfl, four fun i hi => ?_⟩⟩
  have hc : ∀ r, r < 4 → w.cell? ⟨g, 0 + i * 4 + r, none⟩ = (cellsU4 (us.getD i up0))[r]? := fun r hr => by
    have h1 := flU_get us i r hi hr
    obtain ⟨v, hv⟩ : ∃ v, (cellsU4 (us.getD i up0))[r]? = some v := ⟨_, List.getElem?_eq_getElem (show r < (cellsU4 (us.getD i up0)).length from hr)⟩
    rw [hv] at h1 ⊢
    rw [Nat.zero_add]
    exact cell_at h (i * 4 + r) v (by simpa using h1)
  exact ⟨hc 0 (by omega), hc 1 (by omega), hc 2 (by omega), hc 3 (by omega)⟩
theorem Rw.row (h : Rw w g us) (k : Nat) (hk : k < us.length) : w.cell? ⟨g, k * 4, none⟩ = some (.string (us.getD k up0).1) ∧ w.cell? ⟨g, k * 4 + 1, none⟩ = some (.int .i64 (us.getD k up0).2.1) ∧ w.cell? ⟨g, k * 4 + 2, none⟩ = some (.int .i64 (us.getD k up0).2.2.1) ∧ w.cell? ⟨g, k * 4 + 3, none⟩ = some (.string (us.getD k up0).2.2.2) := by
  obtain ⟨b, off, e, hf⟩ := h.is.lies (by omega)
  simp only [Option.some.injEq, Addr.mk.injEq, and_true] at e
  obtain ⟨rfl, rfl⟩ := e
  have h0 := hf.key k hk
  have h1 := hf.k k hk
  have h2 := hf.n k hk
  have h3 := hf.t k hk
  rw [Nat.zero_add] at h0 h1 h2 h3
  exact ⟨h0, h1, h2, h3⟩
theorem flU_set (us : List Up) (k : Nat) (hk : k < us.length) (u : Up) : (((((flU us).toArray.set! (k * 4) (.string u.1)).set! (k * 4 + 1) (.int .i64 u.2.1)).set! (k * 4 + 2) (.int .i64 u.2.2.1)).set! (k * 4 + 3) (.string u.2.2.2)) = (flU (us.set k u)).toArray := by
  apply Array.ext'
  simp only [Array.set!_eq_setIfInBounds, Array.toList_setIfInBounds]
  apply List.ext_getElem?
  intro j
  have hl := flU_len us
  have hl' := flU_len (us.set k u)
  rw [List.length_set] at hl'
  by_cases hj : j < us.length * 4
  · rw [flU_at _ j (by rw [List.length_set]; exact hj)]
    have hu := flU_at us j hj
    by_cases hjk : j / 4 = k
    · rw [hjk, List.getD_eq_getElem?_getD, List.getElem?_set_self hk]
      simp only [Option.getD_some]
      rcases (show j % 4 = 0 ∨ j % 4 = 1 ∨ j % 4 = 2 ∨ j % 4 = 3 by omega) with h0 | h0 | h0 | h0
      · obtain rfl : j = k * 4 := by omega
        rw [h0, List.getElem?_set_ne (by omega), List.getElem?_set_ne (by omega), List.getElem?_set_ne (by omega), List.getElem?_set_self (by simpa using by omega)]
        rfl
      · obtain rfl : j = k * 4 + 1 := by omega
        rw [h0, List.getElem?_set_ne (by omega), List.getElem?_set_ne (by omega), List.getElem?_set_self (by simp; omega)]
        rfl
      · obtain rfl : j = k * 4 + 2 := by omega
        rw [h0, List.getElem?_set_ne (by omega), List.getElem?_set_self (by simp; omega)]
        rfl
      · obtain rfl : j = k * 4 + 3 := by omega
        rw [h0, List.getElem?_set_self (by simp; omega)]
        rfl
    · rw [List.getElem?_set_ne (by omega), List.getElem?_set_ne (by omega), List.getElem?_set_ne (by omega), List.getElem?_set_ne (by omega)]
      rw [hu, List.getD_eq_getElem?_getD, List.getD_eq_getElem?_getD, List.getElem?_set_ne (fun e => hjk e.symm)]
  · rw [List.getElem?_eq_none (by simp only [List.length_set]; show (flU us).length ≤ j; omega), List.getElem?_eq_none (by omega)]
theorem Rw.set4 (h : Rw w g us) (k : Nat) (hk : k < us.length) (u : Up) : Rw ((((w.setCell ⟨g, k * 4, none⟩ (.string u.1)).setCell ⟨g, k * 4 + 1, none⟩ (.int .i64 u.2.1)).setCell ⟨g, k * 4 + 2, none⟩ (.int .i64 u.2.2.1)).setCell ⟨g, k * 4 + 3, none⟩ (.string u.2.2.2)) g (us.set k u) := by
  unfold Rw at *
  rw [← flU_set us k hk u]
  simp [World.setCell, Array.getElem?_modify, h]
/-- What 'make' makes. -/
theorem Rw.made {base n : Nat} (h : w'.ownsRow base 32 4 (.slice (some ⟨g, 0, none⟩) n n) n (madeCells (Value.agg #[.string ⟨#[]⟩, .int .i64 0, .int .i64 0, .string ⟨#[]⟩]).cells (n * 4)).toList) : Rw w' g (List.replicate n up0) := by
  rcases h.2 with ⟨e, _⟩ | ⟨g', cap, cur, e, _, hh, _, _, hs, ht⟩
  · cases e
  · simp only [Value.slice.injEq, Option.some.injEq, Addr.mk.injEq, and_true] at e
    obtain ⟨rfl, _, rfl⟩ := e
    unfold Rw
    rw [hh]
    have e1 : cur.toList.take (n * 4) = cur.toList := List.take_of_length_le (by rw [Array.length_toList]; omega)
    rw [e1] at ht
    have e2 : cur = (flU (List.replicate n up0)).toArray := by
      apply Array.ext'
      rw [ht]
      show _ = flU (List.replicate n up0)
      apply List.ext_getElem?
      intro j
      by_cases hj : j < n * 4
      · rw [flU_at _ j (by rw [List.length_replicate]; exact hj), List.getD_eq_getElem?_getD, List.getElem?_replicate, if_pos (by omega)]
        simp only [Option.getD_some, madeCells, Array.toList_map, List.getElem?_map, Array.toList_range, List.getElem?_range hj, Option.map_some]
        rcases (show j % 4 = 0 ∨ j % 4 = 1 ∨ j % 4 = 2 ∨ j % 4 = 3 by omega) with h0 | h0 | h0 | h0 <;> (rw [show (Value.agg #[.string ⟨#[]⟩, .int .i64 0, .int .i64 0, .string ⟨#[]⟩]).cells.size = 4 from rfl, h0]; rfl)
      · rw [List.getElem?_eq_none (by simp [madeCells]; omega), List.getElem?_eq_none (by rw [flU_len, List.length_replicate]; omega)]
    rw [e2]
end
theorem set_step (xs : List Up) (n k : Nat) (u : Up) (hx : xs.length = k) (hk : k < n) : (xs ++ List.replicate (n - k) up0).set k u = (xs ++ [u]) ++ List.replicate (n - (k + 1)) up0 := by
  subst hx
  rw [List.set_append_right _ _ (Nat.le_refl _), Nat.sub_self]
  obtain ⟨m, hm⟩ : ∃ m, n - xs.length = m + 1 := ⟨n - xs.length - 1, by omega⟩
  rw [hm, List.replicate_succ, show n - (xs.length + 1) = m by omega, List.set_cons_zero, List.append_assoc]
  rfl
/-- 'for i, u := range': the cells of a row that may be the call's own or not. -/
theorem isUs_kept {w w' : World} {a : Option Addr} {len : Nat} {us : List Up} {row : Option Nat} (h : IsUs w a len us) (hg : w.grownBy w' row) (hne : ∀ b off, a = some ⟨b, off, none⟩ → some b ≠ row) : IsUs w' a len us := by
  refine ⟨h.size, fun h0 => ?_⟩
  obtain ⟨b, off, e, hf⟩ := h.lies h0
  have hs := h.size
  have hl := hf.lt (by omega)
  have hh : ∀ i, w'.cell? ⟨b, i, none⟩ = w.cell? ⟨b, i, none⟩ := fun i => World.cell?_of_block (hg.block b hl (hne b off e))
  exact ⟨b, off, e, four fun i hi => ⟨(hh _).trans (hf.key i hi), (hh _).trans (hf.k i hi), (hh _).trans (hf.n i hi), (hh _).trans (hf.t i hi)⟩⟩
theorem Rw.set3 {w1 : World} {g : Nat} {l : List Up} (h : Rw w1 g l) {b : Nat} (hb : g ≠ b) (v0 v1 v2 : Value) : Rw (((w1.setCell ⟨b, 0, none⟩ v0).setCell ⟨b, 1, none⟩ v1).setCell ⟨b, 2, none⟩ v2) g l := ((h.setnew hb _ _).setnew hb _ _).setnew hb _ _
/-- The first error among updates. -/
def mayL : List Up → Int
  | [] => 0
  | u :: l => if mayE u = 0 then mayL l else mayE u
theorem mayL_step (us : List Up) (k : Nat) (h : k < us.length) : mayL (us.drop k) = if mayE (us.getD k up0) = 0 then mayL (us.drop (k + 1)) else mayE (us.getD k up0) := by
  rw [List.drop_eq_getElem_cons h, List.getD_eq_getElem?_getD, List.getElem?_eq_getElem h]
  rfl
theorem mayL_end (us : List Up) : mayL (us.drop us.length) = 0 := by rw [List.drop_length]; rfl
theorem mayL_zero : ∀ (us : List Up), mayL us = 0 → ∀ i, i < us.length → mayE (us.getD i up0) = 0
  | [], _, i, h => absurd h (by simp)
  | u :: l, h0, 0, _ => by
    unfold mayL at h0
    split at h0
    · assumption
    · exact absurd h0 ‹_›
  | u :: l, h0, i + 1, h => by
    unfold mayL at h0
    split at h0
    · exact mayL_zero l h0 i (by simpa using h)
    · exact absurd h0 ‹_›
theorem mayL_of : ∀ (us : List Up), (∀ i, i < us.length → mayE (us.getD i up0) = 0) → mayL us = 0
  | [], _ => rfl
  | u :: l, h => by
    unfold mayL
    rw [if_pos (show mayE u = 0 from h 0 (by simp))]
    exact mayL_of l fun i hi => h (i + 1) (by simpa using hi)
/-- Are a round's numbers so? -/
def headOk (o n : Int) (k : Nat) : Prop := 1 ≤ o ∧ o ≤ 64 ∧ 1 ≤ n ∧ n ≤ 1099511627776 ∧ 1 ≤ k ∧ k ≤ 8
instance (o n : Int) (k : Nat) : Decidable (headOk o n k) := by unfold headOk; infer_instance
def mayR (o n : Int) (us : List Up) : Int := if headOk o n us.length then mayL us else 1
theorem mayR_yes {o n : Int} {us : List Up} (h : headOk o n us.length) : mayR o n us = mayL us := if_pos h
theorem mayR_no {o n : Int} {us : List Up} (h : ¬ headOk o n us.length) : mayR o n us = 1 := if_neg h
theorem mayR_zero {o n : Int} {us : List Up} (h : mayR o n us = 0) : headOk o n us.length ∧ mayL us = 0 := by
  unfold mayR at h
  split at h
  · exact ⟨‹_›, h⟩
  · exact absurd h (by decide)
end Go.Proofs.YtbbgibekplfacaaDoor
/- round.May, and the document's. -/
namespace Go.Proofs.YtbbgibekplfacaaDoor
open Go Go.RowKit
set_option maxHeartbeats 400000 in
theorem within_yes (n g : Int) (h : 1 ≤ n ∧ n ≤ g) (w : World) : Calls Tryd.prog 81 #[.int .i64 n, .int .i64 g] w fun x w' => x = .returned (.bool true) ∧ w = w' := by
  have q1 : decide ((1 : Int) ≤ n) = true := decide_eq_true h.1
  have q2 : decide (n ≤ g) = true := decide_eq_true h.2
  clear h
  go_enter Tryd.func81, Tryd.ntmps81
  go_wp2
  go_ret
  exact ⟨rfl, rfl⟩
set_option maxHeartbeats 400000 in
theorem within_no (n g : Int) (h : ¬ (1 ≤ n ∧ n ≤ g)) (w : World) : Calls Tryd.prog 81 #[.int .i64 n, .int .i64 g] w fun x w' => x = .returned (.bool false) ∧ w = w' := by
  by_cases h1 : 1 ≤ n
  · have q1 : decide ((1 : Int) ≤ n) = true := decide_eq_true h1
    have q2 : decide (n ≤ g) = false := decide_eq_false (fun h2 => h ⟨h1, h2⟩)
    clear h
    go_enter Tryd.func81, Tryd.ntmps81
    go_wp2
    go_ret
    exact ⟨rfl, rfl⟩
  · have q1 : decide ((1 : Int) ≤ n) = false := decide_eq_false h1
    clear h
    go_enter Tryd.func81, Tryd.ntmps81
    go_wp2
    go_ret
    exact ⟨rfl, rfl⟩
set_option maxHeartbeats 1000000 in
theorem rmay_1 (o n : Int) (a : Option Addr) (len cap : Nat) (h : ¬ (1 ≤ o ∧ o ≤ 64)) (w : World) :
    Calls Tryd.prog 70 #[.agg #[.int .i64 o, .int .i64 n, .slice a len cap]] w fun x w' => x = .returned (.int .i64 1) ∧ Below w.heap.size w w' := by
  have hr := Rb.new w o n a len cap
  have c0 := hr.c0
  have HB := Lib.hid (Joins.below_alloc1 w (.cells #[.int .i64 o, .int .i64 n, .slice a len cap] 35))
  have HW := Lib.hid (fun w => within_no o 64 h w)
  clear hr h
  go_enter Tryd.func70, Tryd.ntmps70
  go_wp2_with fail
  refine (HW.out _).mono ?_
  rintro x w1 ⟨rfl, rfl⟩
  go_wp2
  go_ret
  exact ⟨rfl, HB.out⟩
set_option maxHeartbeats 1000000 in
theorem rmay_2 (o n : Int) (a : Option Addr) (len cap : Nat) (h1 : 1 ≤ o ∧ o ≤ 64) (h : ¬ (1 ≤ n ∧ n ≤ 1099511627776)) (w : World) :
    Calls Tryd.prog 70 #[.agg #[.int .i64 o, .int .i64 n, .slice a len cap]] w fun x w' => x = .returned (.int .i64 1) ∧ Below w.heap.size w w' := by
  have hr := Rb.new w o n a len cap
  have c0 := hr.c0
  have c1 := hr.c1
  have HB := Lib.hid (Joins.below_alloc1 w (.cells #[.int .i64 o, .int .i64 n, .slice a len cap] 35))
  have HW := Lib.hid (fun w => within_yes o 64 h1 w)
  have HV := Lib.hid (fun w => within_no n 1099511627776 h w)
  clear hr h h1
  go_enter Tryd.func70, Tryd.ntmps70
  go_wp2_with fail
  refine (HW.out _).mono ?_
  rintro x w1 ⟨rfl, rfl⟩
  go_wp2_with fail
  refine (HV.out _).mono ?_
  rintro x w1 ⟨rfl, rfl⟩
  go_wp2
  go_ret
  exact ⟨rfl, HB.out⟩
set_option maxHeartbeats 1000000 in
theorem rmay_3 (o n : Int) (a : Option Addr) (len cap : Nat) (h1 : 1 ≤ o ∧ o ≤ 64) (h2 : 1 ≤ n ∧ n ≤ 1099511627776) (h : ¬ (1 ≤ (len : Int) ∧ (len : Int) ≤ 8)) (w : World) :
    Calls Tryd.prog 70 #[.agg #[.int .i64 o, .int .i64 n, .slice a len cap]] w fun x w' => x = .returned (.int .i64 1) ∧ Below w.heap.size w w' := by
  have hr := Rb.new w o n a len cap
  have c0 := hr.c0
  have c1 := hr.c1
  have c2 := hr.c2
  have HB := Lib.hid (Joins.below_alloc1 w (.cells #[.int .i64 o, .int .i64 n, .slice a len cap] 35))
  have HW := Lib.hid (fun w => within_yes o 64 h1 w)
  have HV := Lib.hid (fun w => within_yes n 1099511627776 h2 w)
  have HX := Lib.hid (fun w => within_no (len : Int) 8 h w)
  clear hr h h1 h2
  go_enter Tryd.func70, Tryd.ntmps70
  go_wp2_with fail
  refine (HW.out _).mono ?_
  rintro x w1 ⟨rfl, rfl⟩
  go_wp2_with fail
  refine (HV.out _).mono ?_
  rintro x w1 ⟨rfl, rfl⟩
  go_wp2_with fail
  refine (HX.out _).mono ?_
  rintro x w1 ⟨rfl, rfl⟩
  go_wp2
  go_ret
  exact ⟨rfl, HB.out⟩
set_option maxHeartbeats 2000000 in
theorem rmay_4 (o n : Int) (a : Option Addr) (len cap : Nat) (us : List Up) (h1 : 1 ≤ o ∧ o ≤ 64) (h2 : 1 ≤ n ∧ n ≤ 1099511627776) (h3 : 1 ≤ (len : Int) ∧ (len : Int) ≤ 8) (m : Int) (hm : mayL us = m) (w : World) (hu : IsUs w a len us) :
    Calls Tryd.prog 70 #[.agg #[.int .i64 o, .int .i64 n, .slice a len cap]] w fun x w' => x = .returned (.int .i64 m) ∧ Below w.heap.size w w' := by
  have hr := Rb.new w o n a len cap
  have c0 := hr.c0
  have c1 := hr.c1
  have c2 := hr.c2
  have hsz := hu.size
  have hl8 : len ≤ 8 := by omega
  have HU := Lib.hid hu
  have HM := Lib.hid hm
  have HB := Lib.hid (Joins.below_alloc1 w (.cells #[.int .i64 o, .int .i64 n, .slice a len cap] 35))
  have HW := Lib.hid (fun w => within_yes o 64 h1 w)
  have HV := Lib.hid (fun w => within_yes n 1099511627776 h2 w)
  have HX := Lib.hid (fun w => within_yes (len : Int) 8 h3 w)
  clear hr h1 h2 h3 hu hm
  go_enter Tryd.func70, Tryd.ntmps70
  go_wp2_with fail
  refine (HW.out _).mono ?_
  rintro x w1 ⟨rfl, rfl⟩
  go_wp2_with fail
  refine (HV.out _).mono ?_
  rintro x w1 ⟨rfl, rfl⟩
  go_wp2_with fail
  refine (HX.out _).mono ?_
  rintro x w1 ⟨rfl, rfl⟩
  go_wp2_with fail
  clear HW HV HX c0 c1 c2
  go_loopw [26] (fun v26 wr => ∃ k : Nat, k ≤ len ∧ v26 = .int .i64 k ∧ mayL (us.drop k) = m ∧ Below w.heap.size w wr) (fun v26 _ => len - (intOf v26).toNat)
  case atStart => exact ⟨0, Nat.zero_le _, rfl, HM.out, HB.out⟩
  case round =>
    obtain ⟨k, hk, rfl, hmk, hbel⟩ := hrel
    clear HB HM
    by_cases hlt : k < len
    · obtain ⟨b, off, rfl, hbl, c0, c1, c2, c3⟩ := cells_of HU.out hbel hlt
      have HC := fun w => Lib.hid (may_any (us.getD k up0) w)
      rw [mayL_step us k (by omega)] at hmk
      have HMK := Lib.hid hmk
      have HBEL := Lib.hid hbel
      clear hmk hbel hbl
      by_cases hz : mayE (us.getD k up0) = 0
      · have HMK2 : Hid (mayL (us.drop (k + 1)) = m) := by have := HMK.out; rw [if_pos hz] at this; exact this
        rw [hz] at HC
        clear HMK hz
        generalize us.getD k up0 = u at *
        obtain ⟨key, x, nn, s⟩ := u
        simp only [uu] at c0 c1 c2 c3 HC
        go_wp2_with fail
        refine (HC _).out.mono ?_
        rintro e w2 ⟨rfl, hb⟩
        have HB2 := Lib.hid (Below.next (HBEL.out.alloc HBEL.out.size _) hb)
        clear hb HBEL HC
        go_wp2
        go_roundw
        case rel => exact ⟨k + 1, by omega, by go_num, HMK2.out, HB2.out⟩
        case measure => simp [intOf]; omega
      · have hmm : mayE (us.getD k up0) = m := by have := HMK.out; rw [if_neg hz] at this; exact this
        rw [hmm] at HC hz
        have k1 : (m == 0) = false := by rw [beq_eq_false_iff_ne]; exact hz
        clear HMK hmm hz
        generalize us.getD k up0 = u at *
        obtain ⟨key, x, nn, s⟩ := u
        simp only [uu] at c0 c1 c2 c3 HC
        go_wp2_with fail
        refine (HC _).out.mono ?_
        rintro e w2 ⟨rfl, hb⟩
        have HB2 := Lib.hid (Below.next (HBEL.out.alloc HBEL.out.size _) hb)
        clear hb HBEL HC
        go_wp2
        go_ret
        exact ⟨rfl, HB2.out⟩
    · obtain rfl : k = len := by omega
      have hm0 : m = 0 := by rw [← hmk, ← hsz]; exact mayL_end us
      have HBEL := Lib.hid hbel
      clear hmk hbel
      subst hm0
      go_wp2
      go_ret
      exact ⟨rfl, HBEL.out⟩
theorem rndmay_any (o n : Int) (a : Option Addr) (len cap : Nat) (us : List Up) (w : World) (hu : IsUs w a len us) :
    Calls Tryd.prog 70 #[.agg #[.int .i64 o, .int .i64 n, .slice a len cap]] w fun x w' => x = .returned (.int .i64 (mayR o n us)) ∧ Below w.heap.size w w' := by
  have hs := hu.size
  by_cases h : headOk o n us.length
  · rw [mayR_yes h]
    unfold headOk at h
    exact rmay_4 o n a len cap us ⟨h.1, h.2.1⟩ ⟨h.2.2.1, h.2.2.2.1⟩ (by omega) _ rfl w hu
  · rw [mayR_no h]
    by_cases h1 : 1 ≤ o ∧ o ≤ 64
    · by_cases h2 : 1 ≤ n ∧ n ≤ 1099511627776
      · exact rmay_3 o n a len cap h1 h2 (fun h3 => h ⟨h1.1, h1.2, h2.1, h2.2, by omega, by omega⟩) w
      · exact rmay_2 o n a len cap h1 h2 w
    · exact rmay_1 o n a len cap h1 w
set_option maxHeartbeats 1000000 in
theorem dmay_0 (o n : Int) (a : Option Addr) (len cap : Nat)  (_p0 : o < 1) (w : World) :
    Calls Tryd.prog 71 #[.agg #[.int .i64 o, .int .i64 n, .slice a len cap]] w fun x w' => x = .returned (.int .i64 1) ∧ Below w.heap.size w w' := by
  have q0 : decide (o < 1) = true := decide_eq_true _p0
  have hr := Rb.new w o n a len cap
  have c0 := hr.c0
  have c1 := hr.c1
  have c2 := hr.c2
  have HB := Lib.hid (Joins.below_alloc1 w (.cells #[.int .i64 o, .int .i64 n, .slice a len cap] 35))
  clear hr _p0
  go_enter Tryd.func71, Tryd.ntmps71
  go_wp2
  go_ret
  exact ⟨rfl, HB.out⟩
set_option maxHeartbeats 1000000 in
theorem dmay_1 (o n : Int) (a : Option Addr) (len cap : Nat) (_p0 : 1 ≤ o) (_p1 : 64 < o) (w : World) :
    Calls Tryd.prog 71 #[.agg #[.int .i64 o, .int .i64 n, .slice a len cap]] w fun x w' => x = .returned (.int .i64 1) ∧ Below w.heap.size w w' := by
  have q0 : decide (o < 1) = false := decide_eq_false (by omega)
  have q1 : decide (64 < o) = true := decide_eq_true _p1
  have hr := Rb.new w o n a len cap
  have c0 := hr.c0
  have c1 := hr.c1
  have c2 := hr.c2
  have HB := Lib.hid (Joins.below_alloc1 w (.cells #[.int .i64 o, .int .i64 n, .slice a len cap] 35))
  clear hr _p0 _p1
  go_enter Tryd.func71, Tryd.ntmps71
  go_wp2
  go_ret
  exact ⟨rfl, HB.out⟩
set_option maxHeartbeats 1000000 in
theorem dmay_2 (o n : Int) (a : Option Addr) (len cap : Nat) (_p0 : 1 ≤ o) (_p1 : o ≤ 64) (_p2 : n < 1) (w : World) :
    Calls Tryd.prog 71 #[.agg #[.int .i64 o, .int .i64 n, .slice a len cap]] w fun x w' => x = .returned (.int .i64 1) ∧ Below w.heap.size w w' := by
  have q0 : decide (o < 1) = false := decide_eq_false (by omega)
  have q1 : decide (64 < o) = false := decide_eq_false (by omega)
  have q2 : decide (n < 1) = true := decide_eq_true _p2
  have hr := Rb.new w o n a len cap
  have c0 := hr.c0
  have c1 := hr.c1
  have c2 := hr.c2
  have HB := Lib.hid (Joins.below_alloc1 w (.cells #[.int .i64 o, .int .i64 n, .slice a len cap] 35))
  clear hr _p0 _p1 _p2
  go_enter Tryd.func71, Tryd.ntmps71
  go_wp2
  go_ret
  exact ⟨rfl, HB.out⟩
set_option maxHeartbeats 1000000 in
theorem dmay_3 (o n : Int) (a : Option Addr) (len cap : Nat) (_p0 : 1 ≤ o) (_p1 : o ≤ 64) (_p2 : 1 ≤ n) (_p3 : 1099511627776 < n) (w : World) :
    Calls Tryd.prog 71 #[.agg #[.int .i64 o, .int .i64 n, .slice a len cap]] w fun x w' => x = .returned (.int .i64 1) ∧ Below w.heap.size w w' := by
  have q0 : decide (o < 1) = false := decide_eq_false (by omega)
  have q1 : decide (64 < o) = false := decide_eq_false (by omega)
  have q2 : decide (n < 1) = false := decide_eq_false (by omega)
  have q3 : decide (1099511627776 < n) = true := decide_eq_true _p3
  have hr := Rb.new w o n a len cap
  have c0 := hr.c0
  have c1 := hr.c1
  have c2 := hr.c2
  have HB := Lib.hid (Joins.below_alloc1 w (.cells #[.int .i64 o, .int .i64 n, .slice a len cap] 35))
  clear hr _p0 _p1 _p2 _p3
  go_enter Tryd.func71, Tryd.ntmps71
  go_wp2
  go_ret
  exact ⟨rfl, HB.out⟩
set_option maxHeartbeats 1000000 in
theorem dmay_4 (o n : Int) (a : Option Addr) (len cap : Nat) (_p0 : 1 ≤ o) (_p1 : o ≤ 64) (_p2 : 1 ≤ n) (_p3 : n ≤ 1099511627776) (_p4 : (len : Int) < 1) (w : World) :
    Calls Tryd.prog 71 #[.agg #[.int .i64 o, .int .i64 n, .slice a len cap]] w fun x w' => x = .returned (.int .i64 1) ∧ Below w.heap.size w w' := by
  have q0 : decide (o < 1) = false := decide_eq_false (by omega)
  have q1 : decide (64 < o) = false := decide_eq_false (by omega)
  have q2 : decide (n < 1) = false := decide_eq_false (by omega)
  have q3 : decide (1099511627776 < n) = false := decide_eq_false (by omega)
  have q4 : decide ((len : Int) < 1) = true := decide_eq_true _p4
  have hr := Rb.new w o n a len cap
  have c0 := hr.c0
  have c1 := hr.c1
  have c2 := hr.c2
  have HB := Lib.hid (Joins.below_alloc1 w (.cells #[.int .i64 o, .int .i64 n, .slice a len cap] 35))
  clear hr _p0 _p1 _p2 _p3 _p4
  go_enter Tryd.func71, Tryd.ntmps71
  go_wp2
  go_ret
  exact ⟨rfl, HB.out⟩
set_option maxHeartbeats 1000000 in
theorem dmay_5 (o n : Int) (a : Option Addr) (len cap : Nat) (_p0 : 1 ≤ o) (_p1 : o ≤ 64) (_p2 : 1 ≤ n) (_p3 : n ≤ 1099511627776) (_p4 : 1 ≤ (len : Int)) (_p5 : 8 < (len : Int)) (w : World) :
    Calls Tryd.prog 71 #[.agg #[.int .i64 o, .int .i64 n, .slice a len cap]] w fun x w' => x = .returned (.int .i64 1) ∧ Below w.heap.size w w' := by
  have q0 : decide (o < 1) = false := decide_eq_false (by omega)
  have q1 : decide (64 < o) = false := decide_eq_false (by omega)
  have q2 : decide (n < 1) = false := decide_eq_false (by omega)
  have q3 : decide (1099511627776 < n) = false := decide_eq_false (by omega)
  have q4 : decide ((len : Int) < 1) = false := decide_eq_false (by omega)
  have q5 : decide (8 < (len : Int)) = true := decide_eq_true _p5
  have hr := Rb.new w o n a len cap
  have c0 := hr.c0
  have c1 := hr.c1
  have c2 := hr.c2
  have HB := Lib.hid (Joins.below_alloc1 w (.cells #[.int .i64 o, .int .i64 n, .slice a len cap] 35))
  clear hr _p0 _p1 _p2 _p3 _p4 _p5
  go_enter Tryd.func71, Tryd.ntmps71
  go_wp2
  go_ret
  exact ⟨rfl, HB.out⟩
set_option maxHeartbeats 2000000 in
theorem dmay_6 (o n : Int) (a : Option Addr) (len cap : Nat) (us : List Up) (h1 : 1 ≤ o ∧ o ≤ 64) (h2 : 1 ≤ n ∧ n ≤ 1099511627776) (h3 : 1 ≤ (len : Int) ∧ (len : Int) ≤ 8) (m : Int) (hm : mayL us = m) (w : World) (hu : IsUs w a len us) :
    Calls Tryd.prog 71 #[.agg #[.int .i64 o, .int .i64 n, .slice a len cap]] w fun x w' => x = .returned (.int .i64 m) ∧ Below w.heap.size w w' := by
  have q0 : decide (o < 1) = false := decide_eq_false (by omega)
  have q1 : decide (64 < o) = false := decide_eq_false (by omega)
  have q2 : decide (n < 1) = false := decide_eq_false (by omega)
  have q3 : decide (1099511627776 < n) = false := decide_eq_false (by omega)
  have q4 : decide ((len : Int) < 1) = false := decide_eq_false (by omega)
  have q5 : decide (8 < (len : Int)) = false := decide_eq_false (by omega)
  have hr := Rb.new w o n a len cap
  have c0 := hr.c0
  have c1 := hr.c1
  have c2 := hr.c2
  have hsz := hu.size
  have hl8 : len ≤ 8 := by omega
  have HU := Lib.hid hu
  have HM := Lib.hid hm
  have HR := Lib.hid hr
  have HB := Lib.hid (Joins.below_alloc1 w (.cells #[.int .i64 o, .int .i64 n, .slice a len cap] 35))
  clear hr h1 h2 h3 hu hm
  go_enter Tryd.func71, Tryd.ntmps71
  go_wp2_with fail
  clear c0 c1 c2 q0 q1 q2 q3 q4 q5
  go_loopw [4] (fun v4 wr => ∃ k : Nat, k ≤ len ∧ v4 = .int .i64 k ∧ mayL (us.drop k) = m ∧ Rb wr w.heap.size o n a len cap ∧ Below w.heap.size w wr) (fun v4 _ => len - (intOf v4).toNat)
  case atStart => exact ⟨0, Nat.zero_le _, rfl, HM.out, HR.out, HB.out⟩
  case round =>
    obtain ⟨k, hk, rfl, hmk, hr, hbel⟩ := hrel
    clear HB HM HR
    have d2 := hr.c2
    have HR := Lib.hid hr
    clear hr
    by_cases hlt : k < len
    · obtain ⟨b, off, rfl, hbl, c0, c1, c2, c3⟩ := cells_of HU.out hbel hlt
      have HC := fun w => Lib.hid (rmay_any (us.getD k up0) w)
      rw [mayL_step us k (by omega)] at hmk
      have HMK := Lib.hid hmk
      have HBEL := Lib.hid hbel
      clear hmk hbel hbl
      by_cases hz : mayE (us.getD k up0) = 0
      · have HMK2 : Hid (mayL (us.drop (k + 1)) = m) := by have := HMK.out; rw [if_pos hz] at this; exact this
        rw [hz] at HC
        clear HMK hz
        generalize us.getD k up0 = u at *
        obtain ⟨key, x, nn, s⟩ := u
        simp only [uu] at c0 c1 c2 c3 HC
        go_wp2_with fail
        refine (HC _).out.mono ?_
        rintro e w2 ⟨rfl, hb⟩
        have HB2 := Lib.hid (Below.next HBEL.out hb)
        have HR2 := Lib.hid (HR.out.next hb)
        clear hb HBEL HC HR d2
        go_wp2
        go_roundw
        case rel => exact ⟨k + 1, by omega, by go_num, HMK2.out, HR2.out, HB2.out⟩
        case measure => simp [intOf]; omega
      · have hmm : mayE (us.getD k up0) = m := by have := HMK.out; rw [if_neg hz] at this; exact this
        rw [hmm] at HC hz
        have k1 : (m == 0) = false := by rw [beq_eq_false_iff_ne]; exact hz
        clear HMK hmm hz
        generalize us.getD k up0 = u at *
        obtain ⟨key, x, nn, s⟩ := u
        simp only [uu] at c0 c1 c2 c3 HC
        go_wp2_with fail
        refine (HC _).out.mono ?_
        rintro e w2 ⟨rfl, hb⟩
        have HB2 := Lib.hid (Below.next HBEL.out hb)
        clear hb HBEL HC HR d2
        go_wp2
        go_ret
        exact ⟨rfl, HB2.out⟩
    · obtain rfl : k = len := by omega
      have hm0 : m = 0 := by rw [← hmk, ← hsz]; exact mayL_end us
      have HBEL := Lib.hid hbel
      clear hmk hbel
      subst hm0
      go_wp2
      go_ret
      exact ⟨rfl, HBEL.out⟩
theorem docmay_any (o n : Int) (a : Option Addr) (len cap : Nat) (us : List Up) (w : World) (hu : IsUs w a len us) :
    Calls Tryd.prog 71 #[.agg #[.int .i64 o, .int .i64 n, .slice a len cap]] w fun x w' => x = .returned (.int .i64 (mayR o n us)) ∧ Below w.heap.size w w' := by
  have hs := hu.size
  by_cases h : headOk o n us.length
  · rw [mayR_yes h]
    unfold headOk at h
    exact dmay_6 o n a len cap us ⟨h.1, h.2.1⟩ ⟨h.2.2.1, h.2.2.2.1⟩ (by omega) _ rfl w hu
  · rw [mayR_no h]
    by_cases p0 : o < 1
    · exact dmay_0 o n a len cap p0 w
    by_cases p1 : 64 < o
    · exact dmay_1 o n a len cap (by omega) p1 w
    by_cases p2 : n < 1
    · exact dmay_2 o n a len cap (by omega) (by omega) p2 w
    by_cases p3 : 1099511627776 < n
    · exact dmay_3 o n a len cap (by omega) (by omega) (by omega) p3 w
    by_cases p4 : (len : Int) < 1
    · exact dmay_4 o n a len cap (by omega) (by omega) (by omega) (by omega) p4 w
    by_cases p5 : 8 < (len : Int)
    · exact dmay_5 o n a len cap (by omega) (by omega) (by omega) (by omega) (by omega) p5 w
    exact absurd ⟨by omega, by omega, by omega, by omega, by omega, by omega⟩ h
end Go.Proofs.YtbbgibekplfacaaDoor
