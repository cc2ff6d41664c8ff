/- Plain: updates, a row of them, one in a block. -/
import Derived.Test.YtgifbkmpaejdbaaProg
import Derived.WalkKit
import Derived.Lib.Hide
import Derived.Handy
import Derived.Lib.SmallJoins
import Derived.Laws.StructEq
import Derived.Laws.NewDeep
namespace Go.Proofs.Ytgifbkmpaejdbaa
open Go Go.RowKit
/-- An update: its key, its kind, its number, its text. -/
abbrev Up := ByteArray × Int × Int × ByteArray
def uu (u : Up) : Value := .agg #[.string u.1, .int .i64 u.2.1, .int .i64 u.2.2.1, .string u.2.2.2]
def up0 : Up := (⟨#[]⟩, 0, 0, ⟨#[]⟩)
/-- From the place off of block b on lie these updates. -/
structure Us (w : World) (b off : Nat) (us : List Up) : Prop where
  key : ∀ i, i < us.length → w.cell? ⟨b, off + i * 4, none⟩ = some (.string (us.getD i up0).1)
  k : ∀ i, i < us.length → w.cell? ⟨b, off + i * 4 + 1, none⟩ = some (.int .i64 (us.getD i up0).2.1)
  n : ∀ i, i < us.length → w.cell? ⟨b, off + i * 4 + 2, none⟩ = some (.int .i64 (us.getD i up0).2.2.1)
  t : ∀ i, i < us.length → w.cell? ⟨b, off + i * 4 + 3, none⟩ = some (.string (us.getD i up0).2.2.2)
theorem Us.lt {w b off us} (h : Us w b off us) (h0 : 0 < us.length) : b < w.heap.size := block_lt_of_cell (h.k 0 h0)
/-- What the walk is told of updates. -/
structure IsUs (w : World) (a : Option Addr) (len : Nat) (us : List Up) : Prop where
  size : us.length = len
  lies : 0 < len → ∃ b off, a = some ⟨b, off, none⟩ ∧ Us w b off us
theorem Us.below {w w' : World} {B b off : Nat} {us : List Up} (hf : Us w b off us) (hb : Below B w w') (hl : b < B) : Us w' b off us :=
  ⟨fun i hi => (hb.cell hl).trans (hf.key i hi), fun i hi => (hb.cell hl).trans (hf.k i hi), fun i hi => (hb.cell hl).trans (hf.n i hi), fun i hi => (hb.cell hl).trans (hf.t i hi)⟩
theorem isUs_below {w w' : World} {B : Nat} {a : Option Addr} {len : Nat} {us : List Up} (h : IsUs w a len us) (hb : Below B w w') (hB : w.heap.size ≤ B := by exact Nat.le_refl _) : IsUs w' a len us :=
  ⟨h.size, fun h0 => by
    obtain ⟨b, off, e, hf⟩ := h.lies h0
    have hl := hf.lt (by rw [h.size]; exact h0)
    exact ⟨b, off, e, hf.below hb (by omega)⟩⟩
/-- An update lies in block b. -/
def Ub (w : World) (b : Nat) (u : Up) : Prop := w.heap[b]? = some (.cells #[.string u.1, .int .i64 u.2.1, .int .i64 u.2.2.1, .string u.2.2.2] 47 (0, 0))
theorem Ub.below {w w' : World} {B b v} (h : Ub w b v) (hb : Below B w w') (hl : b < B) : Ub w' b v := (hb.block b hl).trans h
theorem Ub.lt {w : World} {b v} (h : Ub w b v) : b < w.heap.size := (Array.getElem?_eq_some_iff.1 h).1
theorem Ub.alloc {w : World} {b v} (h : Ub w b v) (o : Obj) : Ub (w.alloc o) b v := (Below.heap_alloc _ _ _ h.lt).trans h
theorem Ub.c0 {w b u} (h : Ub w b u) : w.cell? ⟨b, 0, none⟩ = some (.string u.1) := by unfold Ub at h; simp [World.cell?, h]
theorem Ub.c1 {w b u} (h : Ub w b u) : w.cell? ⟨b, 1, none⟩ = some (.int .i64 u.2.1) := by unfold Ub at h; simp [World.cell?, h]
theorem Ub.c2 {w b u} (h : Ub w b u) : w.cell? ⟨b, 2, none⟩ = some (.int .i64 u.2.2.1) := by unfold Ub at h; simp [World.cell?, h]
theorem Ub.c3 {w b u} (h : Ub w b u) : w.cell? ⟨b, 3, none⟩ = some (.string u.2.2.2) := by unfold Ub at h; simp [World.cell?, h]
theorem Ub.f0 {w b u} (h : Ub w b u) (i : Nat) : w.frozen? ⟨b, i, none⟩ = false := by unfold Ub at h; simp [World.frozen?, h]
theorem Ub.kept {w w' : World} {b u} {row : Option Nat} (h : Ub w b u) (hg : w.grownBy w' row) (hne : some b ≠ row) : Ub w' b u := (hg.block b h.lt hne).trans h
end Go.Proofs.Ytgifbkmpaejdbaa
