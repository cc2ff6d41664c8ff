/- Blocks that a call makes, beside readers. -/
import Derived.Test.YtcknklodnfabpaaDoorR4
import Derived.Test.YtcknklodnfabpaaDoorU0
namespace Go.Proofs.YtcknklodnfabpaaDoor
open Go Go.RowKit
theorem grown_alloc (w : World) (o : Obj) (row : Option Nat) : w.grownBy (w.alloc o) row := ⟨rfl, rfl, rfl, by simp, fun _ hi _ => Below.heap_alloc _ _ _ hi⟩
theorem grown_setnew {a c : World} {row : Option Nat} (h : a.grownBy c row) {k i : Nat} (hk : a.heap.size ≤ k) (v : Value) : a.grownBy (c.setCell ⟨k, i, none⟩ v) row :=
  ⟨h.os, h.tape, h.output, by have := h.size; simp [World.setCell]; omega, fun j hj hr => (Below.heap_setCell _ _ _ _ (show j ≠ k by omega)).trans (h.block j hj hr)⟩
theorem grown_set4 {a c : World} {row : Option Nat} (h : a.grownBy c row) {k : Nat} (hk : a.heap.size ≤ k) (v0 v1 v2 v3 : Value) : a.grownBy ((((c.setCell ⟨k, 0, none⟩ v0).setCell ⟨k, 1, none⟩ v1).setCell ⟨k, 2, none⟩ v2).setCell ⟨k, 3, none⟩ v3) row :=
  grown_setnew (grown_setnew (grown_setnew (grown_setnew h hk _) hk _) hk _) hk _
theorem Rd.setnew {w b r e} (h : Rd w b r e) {k : Nat} (hk : b ≠ k) (i : Nat) (v : Value) : Rd (w.setCell ⟨k, i, none⟩ v) b r e := (Below.heap_setCell _ _ _ _ hk).trans h
theorem Rd.alloc {w b r e} (h : Rd w b r e) (o : Obj) : Rd (w.alloc o) b r e := (Below.heap_alloc _ _ _ h.lt).trans h
theorem Rd.set4 {c : World} {b r e} (h : Rd c b r e) {k : Nat} (hk : b ≠ k) (v0 v1 v2 v3 : Value) : Rd ((((c.setCell ⟨k, 0, none⟩ v0).setCell ⟨k, 1, none⟩ v1).setCell ⟨k, 2, none⟩ v2).setCell ⟨k, 3, none⟩ v3) b r e :=
  (((h.setnew hk _ _).setnew hk _ _).setnew hk _ _).setnew hk _ _
theorem Ub.setnew {w b u} (h : Ub w b u) {k : Nat} (hk : b ≠ k) (i : Nat) (v : Value) : Ub (w.setCell ⟨k, i, none⟩ v) b u := (Below.heap_setCell _ _ _ _ hk).trans h
theorem Ub.new (w : World) (u : Up) : Ub (w.alloc (.cells #[.string u.1, .int .i64 u.2.1, .int .i64 u.2.2.1, .string u.2.2.2] 45)) w.heap.size u := heap_alloc_new _ _
theorem Ub.set0 {w b u} (h : Ub w b u) (s : ByteArray) : Ub (w.setCell ⟨b, 0, none⟩ (.string s)) b (s, u.2) := by
  unfold Ub at *; simp [World.setCell, Array.getElem?_modify, h]
theorem Ub.set1 {w b u} (h : Ub w b u) (k : Int) : Ub (w.setCell ⟨b, 1, none⟩ (.int .i64 k)) b (u.1, k, u.2.2) := by
  unfold Ub at *; simp [World.setCell, Array.getElem?_modify, h]
theorem Ub.set2 {w b u} (h : Ub w b u) (k : Int) : Ub (w.setCell ⟨b, 2, none⟩ (.int .i64 k)) b (u.1, u.2.1, k, u.2.2.2) := by
  unfold Ub at *; simp [World.setCell, Array.getElem?_modify, h]
theorem Ub.set3 {w b u} (h : Ub w b u) (s : ByteArray) : Ub (w.setCell ⟨b, 3, none⟩ (.string s)) b (u.1, u.2.1, u.2.2.1, s) := by
  unfold Ub at *; simp [World.setCell, Array.getElem?_modify, h]
theorem Wd.setnew {w : World} (h : Wd w) {k : Nat} (hk : 0 < k) (i : Nat) (v : Value) : Wd (w.setCell ⟨k, i, none⟩ v) :=
  h.grown (row := some k) (grown_set w k i v) (pos0 hk)
theorem Wd.alloc {w : World} (h : Wd w) (o : Obj) : Wd (w.alloc o) := h.grown (grown_alloc w o none) (by simp)
/-- Two new updates' blocks, a reader's own one apart. -/
theorem two_new (w : World) : Ub ((w.alloc (.cells #[.string ⟨#[]⟩, .int .i64 0, .int .i64 0, .string ⟨#[]⟩] 45)).alloc (.cells #[.string ⟨#[]⟩, .int .i64 0, .int .i64 0, .string ⟨#[]⟩] 45)) w.heap.size up0 ∧ Ub ((w.alloc (.cells #[.string ⟨#[]⟩, .int .i64 0, .int .i64 0, .string ⟨#[]⟩] 45)).alloc (.cells #[.string ⟨#[]⟩, .int .i64 0, .int .i64 0, .string ⟨#[]⟩] 45)) (w.heap.size + 1) up0 := by
  refine ⟨(Ub.new w up0).alloc _, ?_⟩
  have h := Ub.new (w.alloc (.cells #[.string ⟨#[]⟩, .int .i64 0, .int .i64 0, .string ⟨#[]⟩] 45)) up0
  have e : (w.alloc (.cells #[.string ⟨#[]⟩, .int .i64 0, .int .i64 0, .string ⟨#[]⟩] 45)).heap.size = w.heap.size + 1 := by simp
  rw [e] at h
  exact h
end Go.Proofs.YtcknklodnfabpaaDoor
