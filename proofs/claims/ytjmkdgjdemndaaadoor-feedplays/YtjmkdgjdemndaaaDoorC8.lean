/- What the walks share. -/
import Derived.Test.YtjmkdgjdemndaaaDoorC6
namespace Go.Proofs.YtjmkdgjdemndaaaDoor
open Go Go.RowKit
set_option maxRecDepth 20000
theorem Rb.left {w w' : World} {k : Nat} {o n : Int} {a : Option Addr} {l c : Nat} {F : Nat → Prop} (h : Rb w k o n a l c) (hl : Lv w w' F) (hk : ¬ F k) : Rb w' k o n a l c := (hl.block k h.lt hk).trans h
/-- A round of what All told is one of the log's. -/
theorem mem_of {xs : List Rn} {L : List Cr} (h : xs.map kR = L) {i : Nat} (hi : i < xs.length) : kR (xs.getD i rn0) ∈ L := by
  rw [← h]
  exact List.mem_map.2 ⟨_, rn_mem hi, rfl⟩
end Go.Proofs.YtjmkdgjdemndaaaDoor
