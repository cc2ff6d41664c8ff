/- What the frames of all laws share: the listed table, the door's own heap. -/
import Derived.Test.YtpdpmdbdnpemnaaDoorRows
import Derived.Test.YtpdpmdbdnpemnaaDoorW1
import Derived.WalkKit
import Derived.ProofKit
import Derived.OpenShut
import Derived.LaidMore
import Derived.Lib.LaidTab
import Derived.Stop.Joined
namespace Go.Proofs.YtpdpmdbdnpemnaaDoor
open Go.ChangeShapes Go.WideShapes Go.ChangeAt Go.RowKit
theorem own : ownKnob Tryd.prog.godebug = none := by kernel_rfl
theorem laidOut : laidOutB Tryd.prog = true := by kernel_rfl
/-- What the rows list. -/
def laidW : List (String × DataW Unit) := [("chapbook/prefix.widths", Rows.laid_chapbook_prefix_widths)]
theorem gW : Tryd.prog.globalNamed "chapbook/prefix.widths" = some 0 := by kernel_rfl
theorem tW : (Tryd.prog.globals[0]?).map (·.type) = some 95 := by kernel_rfl
theorem cells3 : Tryd.prog.cellsOf 3 = 1 := by kernel_rfl
theorem cells51 : Tryd.prog.cellsOf 95 = 4 := by kernel_rfl
theorem door_met (os : Os) (args : Array Value) : laidMetH Tryd.prog laidW ((World.doorLaid Tryd.prog 400 os).forCall (fun _ _ => 0) ⟨#[], args, []⟩).memory :=
  laidMetH_of_parts3 (fuel := 8) (laidMet_of_run' 8 (by kernel_rfl) (by kernel_rfl)) (by kernel_rfl) (by kernel_rfl)
theorem wd_of_laid {W : World} (h : laidMetH Tryd.prog laidW W) : Wd W := by
  rw [MakeChecks.laidMetH_plain _ _ _ (by kernel_rfl)] at h
  have hT := Lib.tabIs_of_head (zs := [1, 2, 4, 8]) (k := .i64) gW tW Tryd.underlying95 Tryd.underlying3 cells3 cells51 h
  have c0 := hT.cell gW 0 (by decide)
  refine ⟨c0, hT.cell gW 1 (by decide), hT.cell gW 2 (by decide), hT.cell gW 3 (by decide), ?_⟩
  rcases Nat.eq_zero_or_pos W.heap.size with h0 | h0
  · simp [World.cell?, h0] at c0
  · exact h0
theorem nonneg_u64 {n : Int} (h : (Lit.int .u64 n).wf = true) : 0 ≤ n := by
  have := bounds_u64 h; omega
theorem bd_i64 {n : Int} (h : (Lit.int .i64 n).wf = true) : -9223372036854775808 ≤ n ∧ n ≤ 9223372036854775807 := by
  have := bounds_i64 h; omega
/-- What the walk is told of a slice of integers that came in. -/
def IsRow (k : IntKind) (w : World) (a : Option Addr) (len cap : Nat) (zs : List Int) : Prop :=
  (a = none ∧ len = 0 ∧ cap = 0 ∧ zs = []) ∨
  ∃ x, a = some x ∧ len ≤ cap ∧ cap ≤ maxLen ∧ zs.length = cap ∧ (∀ i, i < zs.length → w.cell? (x.add i) = some (.int k (zs.getD i 0))) ∧ ∀ n ∈ zs, (Lit.int k n).wf = true
end Go.Proofs.YtpdpmdbdnpemnaaDoor
