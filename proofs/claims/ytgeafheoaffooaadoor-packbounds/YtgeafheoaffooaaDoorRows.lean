/-
  NARROWER THAN 'FOR EVERY INPUT', by the rows' own cells (each row's printed sentence says how): PackReads: laid · PackWrites: laid · PackBack: laid · PackStops: laid · PackBounds: laid.
  DERIVED. THE GIVEN ROWS OF THIS SEAT. 5 by the template 'for every input the law returns true; each argument reads behind the call as it read before'; 0 by the template 'total and deterministic' (their statements: YtgeafheoaffooaaDoorTotals.lean).
  GIVEN WITH THE SEED: the statements are not yours to turn. If you find one false, say at which input.
  Laid BY PROGRAM, IN A SANDBOX (cutbox-rows.mjs): the forced cells as the released guide's own fill.sh prints them over the translation d988b3eff863cfb5… (all of the seat's roots in one cut). By AI agents, Wed Nov 11 2026. No macro, syntax, notation, axiom, sorry.
-/
import Derived.Test.YtgeafheoaffooaaDoorChecked
import GoSem.Claim
import GoSem.ClaimJoined
import GoSem.ClaimMapViews
import Derived.JoinedTies
import Derived.KernelRfl
namespace Go.Proofs.YtgeafheoaffooaaDoor
/- THE CELL 'sum', in the pinned program and in every row, IS THE sha256 OF THE DUMP (.gsa) THAT YtgeafheoaffooaaDoorProg.lean LOADS. Nothing in Lean hashes anything: it is a label: what it is worth is what the hold of that sum in a sandbox is worth. -/
noncomputable def Tryd.pinned : Pinned := { name := "ytgeafheoaffooaadoor", sum := "d988b3eff863cfb5d2e0e98de0a35f2f6062602e2c0db1a2f26244c3b6b1db37", checked := Tryd.checked }
namespace Rows
def none {H : Type} : Left H := { results := [], args := [] }

/- WHAT THE LISTED PACKAGE-LEVEL VARIABLES READ AS WHEN THE CALL BEGINS. Each datum BY PROGRAM (the guide's laid-datum.mjs) off the statement by which the dump's own 'gosem.cut.vars' lays the variable. In a bare row this is a premise. The card (YtgeafheoaffooaaDoorCards.lean) ties it to the program's text. -/
def laid_chapbook_prefix_widths {H : Type} : DataW H := .agg [.lit (.int .i64 1), .lit (.int .i64 2), .lit (.int .i64 4), .lit (.int .i64 8)]

/-- 'chapbooklaw03.PackReads': WHATEVER THE INPUT: true; the input reads as it did. -/
def packReadsSpec : ChangeSpec := { name := "packReads", fn := fun _ => fun
  | [d1, d2] => { results := [.lit (.bool true)], args := [d1, d2] }
  | _ => none }
def packReadsRow : OpenClaim := { program := "ytgeafheoaffooaadoor", sum := "d988b3eff863cfb5d2e0e98de0a35f2f6062602e2c0db1a2f26244c3b6b1db37", func := "chapbook/chapbooklaw03.PackReads", spec := "packReads", named := ["chapbook/prefix.widths"], apart := false, laid := [("chapbook/prefix.widths", laid_chapbook_prefix_widths)] }
def PackReadsSaid : Prop := packReadsRow.holds Tryd.pinned (OpenSpec.ofChange packReadsSpec)

/-- ITS FALSE NEIGHBOUR: 'it returns false'. Refute it at one input. -/
def packReadsWrong : ChangeSpec := { name := "packReads", fn := fun _ => fun
  | [d1, d2] => { results := [.lit (.bool false)], args := [d1, d2] }
  | _ => none }
def PackReadsWrongFalsely : Prop := packReadsRow.holds Tryd.pinned (OpenSpec.ofChange packReadsWrong)

/-- 'chapbooklaw03.PackWrites': WHATEVER THE INPUT: true; the input reads as it did. -/
def packWritesSpec : ChangeSpec := { name := "packWrites", fn := fun _ => fun
  | [d] => { results := [.lit (.bool true)], args := [d] }
  | _ => none }
def packWritesRow : OpenClaim := { program := "ytgeafheoaffooaadoor", sum := "d988b3eff863cfb5d2e0e98de0a35f2f6062602e2c0db1a2f26244c3b6b1db37", func := "chapbook/chapbooklaw03.PackWrites", spec := "packWrites", named := ["chapbook/prefix.widths"], apart := false, laid := [("chapbook/prefix.widths", laid_chapbook_prefix_widths)] }
def PackWritesSaid : Prop := packWritesRow.holds Tryd.pinned (OpenSpec.ofChange packWritesSpec)

/-- ITS FALSE NEIGHBOUR: 'it returns false'. Refute it at one input. -/
def packWritesWrong : ChangeSpec := { name := "packWrites", fn := fun _ => fun
  | [d] => { results := [.lit (.bool false)], args := [d] }
  | _ => none }
def PackWritesWrongFalsely : Prop := packWritesRow.holds Tryd.pinned (OpenSpec.ofChange packWritesWrong)

/-- 'chapbooklaw03.PackBack': WHATEVER THE INPUT: true; the input reads as it did. -/
def packBackSpec : ChangeSpec := { name := "packBack", fn := fun _ => fun
  | [d] => { results := [.lit (.bool true)], args := [d] }
  | _ => none }
def packBackRow : OpenClaim := { program := "ytgeafheoaffooaadoor", sum := "d988b3eff863cfb5d2e0e98de0a35f2f6062602e2c0db1a2f26244c3b6b1db37", func := "chapbook/chapbooklaw03.PackBack", spec := "packBack", named := ["chapbook/prefix.widths"], apart := false, laid := [("chapbook/prefix.widths", laid_chapbook_prefix_widths)] }
def PackBackSaid : Prop := packBackRow.holds Tryd.pinned (OpenSpec.ofChange packBackSpec)

/-- ITS FALSE NEIGHBOUR: 'it returns false'. Refute it at one input. -/
def packBackWrong : ChangeSpec := { name := "packBack", fn := fun _ => fun
  | [d] => { results := [.lit (.bool false)], args := [d] }
  | _ => none }
def PackBackWrongFalsely : Prop := packBackRow.holds Tryd.pinned (OpenSpec.ofChange packBackWrong)

/-- 'chapbooklaw03.PackStops': WHATEVER THE INPUT: true; the input reads as it did. -/
def packStopsSpec : ChangeSpec := { name := "packStops", fn := fun _ => fun
  | [d1, d2, d3] => { results := [.lit (.bool true)], args := [d1, d2, d3] }
  | _ => none }
def packStopsRow : OpenClaim := { program := "ytgeafheoaffooaadoor", sum := "d988b3eff863cfb5d2e0e98de0a35f2f6062602e2c0db1a2f26244c3b6b1db37", func := "chapbook/chapbooklaw03.PackStops", spec := "packStops", named := ["chapbook/prefix.widths"], apart := false, laid := [("chapbook/prefix.widths", laid_chapbook_prefix_widths)] }
def PackStopsSaid : Prop := packStopsRow.holds Tryd.pinned (OpenSpec.ofChange packStopsSpec)

/-- ITS FALSE NEIGHBOUR: 'it returns false'. Refute it at one input. -/
def packStopsWrong : ChangeSpec := { name := "packStops", fn := fun _ => fun
  | [d1, d2, d3] => { results := [.lit (.bool false)], args := [d1, d2, d3] }
  | _ => none }
def PackStopsWrongFalsely : Prop := packStopsRow.holds Tryd.pinned (OpenSpec.ofChange packStopsWrong)

/-- 'chapbooklaw03.PackBounds': WHATEVER THE INPUT: true; the input reads as it did. -/
def packBoundsSpec : ChangeSpec := { name := "packBounds", fn := fun _ => fun
  | [d1, d2, d3] => { results := [.lit (.bool true)], args := [d1, d2, d3] }
  | _ => none }
def packBoundsRow : OpenClaim := { program := "ytgeafheoaffooaadoor", sum := "d988b3eff863cfb5d2e0e98de0a35f2f6062602e2c0db1a2f26244c3b6b1db37", func := "chapbook/chapbooklaw03.PackBounds", spec := "packBounds", named := ["chapbook/prefix.widths"], apart := false, laid := [("chapbook/prefix.widths", laid_chapbook_prefix_widths)] }
def PackBoundsSaid : Prop := packBoundsRow.holds Tryd.pinned (OpenSpec.ofChange packBoundsSpec)

/-- ITS FALSE NEIGHBOUR: 'it returns false'. Refute it at one input. -/
def packBoundsWrong : ChangeSpec := { name := "packBounds", fn := fun _ => fun
  | [d1, d2, d3] => { results := [.lit (.bool false)], args := [d1, d2, d3] }
  | _ => none }
def PackBoundsWrongFalsely : Prop := packBoundsRow.holds Tryd.pinned (OpenSpec.ofChange packBoundsWrong)

/- THE SECOND FORM. 'bulk': how many values and letters a reading holds, each counted each time it is reached (what is shared counts as often as it is met; a slice's spare places count too). A statement '..UptoSaid' is the law's where the arguments, and the package variables that the reading takes, are together of bulk at most 1048576: NARROWER than '..Said'. Prove '..Said' where nothing that the law and all that it calls make is longer than what came in: it says more and counts as full. Else prove '..UptoSaid'. A law counts once. -/
mutual
def uptoBulk {H : Type} : DataW H → Nat
  | .lit (.string bytes) => bytes.length + 1
  | .lit _ => 1
  | .nil => 1
  | .ptr d => uptoBulk d + 1
  | .slice elems spare => uptoBulkAll elems + uptoBulkAll spare + 1
  | .agg parts => uptoBulkAll parts + 1
  | .iface _ d => uptoBulk d + 1
  | .map entries => uptoBulkEntries entries + 1
  | .held _ => 1
def uptoBulkAll {H : Type} : List (DataW H) → Nat
  | [] => 0
  | d :: r => uptoBulk d + uptoBulkAll r
def uptoBulkEntries {H : Type} : List (Lit × DataW H) → Nat
  | [] => 0
  | x :: r => uptoBulkEntry x + uptoBulkEntries r
def uptoBulkEntry {H : Type} : Lit × DataW H → Nat
  | (.string bytes, d) => bytes.length + uptoBulk d + 1
  | (_, d) => uptoBulk d + 1
 end
def uptoSmall : (H : Type) → List (DataW H) → Bool := fun _ ds => decide (uptoBulkAll ds ≤ 1048576)
def OpenSpec.upto (s : _root_.Go.ChangeSpec) : _root_.Go.OpenSpec := { _root_.Go.OpenSpec.ofChange s with cond := some uptoSmall }

/-- 'chapbooklaw03.PackReads', WHERE WHAT IT READS IS OF BULK AT MOST 1048576: true; the input reads as it did. -/
def packReadsUptoRow : OpenClaim := { program := "ytgeafheoaffooaadoor", sum := "d988b3eff863cfb5d2e0e98de0a35f2f6062602e2c0db1a2f26244c3b6b1db37", func := "chapbook/chapbooklaw03.PackReads", spec := "packReads", named := ["chapbook/prefix.widths"], apart := false, laid := [("chapbook/prefix.widths", laid_chapbook_prefix_widths)], narrowed := true }
def PackReadsUptoSaid : Prop := packReadsUptoRow.holds Tryd.pinned (OpenSpec.upto packReadsSpec)

/-- 'chapbooklaw03.PackWrites', WHERE WHAT IT READS IS OF BULK AT MOST 1048576: true; the input reads as it did. -/
def packWritesUptoRow : OpenClaim := { program := "ytgeafheoaffooaadoor", sum := "d988b3eff863cfb5d2e0e98de0a35f2f6062602e2c0db1a2f26244c3b6b1db37", func := "chapbook/chapbooklaw03.PackWrites", spec := "packWrites", named := ["chapbook/prefix.widths"], apart := false, laid := [("chapbook/prefix.widths", laid_chapbook_prefix_widths)], narrowed := true }
def PackWritesUptoSaid : Prop := packWritesUptoRow.holds Tryd.pinned (OpenSpec.upto packWritesSpec)

/-- 'chapbooklaw03.PackBack', WHERE WHAT IT READS IS OF BULK AT MOST 1048576: true; the input reads as it did. -/
def packBackUptoRow : OpenClaim := { program := "ytgeafheoaffooaadoor", sum := "d988b3eff863cfb5d2e0e98de0a35f2f6062602e2c0db1a2f26244c3b6b1db37", func := "chapbook/chapbooklaw03.PackBack", spec := "packBack", named := ["chapbook/prefix.widths"], apart := false, laid := [("chapbook/prefix.widths", laid_chapbook_prefix_widths)], narrowed := true }
def PackBackUptoSaid : Prop := packBackUptoRow.holds Tryd.pinned (OpenSpec.upto packBackSpec)

/-- 'chapbooklaw03.PackStops', WHERE WHAT IT READS IS OF BULK AT MOST 1048576: true; the input reads as it did. -/
def packStopsUptoRow : OpenClaim := { program := "ytgeafheoaffooaadoor", sum := "d988b3eff863cfb5d2e0e98de0a35f2f6062602e2c0db1a2f26244c3b6b1db37", func := "chapbook/chapbooklaw03.PackStops", spec := "packStops", named := ["chapbook/prefix.widths"], apart := false, laid := [("chapbook/prefix.widths", laid_chapbook_prefix_widths)], narrowed := true }
def PackStopsUptoSaid : Prop := packStopsUptoRow.holds Tryd.pinned (OpenSpec.upto packStopsSpec)

/-- 'chapbooklaw03.PackBounds', WHERE WHAT IT READS IS OF BULK AT MOST 1048576: true; the input reads as it did. -/
def packBoundsUptoRow : OpenClaim := { program := "ytgeafheoaffooaadoor", sum := "d988b3eff863cfb5d2e0e98de0a35f2f6062602e2c0db1a2f26244c3b6b1db37", func := "chapbook/chapbooklaw03.PackBounds", spec := "packBounds", named := ["chapbook/prefix.widths"], apart := false, laid := [("chapbook/prefix.widths", laid_chapbook_prefix_widths)], narrowed := true }
def PackBoundsUptoSaid : Prop := packBoundsUptoRow.holds Tryd.pinned (OpenSpec.upto packBoundsSpec)

end Rows
end Go.Proofs.YtgeafheoaffooaaDoor
