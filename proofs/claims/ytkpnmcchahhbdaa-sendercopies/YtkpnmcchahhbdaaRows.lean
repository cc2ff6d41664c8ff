/-
  No cell of these rows narrows 'for every input' (looked for: loops, veiled, ifaces, maps, wideKeys, modest, calm, conditions, laid).
  DERIVED. THE GIVEN ROWS OF THIS SEAT. 5 by the template 'for every input the law returns true; each argument reads behind the call as it read before'; 0 by the template 'total and deterministic' (their statements: YtkpnmcchahhbdaaTotals.lean).
  GIVEN WITH THE SEED: the statements are not yours to turn. If you find one false, say at which input.
  Laid BY PROGRAM, IN A SANDBOX (cutbox-rows.mjs): the forced cells as the released guide's own fill.sh prints them over the translation aaf625ca5650c500… (all of the seat's roots in one cut). By AI agents, Wed Nov 11 2026. No macro, syntax, notation, axiom, sorry.
-/
import Derived.Test.YtkpnmcchahhbdaaChecked
import GoSem.Claim
import GoSem.ClaimJoined
import GoSem.ClaimMapViews
import Derived.JoinedTies
import Derived.KernelRfl
namespace Go.Proofs.Ytkpnmcchahhbdaa
/- THE CELL 'sum', in the pinned program and in every row, IS THE sha256 OF THE DUMP (.gsa) THAT YtkpnmcchahhbdaaProg.lean LOADS. Nothing in Lean hashes anything: it is a label: what it is worth is what the hold of that sum in a sandbox is worth. -/
noncomputable def Try.pinned : Pinned := { name := "ytkpnmcchahhbdaa", sum := "aaf625ca5650c500e316780dab9f6789e96ba8b09db3922e43dd012fa6b21ee7", checked := Try.checked }
namespace Rows
def none {H : Type} : Left H := { results := [], args := [] }

/-- 'chapbooklaw10.SenderPlays': WHATEVER THE INPUT: true; the input reads as it did. -/
def senderPlaysSpec : ChangeSpec := { name := "senderPlays", fn := fun _ => fun
  | [d1, d2] => { results := [.lit (.bool true)], args := [d1, d2] }
  | _ => none }
def senderPlaysRow : OpenClaim := { program := "ytkpnmcchahhbdaa", sum := "aaf625ca5650c500e316780dab9f6789e96ba8b09db3922e43dd012fa6b21ee7", func := "chapbook/chapbooklaw10.SenderPlays", spec := "senderPlays", apart := false }
def SenderPlaysSaid : Prop := senderPlaysRow.holds Try.pinned (OpenSpec.ofChange senderPlaysSpec)

/-- ITS FALSE NEIGHBOUR: 'it returns false'. Refute it at one input. -/
def senderPlaysWrong : ChangeSpec := { name := "senderPlays", fn := fun _ => fun
  | [d1, d2] => { results := [.lit (.bool false)], args := [d1, d2] }
  | _ => none }
def SenderPlaysWrongFalsely : Prop := senderPlaysRow.holds Try.pinned (OpenSpec.ofChange senderPlaysWrong)

/-- 'chapbooklaw10.SenderFifo': WHATEVER THE INPUT: true; the input reads as it did. -/
def senderFifoSpec : ChangeSpec := { name := "senderFifo", fn := fun _ => fun
  | [d1, d2] => { results := [.lit (.bool true)], args := [d1, d2] }
  | _ => none }
def senderFifoRow : OpenClaim := { program := "ytkpnmcchahhbdaa", sum := "aaf625ca5650c500e316780dab9f6789e96ba8b09db3922e43dd012fa6b21ee7", func := "chapbook/chapbooklaw10.SenderFifo", spec := "senderFifo", apart := false }
def SenderFifoSaid : Prop := senderFifoRow.holds Try.pinned (OpenSpec.ofChange senderFifoSpec)

/-- ITS FALSE NEIGHBOUR: 'it returns false'. Refute it at one input. -/
def senderFifoWrong : ChangeSpec := { name := "senderFifo", fn := fun _ => fun
  | [d1, d2] => { results := [.lit (.bool false)], args := [d1, d2] }
  | _ => none }
def SenderFifoWrongFalsely : Prop := senderFifoRow.holds Try.pinned (OpenSpec.ofChange senderFifoWrong)

/-- 'chapbooklaw10.SenderFull': WHATEVER THE INPUT: true; the input reads as it did. -/
def senderFullSpec : ChangeSpec := { name := "senderFull", fn := fun _ => fun
  | [d1, d2] => { results := [.lit (.bool true)], args := [d1, d2] }
  | _ => none }
def senderFullRow : OpenClaim := { program := "ytkpnmcchahhbdaa", sum := "aaf625ca5650c500e316780dab9f6789e96ba8b09db3922e43dd012fa6b21ee7", func := "chapbook/chapbooklaw10.SenderFull", spec := "senderFull", apart := false }
def SenderFullSaid : Prop := senderFullRow.holds Try.pinned (OpenSpec.ofChange senderFullSpec)

/-- ITS FALSE NEIGHBOUR: 'it returns false'. Refute it at one input. -/
def senderFullWrong : ChangeSpec := { name := "senderFull", fn := fun _ => fun
  | [d1, d2] => { results := [.lit (.bool false)], args := [d1, d2] }
  | _ => none }
def SenderFullWrongFalsely : Prop := senderFullRow.holds Try.pinned (OpenSpec.ofChange senderFullWrong)

/-- 'chapbooklaw10.SenderAcks': WHATEVER THE INPUT: true; the input reads as it did. -/
def senderAcksSpec : ChangeSpec := { name := "senderAcks", fn := fun _ => fun
  | [d1, d2] => { results := [.lit (.bool true)], args := [d1, d2] }
  | _ => none }
def senderAcksRow : OpenClaim := { program := "ytkpnmcchahhbdaa", sum := "aaf625ca5650c500e316780dab9f6789e96ba8b09db3922e43dd012fa6b21ee7", func := "chapbook/chapbooklaw10.SenderAcks", spec := "senderAcks", apart := false }
def SenderAcksSaid : Prop := senderAcksRow.holds Try.pinned (OpenSpec.ofChange senderAcksSpec)

/-- ITS FALSE NEIGHBOUR: 'it returns false'. Refute it at one input. -/
def senderAcksWrong : ChangeSpec := { name := "senderAcks", fn := fun _ => fun
  | [d1, d2] => { results := [.lit (.bool false)], args := [d1, d2] }
  | _ => none }
def SenderAcksWrongFalsely : Prop := senderAcksRow.holds Try.pinned (OpenSpec.ofChange senderAcksWrong)

/-- 'chapbooklaw10.SenderCopies': WHATEVER THE INPUT: true; the input reads as it did. -/
def senderCopiesSpec : ChangeSpec := { name := "senderCopies", fn := fun _ => fun
  | [d1, d2, d3] => { results := [.lit (.bool true)], args := [d1, d2, d3] }
  | _ => none }
def senderCopiesRow : OpenClaim := { program := "ytkpnmcchahhbdaa", sum := "aaf625ca5650c500e316780dab9f6789e96ba8b09db3922e43dd012fa6b21ee7", func := "chapbook/chapbooklaw10.SenderCopies", spec := "senderCopies", apart := false }
def SenderCopiesSaid : Prop := senderCopiesRow.holds Try.pinned (OpenSpec.ofChange senderCopiesSpec)

/-- ITS FALSE NEIGHBOUR: 'it returns false'. Refute it at one input. -/
def senderCopiesWrong : ChangeSpec := { name := "senderCopies", fn := fun _ => fun
  | [d1, d2, d3] => { results := [.lit (.bool false)], args := [d1, d2, d3] }
  | _ => none }
def SenderCopiesWrongFalsely : Prop := senderCopiesRow.holds Try.pinned (OpenSpec.ofChange senderCopiesWrong)

/- THE SECOND FORM. 'bulk': how many values and letters a reading holds, each counted each time it is reached (what is shared counts as often as it is met; a slice's spare places count too). A statement '..UptoSaid' is the law's where the arguments, and the package variables that the reading takes, are together of bulk at most 1048576: NARROWER than '..Said'. Prove '..Said' where nothing that the law and all that it calls make is longer than what came in: it says more and counts as full. Else prove '..UptoSaid'. A law counts once. -/
mutual
def uptoBulk {H : Type} : DataW H → Nat
  | .lit (.string bytes) => bytes.length + 1
  | .lit _ => 1
  | .nil => 1
  | .ptr d => uptoBulk d + 1
  | .slice elems spare => uptoBulkAll elems + uptoBulkAll spare + 1
  | .agg parts => uptoBulkAll parts + 1
  | .iface _ d => uptoBulk d + 1
  | .map entries => uptoBulkEntries entries + 1
  | .held _ => 1
def uptoBulkAll {H : Type} : List (DataW H) → Nat
  | [] => 0
  | d :: r => uptoBulk d + uptoBulkAll r
def uptoBulkEntries {H : Type} : List (Lit × DataW H) → Nat
  | [] => 0
  | x :: r => uptoBulkEntry x + uptoBulkEntries r
def uptoBulkEntry {H : Type} : Lit × DataW H → Nat
  | (.string bytes, d) => bytes.length + uptoBulk d + 1
  | (_, d) => uptoBulk d + 1
 end
def uptoSmall : (H : Type) → List (DataW H) → Bool := fun _ ds => decide (uptoBulkAll ds ≤ 1048576)
def OpenSpec.upto (s : _root_.Go.ChangeSpec) : _root_.Go.OpenSpec := { _root_.Go.OpenSpec.ofChange s with cond := some uptoSmall }

/-- 'chapbooklaw10.SenderPlays', WHERE WHAT IT READS IS OF BULK AT MOST 1048576: true; the input reads as it did. -/
def senderPlaysUptoRow : OpenClaim := { program := "ytkpnmcchahhbdaa", sum := "aaf625ca5650c500e316780dab9f6789e96ba8b09db3922e43dd012fa6b21ee7", func := "chapbook/chapbooklaw10.SenderPlays", spec := "senderPlays", apart := false, narrowed := true }
def SenderPlaysUptoSaid : Prop := senderPlaysUptoRow.holds Try.pinned (OpenSpec.upto senderPlaysSpec)

/-- 'chapbooklaw10.SenderFifo', WHERE WHAT IT READS IS OF BULK AT MOST 1048576: true; the input reads as it did. -/
def senderFifoUptoRow : OpenClaim := { program := "ytkpnmcchahhbdaa", sum := "aaf625ca5650c500e316780dab9f6789e96ba8b09db3922e43dd012fa6b21ee7", func := "chapbook/chapbooklaw10.SenderFifo", spec := "senderFifo", apart := false, narrowed := true }
def SenderFifoUptoSaid : Prop := senderFifoUptoRow.holds Try.pinned (OpenSpec.upto senderFifoSpec)

/-- 'chapbooklaw10.SenderFull', WHERE WHAT IT READS IS OF BULK AT MOST 1048576: true; the input reads as it did. -/
def senderFullUptoRow : OpenClaim := { program := "ytkpnmcchahhbdaa", sum := "aaf625ca5650c500e316780dab9f6789e96ba8b09db3922e43dd012fa6b21ee7", func := "chapbook/chapbooklaw10.SenderFull", spec := "senderFull", apart := false, narrowed := true }
def SenderFullUptoSaid : Prop := senderFullUptoRow.holds Try.pinned (OpenSpec.upto senderFullSpec)

/-- 'chapbooklaw10.SenderAcks', WHERE WHAT IT READS IS OF BULK AT MOST 1048576: true; the input reads as it did. -/
def senderAcksUptoRow : OpenClaim := { program := "ytkpnmcchahhbdaa", sum := "aaf625ca5650c500e316780dab9f6789e96ba8b09db3922e43dd012fa6b21ee7", func := "chapbook/chapbooklaw10.SenderAcks", spec := "senderAcks", apart := false, narrowed := true }
def SenderAcksUptoSaid : Prop := senderAcksUptoRow.holds Try.pinned (OpenSpec.upto senderAcksSpec)

/-- 'chapbooklaw10.SenderCopies', WHERE WHAT IT READS IS OF BULK AT MOST 1048576: true; the input reads as it did. -/
def senderCopiesUptoRow : OpenClaim := { program := "ytkpnmcchahhbdaa", sum := "aaf625ca5650c500e316780dab9f6789e96ba8b09db3922e43dd012fa6b21ee7", func := "chapbook/chapbooklaw10.SenderCopies", spec := "senderCopies", apart := false, narrowed := true }
def SenderCopiesUptoSaid : Prop := senderCopiesUptoRow.holds Try.pinned (OpenSpec.upto senderCopiesSpec)

end Rows
end Go.Proofs.Ytkpnmcchahhbdaa
