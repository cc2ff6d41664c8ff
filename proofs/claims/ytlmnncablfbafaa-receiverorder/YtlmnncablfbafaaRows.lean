/-
  No cell of these rows narrows 'for every input' (looked for: loops, veiled, ifaces, maps, wideKeys, modest, calm, conditions, laid).
  DERIVED. THE GIVEN ROWS OF THIS SEAT. 4 by the template 'for every input the law returns true; each argument reads behind the call as it read before'; 0 by the template 'total and deterministic' (their statements: YtlmnncablfbafaaTotals.lean).
  GIVEN WITH THE SEED: the statements are not yours to turn. If you find one false, say at which input.
  Laid BY PROGRAM, IN A SANDBOX (cutbox-rows.mjs): the forced cells as the released guide's own fill.sh prints them over the translation 1faecd0625c2e9c5… (all of the seat's roots in one cut). By AI agents, Wed Nov 11 2026. No macro, syntax, notation, axiom, sorry.
-/
import Derived.Test.YtlmnncablfbafaaChecked
import GoSem.Claim
import GoSem.ClaimJoined
import GoSem.ClaimMapViews
import Derived.JoinedTies
import Derived.KernelRfl
namespace Go.Proofs.Ytlmnncablfbafaa
/- THE CELL 'sum', in the pinned program and in every row, IS THE sha256 OF THE DUMP (.gsa) THAT YtlmnncablfbafaaProg.lean LOADS. Nothing in Lean hashes anything: it is a label: what it is worth is what the hold of that sum in a sandbox is worth. -/
noncomputable def Try.pinned : Pinned := { name := "ytlmnncablfbafaa", sum := "1faecd0625c2e9c5c184d7a414d29e4e0df20d124bc9ee48bee8ed261dcc6fd5", checked := Try.checked }
namespace Rows
def none {H : Type} : Left H := { results := [], args := [] }

/-- 'chapbooklaw11.ReceiverPlays': WHATEVER THE INPUT: true; the input reads as it did. -/
def receiverPlaysSpec : ChangeSpec := { name := "receiverPlays", fn := fun _ => fun
  | [d1, d2] => { results := [.lit (.bool true)], args := [d1, d2] }
  | _ => none }
def receiverPlaysRow : OpenClaim := { program := "ytlmnncablfbafaa", sum := "1faecd0625c2e9c5c184d7a414d29e4e0df20d124bc9ee48bee8ed261dcc6fd5", func := "chapbook/chapbooklaw11.ReceiverPlays", spec := "receiverPlays", apart := false }
def ReceiverPlaysSaid : Prop := receiverPlaysRow.holds Try.pinned (OpenSpec.ofChange receiverPlaysSpec)

/-- ITS FALSE NEIGHBOUR: 'it returns false'. Refute it at one input. -/
def receiverPlaysWrong : ChangeSpec := { name := "receiverPlays", fn := fun _ => fun
  | [d1, d2] => { results := [.lit (.bool false)], args := [d1, d2] }
  | _ => none }
def ReceiverPlaysWrongFalsely : Prop := receiverPlaysRow.holds Try.pinned (OpenSpec.ofChange receiverPlaysWrong)

/-- 'chapbooklaw11.ReceiverOnce': WHATEVER THE INPUT: true; the input reads as it did. -/
def receiverOnceSpec : ChangeSpec := { name := "receiverOnce", fn := fun _ => fun
  | [d1, d2] => { results := [.lit (.bool true)], args := [d1, d2] }
  | _ => none }
def receiverOnceRow : OpenClaim := { program := "ytlmnncablfbafaa", sum := "1faecd0625c2e9c5c184d7a414d29e4e0df20d124bc9ee48bee8ed261dcc6fd5", func := "chapbook/chapbooklaw11.ReceiverOnce", spec := "receiverOnce", apart := false }
def ReceiverOnceSaid : Prop := receiverOnceRow.holds Try.pinned (OpenSpec.ofChange receiverOnceSpec)

/-- ITS FALSE NEIGHBOUR: 'it returns false'. Refute it at one input. -/
def receiverOnceWrong : ChangeSpec := { name := "receiverOnce", fn := fun _ => fun
  | [d1, d2] => { results := [.lit (.bool false)], args := [d1, d2] }
  | _ => none }
def ReceiverOnceWrongFalsely : Prop := receiverOnceRow.holds Try.pinned (OpenSpec.ofChange receiverOnceWrong)

/-- 'chapbooklaw11.ReceiverRoom': WHATEVER THE INPUT: true; the input reads as it did. -/
def receiverRoomSpec : ChangeSpec := { name := "receiverRoom", fn := fun _ => fun
  | [d1, d2] => { results := [.lit (.bool true)], args := [d1, d2] }
  | _ => none }
def receiverRoomRow : OpenClaim := { program := "ytlmnncablfbafaa", sum := "1faecd0625c2e9c5c184d7a414d29e4e0df20d124bc9ee48bee8ed261dcc6fd5", func := "chapbook/chapbooklaw11.ReceiverRoom", spec := "receiverRoom", apart := false }
def ReceiverRoomSaid : Prop := receiverRoomRow.holds Try.pinned (OpenSpec.ofChange receiverRoomSpec)

/-- ITS FALSE NEIGHBOUR: 'it returns false'. Refute it at one input. -/
def receiverRoomWrong : ChangeSpec := { name := "receiverRoom", fn := fun _ => fun
  | [d1, d2] => { results := [.lit (.bool false)], args := [d1, d2] }
  | _ => none }
def ReceiverRoomWrongFalsely : Prop := receiverRoomRow.holds Try.pinned (OpenSpec.ofChange receiverRoomWrong)

/-- 'chapbooklaw11.ReceiverOrder': WHATEVER THE INPUT: true; the input reads as it did. -/
def receiverOrderSpec : ChangeSpec := { name := "receiverOrder", fn := fun _ => fun
  | [d] => { results := [.lit (.bool true)], args := [d] }
  | _ => none }
def receiverOrderRow : OpenClaim := { program := "ytlmnncablfbafaa", sum := "1faecd0625c2e9c5c184d7a414d29e4e0df20d124bc9ee48bee8ed261dcc6fd5", func := "chapbook/chapbooklaw11.ReceiverOrder", spec := "receiverOrder", apart := false }
def ReceiverOrderSaid : Prop := receiverOrderRow.holds Try.pinned (OpenSpec.ofChange receiverOrderSpec)

/-- ITS FALSE NEIGHBOUR: 'it returns false'. Refute it at one input. -/
def receiverOrderWrong : ChangeSpec := { name := "receiverOrder", fn := fun _ => fun
  | [d] => { results := [.lit (.bool false)], args := [d] }
  | _ => none }
def ReceiverOrderWrongFalsely : Prop := receiverOrderRow.holds Try.pinned (OpenSpec.ofChange receiverOrderWrong)

/- THE SECOND FORM. 'bulk': how many values and letters a reading holds, each counted each time it is reached (what is shared counts as often as it is met; a slice's spare places count too). A statement '..UptoSaid' is the law's where the arguments, and the package variables that the reading takes, are together of bulk at most 1048576: NARROWER than '..Said'. Prove '..Said' where nothing that the law and all that it calls make is longer than what came in: it says more and counts as full. Else prove '..UptoSaid'. A law counts once. -/
mutual
def uptoBulk {H : Type} : DataW H → Nat
  | .lit (.string bytes) => bytes.length + 1
  | .lit _ => 1
  | .nil => 1
  | .ptr d => uptoBulk d + 1
  | .slice elems spare => uptoBulkAll elems + uptoBulkAll spare + 1
  | .agg parts => uptoBulkAll parts + 1
  | .iface _ d => uptoBulk d + 1
  | .map entries => uptoBulkEntries entries + 1
  | .held _ => 1
def uptoBulkAll {H : Type} : List (DataW H) → Nat
  | [] => 0
  | d :: r => uptoBulk d + uptoBulkAll r
def uptoBulkEntries {H : Type} : List (Lit × DataW H) → Nat
  | [] => 0
  | x :: r => uptoBulkEntry x + uptoBulkEntries r
def uptoBulkEntry {H : Type} : Lit × DataW H → Nat
  | (.string bytes, d) => bytes.length + uptoBulk d + 1
  | (_, d) => uptoBulk d + 1
 end
def uptoSmall : (H : Type) → List (DataW H) → Bool := fun _ ds => decide (uptoBulkAll ds ≤ 1048576)
def OpenSpec.upto (s : _root_.Go.ChangeSpec) : _root_.Go.OpenSpec := { _root_.Go.OpenSpec.ofChange s with cond := some uptoSmall }

/-- 'chapbooklaw11.ReceiverPlays', WHERE WHAT IT READS IS OF BULK AT MOST 1048576: true; the input reads as it did. -/
def receiverPlaysUptoRow : OpenClaim := { program := "ytlmnncablfbafaa", sum := "1faecd0625c2e9c5c184d7a414d29e4e0df20d124bc9ee48bee8ed261dcc6fd5", func := "chapbook/chapbooklaw11.ReceiverPlays", spec := "receiverPlays", apart := false, narrowed := true }
def ReceiverPlaysUptoSaid : Prop := receiverPlaysUptoRow.holds Try.pinned (OpenSpec.upto receiverPlaysSpec)

/-- 'chapbooklaw11.ReceiverOnce', WHERE WHAT IT READS IS OF BULK AT MOST 1048576: true; the input reads as it did. -/
def receiverOnceUptoRow : OpenClaim := { program := "ytlmnncablfbafaa", sum := "1faecd0625c2e9c5c184d7a414d29e4e0df20d124bc9ee48bee8ed261dcc6fd5", func := "chapbook/chapbooklaw11.ReceiverOnce", spec := "receiverOnce", apart := false, narrowed := true }
def ReceiverOnceUptoSaid : Prop := receiverOnceUptoRow.holds Try.pinned (OpenSpec.upto receiverOnceSpec)

/-- 'chapbooklaw11.ReceiverRoom', WHERE WHAT IT READS IS OF BULK AT MOST 1048576: true; the input reads as it did. -/
def receiverRoomUptoRow : OpenClaim := { program := "ytlmnncablfbafaa", sum := "1faecd0625c2e9c5c184d7a414d29e4e0df20d124bc9ee48bee8ed261dcc6fd5", func := "chapbook/chapbooklaw11.ReceiverRoom", spec := "receiverRoom", apart := false, narrowed := true }
def ReceiverRoomUptoSaid : Prop := receiverRoomUptoRow.holds Try.pinned (OpenSpec.upto receiverRoomSpec)

/-- 'chapbooklaw11.ReceiverOrder', WHERE WHAT IT READS IS OF BULK AT MOST 1048576: true; the input reads as it did. -/
def receiverOrderUptoRow : OpenClaim := { program := "ytlmnncablfbafaa", sum := "1faecd0625c2e9c5c184d7a414d29e4e0df20d124bc9ee48bee8ed261dcc6fd5", func := "chapbook/chapbooklaw11.ReceiverOrder", spec := "receiverOrder", apart := false, narrowed := true }
def ReceiverOrderUptoSaid : Prop := receiverOrderUptoRow.holds Try.pinned (OpenSpec.upto receiverOrderSpec)

end Rows
end Go.Proofs.Ytlmnncablfbafaa
