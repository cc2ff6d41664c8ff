/-
  DERIVED. GIVEN WITH THE SEED: THE CARDS: each row of YtpdpmdbdnpemnaaDoorRows.lean that lists a variable, with what it lists TIED to the program's text (the seventh form; the later family's looks); each row that meets fmt, with fmt's text TOLD by the authors' own Lean function (tested against real Go, not proved from fmt's source: count such statements apart). THE CARD IS WHAT COUNTS. Prove the row's statement (the work); the ties are given (YtpdpmdbdnpemnaaDoorTie.lean); close each card by the builder's one call (the guide's Derived/Test/ToyasCard.lean, 'card_holds'). Laid BY PROGRAM, IN A SANDBOX (cutbox-door.mjs). By AI agents, Wed Nov 11 2026. No macro, syntax, notation, axiom, sorry.
-/
import Derived.Test.YtpdpmdbdnpemnaaDoorRows
import GoSem.ClaimSeven
namespace Go.Proofs.YtpdpmdbdnpemnaaDoor
namespace Rows

/-- THE TIED CARD OF 'chapbooklaw06.UpdatePuts'. -/
def updatePutsCard : Claim7 := { stood := { row := updatePutsRow, standIns := [], harness := (true, "eb56133ef7c6b90c2392f939a86737bd929c01a94e25919560393783b0a7137b"), looks := false }, kinds := [], alts := [], laidByText := true, laidKinds := [.data], laidTests := true, laidLooks := .later }
def UpdatePutsCardSaid : Prop := Claim7.holds Tryd.pinned (.plain (OpenSpec.ofChange updatePutsSpec)) updatePutsCard

/-- THE TIED CARD OF 'chapbooklaw06.UpdateGets'. -/
def updateGetsCard : Claim7 := { stood := { row := updateGetsRow, standIns := [], harness := (true, "eb56133ef7c6b90c2392f939a86737bd929c01a94e25919560393783b0a7137b"), looks := false }, kinds := [], alts := [], laidByText := true, laidKinds := [.data], laidTests := true, laidLooks := .later }
def UpdateGetsCardSaid : Prop := Claim7.holds Tryd.pinned (.plain (OpenSpec.ofChange updateGetsSpec)) updateGetsCard

/-- THE TIED CARD OF 'chapbooklaw06.UpdateBack'. -/
def updateBackCard : Claim7 := { stood := { row := updateBackRow, standIns := [], harness := (true, "eb56133ef7c6b90c2392f939a86737bd929c01a94e25919560393783b0a7137b"), looks := false }, kinds := [], alts := [], laidByText := true, laidKinds := [.data], laidTests := true, laidLooks := .later }
def UpdateBackCardSaid : Prop := Claim7.holds Tryd.pinned (.plain (OpenSpec.ofChange updateBackSpec)) updateBackCard

/-- THE TIED CARD OF 'chapbooklaw06.UpdateOne'. -/
def updateOneCard : Claim7 := { stood := { row := updateOneRow, standIns := [], harness := (true, "eb56133ef7c6b90c2392f939a86737bd929c01a94e25919560393783b0a7137b"), looks := false }, kinds := [], alts := [], laidByText := true, laidKinds := [.data], laidTests := true, laidLooks := .later }
def UpdateOneCardSaid : Prop := Claim7.holds Tryd.pinned (.plain (OpenSpec.ofChange updateOneSpec)) updateOneCard

/-- THE TIED CARD OF 'chapbooklaw06.UpdateParts'. -/
def updatePartsCard : Claim7 := { stood := { row := updatePartsRow, standIns := [], harness := (true, "eb56133ef7c6b90c2392f939a86737bd929c01a94e25919560393783b0a7137b"), looks := false }, kinds := [], alts := [], laidByText := true, laidKinds := [.data], laidTests := true, laidLooks := .later }
def UpdatePartsCardSaid : Prop := Claim7.holds Tryd.pinned (.plain (OpenSpec.ofChange updatePartsSpec)) updatePartsCard

/-- THE TIED CARD OF 'chapbooklaw06.UpdateFront'. -/
def updateFrontCard : Claim7 := { stood := { row := updateFrontRow, standIns := [], harness := (true, "eb56133ef7c6b90c2392f939a86737bd929c01a94e25919560393783b0a7137b"), looks := false }, kinds := [], alts := [], laidByText := true, laidKinds := [.data], laidTests := true, laidLooks := .later }
def UpdateFrontCardSaid : Prop := Claim7.holds Tryd.pinned (.plain (OpenSpec.ofChange updateFrontSpec)) updateFrontCard

/-- THE SECOND FORM's CARD OF 'chapbooklaw06.UpdatePuts'. -/
def updatePutsUptoCard : Claim7 := { stood := { row := updatePutsUptoRow, standIns := [], harness := (true, "eb56133ef7c6b90c2392f939a86737bd929c01a94e25919560393783b0a7137b"), looks := false }, kinds := [], alts := [], laidByText := true, laidKinds := [.data], laidTests := true, laidLooks := .later }
def UpdatePutsUptoCardSaid : Prop := Claim7.holds Tryd.pinned (.plain (OpenSpec.upto updatePutsSpec)) updatePutsUptoCard

/-- THE SECOND FORM's CARD OF 'chapbooklaw06.UpdateGets'. -/
def updateGetsUptoCard : Claim7 := { stood := { row := updateGetsUptoRow, standIns := [], harness := (true, "eb56133ef7c6b90c2392f939a86737bd929c01a94e25919560393783b0a7137b"), looks := false }, kinds := [], alts := [], laidByText := true, laidKinds := [.data], laidTests := true, laidLooks := .later }
def UpdateGetsUptoCardSaid : Prop := Claim7.holds Tryd.pinned (.plain (OpenSpec.upto updateGetsSpec)) updateGetsUptoCard

/-- THE SECOND FORM's CARD OF 'chapbooklaw06.UpdateBack'. -/
def updateBackUptoCard : Claim7 := { stood := { row := updateBackUptoRow, standIns := [], harness := (true, "eb56133ef7c6b90c2392f939a86737bd929c01a94e25919560393783b0a7137b"), looks := false }, kinds := [], alts := [], laidByText := true, laidKinds := [.data], laidTests := true, laidLooks := .later }
def UpdateBackUptoCardSaid : Prop := Claim7.holds Tryd.pinned (.plain (OpenSpec.upto updateBackSpec)) updateBackUptoCard

/-- THE SECOND FORM's CARD OF 'chapbooklaw06.UpdateOne'. -/
def updateOneUptoCard : Claim7 := { stood := { row := updateOneUptoRow, standIns := [], harness := (true, "eb56133ef7c6b90c2392f939a86737bd929c01a94e25919560393783b0a7137b"), looks := false }, kinds := [], alts := [], laidByText := true, laidKinds := [.data], laidTests := true, laidLooks := .later }
def UpdateOneUptoCardSaid : Prop := Claim7.holds Tryd.pinned (.plain (OpenSpec.upto updateOneSpec)) updateOneUptoCard

/-- THE SECOND FORM's CARD OF 'chapbooklaw06.UpdateParts'. -/
def updatePartsUptoCard : Claim7 := { stood := { row := updatePartsUptoRow, standIns := [], harness := (true, "eb56133ef7c6b90c2392f939a86737bd929c01a94e25919560393783b0a7137b"), looks := false }, kinds := [], alts := [], laidByText := true, laidKinds := [.data], laidTests := true, laidLooks := .later }
def UpdatePartsUptoCardSaid : Prop := Claim7.holds Tryd.pinned (.plain (OpenSpec.upto updatePartsSpec)) updatePartsUptoCard

/-- THE SECOND FORM's CARD OF 'chapbooklaw06.UpdateFront'. -/
def updateFrontUptoCard : Claim7 := { stood := { row := updateFrontUptoRow, standIns := [], harness := (true, "eb56133ef7c6b90c2392f939a86737bd929c01a94e25919560393783b0a7137b"), looks := false }, kinds := [], alts := [], laidByText := true, laidKinds := [.data], laidTests := true, laidLooks := .later }
def UpdateFrontUptoCardSaid : Prop := Claim7.holds Tryd.pinned (.plain (OpenSpec.upto updateFrontSpec)) updateFrontUptoCard
end Rows
end Go.Proofs.YtpdpmdbdnpemnaaDoor
