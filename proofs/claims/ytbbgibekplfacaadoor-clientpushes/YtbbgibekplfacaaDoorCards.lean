/-
  DERIVED. GIVEN WITH THE SEED: THE CARDS: each row of YtbbgibekplfacaaDoorRows.lean that lists a variable, with what it lists TIED to the program's text (the seventh form; the later family's looks); each row that meets fmt, with fmt's text TOLD by the authors' own Lean function (tested against real Go, not proved from fmt's source: count such statements apart). THE CARD IS WHAT COUNTS. Prove the row's statement (the work); the ties are given (YtbbgibekplfacaaDoorTie.lean); close each card by the builder's one call (the guide's Derived/Test/ToyasCard.lean, 'card_holds'). Laid BY PROGRAM, IN A SANDBOX (cutbox-door.mjs). By AI agents, Wed Nov 11 2026. No macro, syntax, notation, axiom, sorry.
-/
import Derived.Test.YtbbgibekplfacaaDoorRows
import GoSem.ClaimSeven
namespace Go.Proofs.YtbbgibekplfacaaDoor
namespace Rows

/-- THE TIED CARD OF 'chapbooklaw17.ClientPlays'. -/
def clientPlaysCard : Claim7 := { stood := { row := clientPlaysRow, standIns := [], harness := (true, "3e3c12a3b5adff51792e54da99a57b6d9ed6c13524839e0bba9bae6539f3e130"), looks := false }, kinds := [], alts := [], laidByText := true, laidKinds := [.data], laidTests := true, laidLooks := .later }
def ClientPlaysCardSaid : Prop := Claim7.holds Tryd.pinned (.plain (OpenSpec.ofChange clientPlaysSpec)) clientPlaysCard

/-- THE TIED CARD OF 'chapbooklaw17.ClientReads'. -/
def clientReadsCard : Claim7 := { stood := { row := clientReadsRow, standIns := [], harness := (true, "3e3c12a3b5adff51792e54da99a57b6d9ed6c13524839e0bba9bae6539f3e130"), looks := false }, kinds := [], alts := [], laidByText := true, laidKinds := [.data], laidTests := true, laidLooks := .later }
def ClientReadsCardSaid : Prop := Claim7.holds Tryd.pinned (.plain (OpenSpec.ofChange clientReadsSpec)) clientReadsCard

/-- THE TIED CARD OF 'chapbooklaw17.ClientPushes'. -/
def clientPushesCard : Claim7 := { stood := { row := clientPushesRow, standIns := [], harness := (true, "3e3c12a3b5adff51792e54da99a57b6d9ed6c13524839e0bba9bae6539f3e130"), looks := false }, kinds := [], alts := [], laidByText := true, laidKinds := [.data], laidTests := true, laidLooks := .later }
def ClientPushesCardSaid : Prop := Claim7.holds Tryd.pinned (.plain (OpenSpec.ofChange clientPushesSpec)) clientPushesCard

/-- THE TIED CARD OF 'chapbooklaw17.ClientEchoes'. -/
def clientEchoesCard : Claim7 := { stood := { row := clientEchoesRow, standIns := [], harness := (true, "3e3c12a3b5adff51792e54da99a57b6d9ed6c13524839e0bba9bae6539f3e130"), looks := false }, kinds := [], alts := [], laidByText := true, laidKinds := [.data], laidTests := true, laidLooks := .later }
def ClientEchoesCardSaid : Prop := Claim7.holds Tryd.pinned (.plain (OpenSpec.ofChange clientEchoesSpec)) clientEchoesCard

/-- THE TIED CARD OF 'chapbooklaw17.ClientResumes'. -/
def clientResumesCard : Claim7 := { stood := { row := clientResumesRow, standIns := [], harness := (true, "3e3c12a3b5adff51792e54da99a57b6d9ed6c13524839e0bba9bae6539f3e130"), looks := false }, kinds := [], alts := [], laidByText := true, laidKinds := [.data], laidTests := true, laidLooks := .later }
def ClientResumesCardSaid : Prop := Claim7.holds Tryd.pinned (.plain (OpenSpec.ofChange clientResumesSpec)) clientResumesCard

/-- THE TIED CARD OF 'chapbooklaw17.ClientWaits'. -/
def clientWaitsCard : Claim7 := { stood := { row := clientWaitsRow, standIns := [], harness := (true, "3e3c12a3b5adff51792e54da99a57b6d9ed6c13524839e0bba9bae6539f3e130"), looks := false }, kinds := [], alts := [], laidByText := true, laidKinds := [.data], laidTests := true, laidLooks := .later }
def ClientWaitsCardSaid : Prop := Claim7.holds Tryd.pinned (.plain (OpenSpec.ofChange clientWaitsSpec)) clientWaitsCard

/-- THE SECOND FORM's CARD OF 'chapbooklaw17.ClientPlays'. -/
def clientPlaysUptoCard : Claim7 := { stood := { row := clientPlaysUptoRow, standIns := [], harness := (true, "3e3c12a3b5adff51792e54da99a57b6d9ed6c13524839e0bba9bae6539f3e130"), looks := false }, kinds := [], alts := [], laidByText := true, laidKinds := [.data], laidTests := true, laidLooks := .later }
def ClientPlaysUptoCardSaid : Prop := Claim7.holds Tryd.pinned (.plain (OpenSpec.upto clientPlaysSpec)) clientPlaysUptoCard

/-- THE SECOND FORM's CARD OF 'chapbooklaw17.ClientReads'. -/
def clientReadsUptoCard : Claim7 := { stood := { row := clientReadsUptoRow, standIns := [], harness := (true, "3e3c12a3b5adff51792e54da99a57b6d9ed6c13524839e0bba9bae6539f3e130"), looks := false }, kinds := [], alts := [], laidByText := true, laidKinds := [.data], laidTests := true, laidLooks := .later }
def ClientReadsUptoCardSaid : Prop := Claim7.holds Tryd.pinned (.plain (OpenSpec.upto clientReadsSpec)) clientReadsUptoCard

/-- THE SECOND FORM's CARD OF 'chapbooklaw17.ClientPushes'. -/
def clientPushesUptoCard : Claim7 := { stood := { row := clientPushesUptoRow, standIns := [], harness := (true, "3e3c12a3b5adff51792e54da99a57b6d9ed6c13524839e0bba9bae6539f3e130"), looks := false }, kinds := [], alts := [], laidByText := true, laidKinds := [.data], laidTests := true, laidLooks := .later }
def ClientPushesUptoCardSaid : Prop := Claim7.holds Tryd.pinned (.plain (OpenSpec.upto clientPushesSpec)) clientPushesUptoCard

/-- THE SECOND FORM's CARD OF 'chapbooklaw17.ClientEchoes'. -/
def clientEchoesUptoCard : Claim7 := { stood := { row := clientEchoesUptoRow, standIns := [], harness := (true, "3e3c12a3b5adff51792e54da99a57b6d9ed6c13524839e0bba9bae6539f3e130"), looks := false }, kinds := [], alts := [], laidByText := true, laidKinds := [.data], laidTests := true, laidLooks := .later }
def ClientEchoesUptoCardSaid : Prop := Claim7.holds Tryd.pinned (.plain (OpenSpec.upto clientEchoesSpec)) clientEchoesUptoCard

/-- THE SECOND FORM's CARD OF 'chapbooklaw17.ClientResumes'. -/
def clientResumesUptoCard : Claim7 := { stood := { row := clientResumesUptoRow, standIns := [], harness := (true, "3e3c12a3b5adff51792e54da99a57b6d9ed6c13524839e0bba9bae6539f3e130"), looks := false }, kinds := [], alts := [], laidByText := true, laidKinds := [.data], laidTests := true, laidLooks := .later }
def ClientResumesUptoCardSaid : Prop := Claim7.holds Tryd.pinned (.plain (OpenSpec.upto clientResumesSpec)) clientResumesUptoCard

/-- THE SECOND FORM's CARD OF 'chapbooklaw17.ClientWaits'. -/
def clientWaitsUptoCard : Claim7 := { stood := { row := clientWaitsUptoRow, standIns := [], harness := (true, "3e3c12a3b5adff51792e54da99a57b6d9ed6c13524839e0bba9bae6539f3e130"), looks := false }, kinds := [], alts := [], laidByText := true, laidKinds := [.data], laidTests := true, laidLooks := .later }
def ClientWaitsUptoCardSaid : Prop := Claim7.holds Tryd.pinned (.plain (OpenSpec.upto clientWaitsSpec)) clientWaitsUptoCard
end Rows
end Go.Proofs.YtbbgibekplfacaaDoor
