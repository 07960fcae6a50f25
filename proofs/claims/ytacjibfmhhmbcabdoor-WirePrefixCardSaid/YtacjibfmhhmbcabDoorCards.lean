/-
  DERIVED. GIVEN WITH THE SEED: THE CARDS: each row of YtacjibfmhhmbcabDoorRows.lean that lists a variable, with what it lists TIED to the program's text (the seventh form; the later family's looks); each row that meets fmt, with fmt's text TOLD by the authors' own Lean function (tested against real Go, not proved from fmt's source: count such statements apart). THE CARD IS WHAT COUNTS. Prove the row's statement (the work); the ties are given (YtacjibfmhhmbcabDoorTie.lean); close each card by the builder's one call (the guide's Derived/Test/ToyasCard.lean, 'card_holds'). Laid BY PROGRAM, IN A SANDBOX (cutbox-door.mjs). By AI agents, Wed Nov 11 2026. No macro, syntax, notation, axiom, sorry.
-/
import Derived.Test.YtacjibfmhhmbcabDoorRows
import GoSem.ClaimSeven
namespace Go.Proofs.YtacjibfmhhmbcabDoor
namespace Rows

/-- THE TIED CARD OF 'replicalaw07.WirePlace'. -/
def wirePlaceCard : Claim7 := { stood := { row := wirePlaceRow, standIns := [], harness := (true, "f62835f9a3d9907e883c7897f9da2cd3a259aee63df2cb285a5c56d0ce692176"), looks := true }, kinds := [], alts := [], laidByText := true, laidKinds := [.data], laidTests := true, laidLooks := .later }
def WirePlaceCardSaid : Prop := Claim7.holds Tryd.pinned (.plain (OpenSpec.ofChange wirePlaceSpec)) wirePlaceCard

/-- THE TIED CARD OF 'replicalaw07.WireFrameOne'. -/
def wireFrameOneCard : Claim7 := { stood := { row := wireFrameOneRow, standIns := [], harness := (true, "f62835f9a3d9907e883c7897f9da2cd3a259aee63df2cb285a5c56d0ce692176"), looks := true }, kinds := [], alts := [], laidByText := true, laidKinds := [.data], laidTests := true, laidLooks := .later }
def WireFrameOneCardSaid : Prop := Claim7.holds Tryd.pinned (.plain (OpenSpec.ofChange wireFrameOneSpec)) wireFrameOneCard

/-- THE TIED CARD OF 'replicalaw07.WireBack'. -/
def wireBackCard : Claim7 := { stood := { row := wireBackRow, standIns := [], harness := (true, "f62835f9a3d9907e883c7897f9da2cd3a259aee63df2cb285a5c56d0ce692176"), looks := true }, kinds := [], alts := [], laidByText := true, laidKinds := [.data], laidTests := true, laidLooks := .later }
def WireBackCardSaid : Prop := Claim7.holds Tryd.pinned (.plain (OpenSpec.ofChange wireBackSpec)) wireBackCard

/-- THE TIED CARD OF 'replicalaw07.WirePrefix'. -/
def wirePrefixCard : Claim7 := { stood := { row := wirePrefixRow, standIns := [], harness := (true, "f62835f9a3d9907e883c7897f9da2cd3a259aee63df2cb285a5c56d0ce692176"), looks := true }, kinds := [], alts := [], laidByText := true, laidKinds := [.data], laidTests := true, laidLooks := .later }
def WirePrefixCardSaid : Prop := Claim7.holds Tryd.pinned (.plain (OpenSpec.ofChange wirePrefixSpec)) wirePrefixCard

/-- THE TIED CARD OF 'replicalaw07.WireFrameBack'. -/
def wireFrameBackCard : Claim7 := { stood := { row := wireFrameBackRow, standIns := [], harness := (true, "f62835f9a3d9907e883c7897f9da2cd3a259aee63df2cb285a5c56d0ce692176"), looks := true }, kinds := [], alts := [], laidByText := true, laidKinds := [.data], laidTests := true, laidLooks := .later }
def WireFrameBackCardSaid : Prop := Claim7.holds Tryd.pinned (.plain (OpenSpec.ofChange wireFrameBackSpec)) wireFrameBackCard

/-- THE TIED CARD OF 'replicalaw07.WireTells'. -/
def wireTellsCard : Claim7 := { stood := { row := wireTellsRow, standIns := [], harness := (true, "f62835f9a3d9907e883c7897f9da2cd3a259aee63df2cb285a5c56d0ce692176"), looks := true }, kinds := [], alts := [], laidByText := true, laidKinds := [.data], laidTests := true, laidLooks := .later }
def WireTellsCardSaid : Prop := Claim7.holds Tryd.pinned (.plain (OpenSpec.ofChange wireTellsSpec)) wireTellsCard

/-- THE SECOND FORM's CARD OF 'replicalaw07.WirePlace'. -/
def wirePlaceUptoCard : Claim7 := { stood := { row := wirePlaceUptoRow, standIns := [], harness := (true, "f62835f9a3d9907e883c7897f9da2cd3a259aee63df2cb285a5c56d0ce692176"), looks := true }, kinds := [], alts := [], laidByText := true, laidKinds := [.data], laidTests := true, laidLooks := .later }
def WirePlaceUptoCardSaid : Prop := Claim7.holds Tryd.pinned (.plain (OpenSpec.upto wirePlaceSpec)) wirePlaceUptoCard

/-- THE SECOND FORM's CARD OF 'replicalaw07.WireFrameOne'. -/
def wireFrameOneUptoCard : Claim7 := { stood := { row := wireFrameOneUptoRow, standIns := [], harness := (true, "f62835f9a3d9907e883c7897f9da2cd3a259aee63df2cb285a5c56d0ce692176"), looks := true }, kinds := [], alts := [], laidByText := true, laidKinds := [.data], laidTests := true, laidLooks := .later }
def WireFrameOneUptoCardSaid : Prop := Claim7.holds Tryd.pinned (.plain (OpenSpec.upto wireFrameOneSpec)) wireFrameOneUptoCard

/-- THE SECOND FORM's CARD OF 'replicalaw07.WireBack'. -/
def wireBackUptoCard : Claim7 := { stood := { row := wireBackUptoRow, standIns := [], harness := (true, "f62835f9a3d9907e883c7897f9da2cd3a259aee63df2cb285a5c56d0ce692176"), looks := true }, kinds := [], alts := [], laidByText := true, laidKinds := [.data], laidTests := true, laidLooks := .later }
def WireBackUptoCardSaid : Prop := Claim7.holds Tryd.pinned (.plain (OpenSpec.upto wireBackSpec)) wireBackUptoCard

/-- THE SECOND FORM's CARD OF 'replicalaw07.WirePrefix'. -/
def wirePrefixUptoCard : Claim7 := { stood := { row := wirePrefixUptoRow, standIns := [], harness := (true, "f62835f9a3d9907e883c7897f9da2cd3a259aee63df2cb285a5c56d0ce692176"), looks := true }, kinds := [], alts := [], laidByText := true, laidKinds := [.data], laidTests := true, laidLooks := .later }
def WirePrefixUptoCardSaid : Prop := Claim7.holds Tryd.pinned (.plain (OpenSpec.upto wirePrefixSpec)) wirePrefixUptoCard

/-- THE SECOND FORM's CARD OF 'replicalaw07.WireFrameBack'. -/
def wireFrameBackUptoCard : Claim7 := { stood := { row := wireFrameBackUptoRow, standIns := [], harness := (true, "f62835f9a3d9907e883c7897f9da2cd3a259aee63df2cb285a5c56d0ce692176"), looks := true }, kinds := [], alts := [], laidByText := true, laidKinds := [.data], laidTests := true, laidLooks := .later }
def WireFrameBackUptoCardSaid : Prop := Claim7.holds Tryd.pinned (.plain (OpenSpec.upto wireFrameBackSpec)) wireFrameBackUptoCard

/-- THE SECOND FORM's CARD OF 'replicalaw07.WireTells'. -/
def wireTellsUptoCard : Claim7 := { stood := { row := wireTellsUptoRow, standIns := [], harness := (true, "f62835f9a3d9907e883c7897f9da2cd3a259aee63df2cb285a5c56d0ce692176"), looks := true }, kinds := [], alts := [], laidByText := true, laidKinds := [.data], laidTests := true, laidLooks := .later }
def WireTellsUptoCardSaid : Prop := Claim7.holds Tryd.pinned (.plain (OpenSpec.upto wireTellsSpec)) wireTellsUptoCard
end Rows
end Go.Proofs.YtacjibfmhhmbcabDoor
