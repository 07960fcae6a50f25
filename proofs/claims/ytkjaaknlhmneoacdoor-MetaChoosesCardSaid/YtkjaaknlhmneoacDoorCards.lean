/-
  DERIVED. GIVEN WITH THE SEED: THE CARDS: each row of YtkjaaknlhmneoacDoorRows.lean that lists a variable, with what it lists TIED to the program's text (the seventh form; the later family's looks); each row that meets fmt, with fmt's text TOLD by the authors' own Lean function (tested against real Go, not proved from fmt's source: count such statements apart). THE CARD IS WHAT COUNTS. Prove the row's statement (the work); the ties are given (YtkjaaknlhmneoacDoorTie.lean); close each card by the builder's one call (the guide's Derived/Test/ToyasCard.lean, 'card_holds'). Laid BY PROGRAM, IN A SANDBOX (cutbox-door.mjs). By AI agents, Wed Nov 11 2026. No macro, syntax, notation, axiom, sorry.
-/
import Derived.Test.YtkjaaknlhmneoacDoorRows
import GoSem.ClaimSeven
namespace Go.Proofs.YtkjaaknlhmneoacDoor
namespace Rows

/-- THE TIED CARD OF 'replicalaw05.MetaUnseals'. -/
def metaUnsealsCard : Claim7 := { stood := { row := metaUnsealsRow, standIns := [], harness := (true, "e7adb29be58c93dbffffe0a32abbf7a65b464126365c3532c3f3132aab7f6fb8"), looks := true }, kinds := [], alts := [], laidByText := true, laidKinds := [.data, .data, .data, .data], laidTests := true, laidLooks := .later }
def MetaUnsealsCardSaid : Prop := Claim7.holds Tryd.pinned (.plain (OpenSpec.ofChange metaUnsealsSpec)) metaUnsealsCard

/-- THE TIED CARD OF 'replicalaw05.MetaChooses'. -/
def metaChoosesCard : Claim7 := { stood := { row := metaChoosesRow, standIns := [], harness := (true, "e7adb29be58c93dbffffe0a32abbf7a65b464126365c3532c3f3132aab7f6fb8"), looks := true }, kinds := [], alts := [], laidByText := true, laidKinds := [.data, .data, .data, .data], laidTests := true, laidLooks := .later }
def MetaChoosesCardSaid : Prop := Claim7.holds Tryd.pinned (.plain (OpenSpec.ofChange metaChoosesSpec)) metaChoosesCard

/-- THE TIED CARD OF 'replicalaw05.MetaTurns'. -/
def metaTurnsCard : Claim7 := { stood := { row := metaTurnsRow, standIns := [], harness := (true, "e7adb29be58c93dbffffe0a32abbf7a65b464126365c3532c3f3132aab7f6fb8"), looks := true }, kinds := [], alts := [], laidByText := true, laidKinds := [.data, .data], laidTests := true, laidLooks := .later }
def MetaTurnsCardSaid : Prop := Claim7.holds Tryd.pinned (.plain (OpenSpec.ofChange metaTurnsSpec)) metaTurnsCard

/-- THE SECOND FORM's CARD OF 'replicalaw05.MetaUnseals'. -/
def metaUnsealsUptoCard : Claim7 := { stood := { row := metaUnsealsUptoRow, standIns := [], harness := (true, "e7adb29be58c93dbffffe0a32abbf7a65b464126365c3532c3f3132aab7f6fb8"), looks := true }, kinds := [], alts := [], laidByText := true, laidKinds := [.data, .data, .data, .data], laidTests := true, laidLooks := .later }
def MetaUnsealsUptoCardSaid : Prop := Claim7.holds Tryd.pinned (.plain (OpenSpec.upto metaUnsealsSpec)) metaUnsealsUptoCard

/-- THE SECOND FORM's CARD OF 'replicalaw05.MetaChooses'. -/
def metaChoosesUptoCard : Claim7 := { stood := { row := metaChoosesUptoRow, standIns := [], harness := (true, "e7adb29be58c93dbffffe0a32abbf7a65b464126365c3532c3f3132aab7f6fb8"), looks := true }, kinds := [], alts := [], laidByText := true, laidKinds := [.data, .data, .data, .data], laidTests := true, laidLooks := .later }
def MetaChoosesUptoCardSaid : Prop := Claim7.holds Tryd.pinned (.plain (OpenSpec.upto metaChoosesSpec)) metaChoosesUptoCard

/-- THE SECOND FORM's CARD OF 'replicalaw05.MetaTurns'. -/
def metaTurnsUptoCard : Claim7 := { stood := { row := metaTurnsUptoRow, standIns := [], harness := (true, "e7adb29be58c93dbffffe0a32abbf7a65b464126365c3532c3f3132aab7f6fb8"), looks := true }, kinds := [], alts := [], laidByText := true, laidKinds := [.data, .data], laidTests := true, laidLooks := .later }
def MetaTurnsUptoCardSaid : Prop := Claim7.holds Tryd.pinned (.plain (OpenSpec.upto metaTurnsSpec)) metaTurnsUptoCard
end Rows
end Go.Proofs.YtkjaaknlhmneoacDoor
