/-
  DERIVED. GIVEN WITH THE SEED: THE CARDS: each row of YtkjaaknlhmneoabDoorRows.lean that lists a variable, with what it lists TIED to the program's text (the seventh form; the later family's looks); each row that meets fmt, with fmt's text TOLD by the authors' own Lean function (tested against real Go, not proved from fmt's source: count such statements apart). THE CARD IS WHAT COUNTS. Prove the row's statement (the work); the ties are given (YtkjaaknlhmneoabDoorTie.lean); close each card by the builder's one call (the guide's Derived/Test/ToyasCard.lean, 'card_holds'). Laid BY PROGRAM, IN A SANDBOX (cutbox-door.mjs). By AI agents, Wed Nov 11 2026. No macro, syntax, notation, axiom, sorry.
-/
import Derived.Test.YtkjaaknlhmneoabDoorRows
import GoSem.ClaimSeven
namespace Go.Proofs.YtkjaaknlhmneoabDoor
namespace Rows

/-- THE TIED CARD OF 'replicalaw05.MetaRound'. -/
def metaRoundCard : Claim7 := { stood := { row := metaRoundRow, standIns := [], harness := (true, "b0e7b62ebe09b56b5dade622d15ca36e26d8a18c23149c412aad0b63f5dafad7"), looks := true }, kinds := [], alts := [], laidByText := true, laidKinds := [.data, .data], laidTests := true, laidLooks := .later }
def MetaRoundCardSaid : Prop := Claim7.holds Tryd.pinned (.plain (OpenSpec.ofChange metaRoundSpec)) metaRoundCard

/-- THE TIED CARD OF 'replicalaw05.MetaNewer'. -/
def metaNewerCard : Claim7 := { stood := { row := metaNewerRow, standIns := [], harness := (true, "b0e7b62ebe09b56b5dade622d15ca36e26d8a18c23149c412aad0b63f5dafad7"), looks := true }, kinds := [], alts := [], laidByText := true, laidKinds := [.data, .data], laidTests := true, laidLooks := .later }
def MetaNewerCardSaid : Prop := Claim7.holds Tryd.pinned (.plain (OpenSpec.ofChange metaNewerSpec)) metaNewerCard

/-- THE TIED CARD OF 'replicalaw05.MetaSealed'. -/
def metaSealedCard : Claim7 := { stood := { row := metaSealedRow, standIns := [], harness := (true, "b0e7b62ebe09b56b5dade622d15ca36e26d8a18c23149c412aad0b63f5dafad7"), looks := true }, kinds := [], alts := [], laidByText := true, laidKinds := [.data, .data], laidTests := true, laidLooks := .later }
def MetaSealedCardSaid : Prop := Claim7.holds Tryd.pinned (.plain (OpenSpec.ofChange metaSealedSpec)) metaSealedCard

/-- THE TIED CARD OF 'replicalaw05.MetaSpoilt'. -/
def metaSpoiltCard : Claim7 := { stood := { row := metaSpoiltRow, standIns := [], harness := (true, "b0e7b62ebe09b56b5dade622d15ca36e26d8a18c23149c412aad0b63f5dafad7"), looks := true }, kinds := [], alts := [], laidByText := true, laidKinds := [.data, .data], laidTests := true, laidLooks := .later }
def MetaSpoiltCardSaid : Prop := Claim7.holds Tryd.pinned (.plain (OpenSpec.ofChange metaSpoiltSpec)) metaSpoiltCard

/-- THE TIED CARD OF 'replicalaw05.MetaSeals'. -/
def metaSealsCard : Claim7 := { stood := { row := metaSealsRow, standIns := [], harness := (true, "b0e7b62ebe09b56b5dade622d15ca36e26d8a18c23149c412aad0b63f5dafad7"), looks := true }, kinds := [], alts := [], laidByText := true, laidKinds := [.data, .data, .data, .data], laidTests := true, laidLooks := .later }
def MetaSealsCardSaid : Prop := Claim7.holds Tryd.pinned (.plain (OpenSpec.ofChange metaSealsSpec)) metaSealsCard

/-- THE SECOND FORM's CARD OF 'replicalaw05.MetaRound'. -/
def metaRoundUptoCard : Claim7 := { stood := { row := metaRoundUptoRow, standIns := [], harness := (true, "b0e7b62ebe09b56b5dade622d15ca36e26d8a18c23149c412aad0b63f5dafad7"), looks := true }, kinds := [], alts := [], laidByText := true, laidKinds := [.data, .data], laidTests := true, laidLooks := .later }
def MetaRoundUptoCardSaid : Prop := Claim7.holds Tryd.pinned (.plain (OpenSpec.upto metaRoundSpec)) metaRoundUptoCard

/-- THE SECOND FORM's CARD OF 'replicalaw05.MetaNewer'. -/
def metaNewerUptoCard : Claim7 := { stood := { row := metaNewerUptoRow, standIns := [], harness := (true, "b0e7b62ebe09b56b5dade622d15ca36e26d8a18c23149c412aad0b63f5dafad7"), looks := true }, kinds := [], alts := [], laidByText := true, laidKinds := [.data, .data], laidTests := true, laidLooks := .later }
def MetaNewerUptoCardSaid : Prop := Claim7.holds Tryd.pinned (.plain (OpenSpec.upto metaNewerSpec)) metaNewerUptoCard

/-- THE SECOND FORM's CARD OF 'replicalaw05.MetaSealed'. -/
def metaSealedUptoCard : Claim7 := { stood := { row := metaSealedUptoRow, standIns := [], harness := (true, "b0e7b62ebe09b56b5dade622d15ca36e26d8a18c23149c412aad0b63f5dafad7"), looks := true }, kinds := [], alts := [], laidByText := true, laidKinds := [.data, .data], laidTests := true, laidLooks := .later }
def MetaSealedUptoCardSaid : Prop := Claim7.holds Tryd.pinned (.plain (OpenSpec.upto metaSealedSpec)) metaSealedUptoCard

/-- THE SECOND FORM's CARD OF 'replicalaw05.MetaSpoilt'. -/
def metaSpoiltUptoCard : Claim7 := { stood := { row := metaSpoiltUptoRow, standIns := [], harness := (true, "b0e7b62ebe09b56b5dade622d15ca36e26d8a18c23149c412aad0b63f5dafad7"), looks := true }, kinds := [], alts := [], laidByText := true, laidKinds := [.data, .data], laidTests := true, laidLooks := .later }
def MetaSpoiltUptoCardSaid : Prop := Claim7.holds Tryd.pinned (.plain (OpenSpec.upto metaSpoiltSpec)) metaSpoiltUptoCard

/-- THE SECOND FORM's CARD OF 'replicalaw05.MetaSeals'. -/
def metaSealsUptoCard : Claim7 := { stood := { row := metaSealsUptoRow, standIns := [], harness := (true, "b0e7b62ebe09b56b5dade622d15ca36e26d8a18c23149c412aad0b63f5dafad7"), looks := true }, kinds := [], alts := [], laidByText := true, laidKinds := [.data, .data, .data, .data], laidTests := true, laidLooks := .later }
def MetaSealsUptoCardSaid : Prop := Claim7.holds Tryd.pinned (.plain (OpenSpec.upto metaSealsSpec)) metaSealsUptoCard
end Rows
end Go.Proofs.YtkjaaknlhmneoabDoor
