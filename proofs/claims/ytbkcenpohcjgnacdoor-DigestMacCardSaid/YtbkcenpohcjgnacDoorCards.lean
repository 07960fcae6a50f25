/-
  DERIVED. GIVEN WITH THE SEED: THE CARDS: each row of YtbkcenpohcjgnacDoorRows.lean that lists a variable, with what it lists TIED to the program's text (the seventh form; the later family's looks); each row that meets fmt, with fmt's text TOLD by the authors' own Lean function (tested against real Go, not proved from fmt's source: count such statements apart). THE CARD IS WHAT COUNTS. Prove the row's statement (the work); the ties are given (YtbkcenpohcjgnacDoorTie.lean); close each card by the builder's one call (the guide's Derived/Test/ToyasCard.lean, 'card_holds'). Laid BY PROGRAM, IN A SANDBOX (cutbox-door.mjs). By AI agents, Wed Nov 11 2026. No macro, syntax, notation, axiom, sorry.
-/
import Derived.Test.YtbkcenpohcjgnacDoorRows
import GoSem.ClaimSeven
namespace Go.Proofs.YtbkcenpohcjgnacDoor
namespace Rows

/-- THE TIED CARD OF 'replicalaw01.DigestMac'. -/
def digestMacCard : Claim7 := { stood := { row := digestMacRow, standIns := [], harness := (true, "cee938a20161b986e20eb2eafe43de938172f8dafd648007bd50409ff60c9587"), looks := false }, kinds := [], alts := [], laidByText := true, laidKinds := [.data, .data, .data, .data], laidTests := true, laidLooks := .later }
def DigestMacCardSaid : Prop := Claim7.holds Tryd.pinned (.plain (OpenSpec.ofChange digestMacSpec)) digestMacCard

/-- THE SECOND FORM's CARD OF 'replicalaw01.DigestMac'. -/
def digestMacUptoCard : Claim7 := { stood := { row := digestMacUptoRow, standIns := [], harness := (true, "cee938a20161b986e20eb2eafe43de938172f8dafd648007bd50409ff60c9587"), looks := false }, kinds := [], alts := [], laidByText := true, laidKinds := [.data, .data, .data, .data], laidTests := true, laidLooks := .later }
def DigestMacUptoCardSaid : Prop := Claim7.holds Tryd.pinned (.plain (OpenSpec.upto digestMacSpec)) digestMacUptoCard
end Rows
end Go.Proofs.YtbkcenpohcjgnacDoor
