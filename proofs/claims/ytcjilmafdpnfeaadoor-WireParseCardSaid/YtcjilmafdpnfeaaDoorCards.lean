/-
  DERIVED. GIVEN WITH THE SEED: THE CARDS: each row of YtcjilmafdpnfeaaDoorRows.lean that lists a variable, with what it lists TIED to the program's text (the seventh form; the later family's looks); each row that meets fmt, with fmt's text TOLD by the authors' own Lean function (tested against real Go, not proved from fmt's source: count such statements apart). THE CARD IS WHAT COUNTS. Prove the row's statement (the work); the ties are given (YtcjilmafdpnfeaaDoorTie.lean); close each card by the builder's one call (the guide's Derived/Test/ToyasCard.lean, 'card_holds'). Laid BY PROGRAM, IN A SANDBOX (cutbox-door.mjs). By AI agents, Wed Nov 11 2026. No macro, syntax, notation, axiom, sorry.
-/
import Derived.Test.YtcjilmafdpnfeaaDoorRows
import GoSem.ClaimSeven
namespace Go.Proofs.YtcjilmafdpnfeaaDoor
namespace Rows

/-- THE TIED CARD OF 'replicalaw07.WireParse'. -/
def wireParseCard : Claim7 := { stood := { row := wireParseRow, standIns := [], harness := (true, "185ab72af13dc8de49612c6a43c74648faa793d99cc9eb36c3a1f2df50473930"), looks := true }, kinds := [], alts := [], laidByText := true, laidKinds := [.data, .data, .data], laidTests := true, laidLooks := .later }
def WireParseCardSaid : Prop := Claim7.holds Tryd.pinned (.plain (OpenSpec.ofChange wireParseSpec)) wireParseCard

/-- THE SECOND FORM's CARD OF 'replicalaw07.WireParse'. -/
def wireParseUptoCard : Claim7 := { stood := { row := wireParseUptoRow, standIns := [], harness := (true, "185ab72af13dc8de49612c6a43c74648faa793d99cc9eb36c3a1f2df50473930"), looks := true }, kinds := [], alts := [], laidByText := true, laidKinds := [.data, .data, .data], laidTests := true, laidLooks := .later }
def WireParseUptoCardSaid : Prop := Claim7.holds Tryd.pinned (.plain (OpenSpec.upto wireParseSpec)) wireParseUptoCard
end Rows
end Go.Proofs.YtcjilmafdpnfeaaDoor
