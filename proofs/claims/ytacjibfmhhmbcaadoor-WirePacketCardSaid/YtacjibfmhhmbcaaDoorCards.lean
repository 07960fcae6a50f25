/-
  DERIVED. GIVEN WITH THE SEED: THE CARDS: each row of YtacjibfmhhmbcaaDoorRows.lean that lists a variable, with what it lists TIED to the program's text (the seventh form; the later family's looks); each row that meets fmt, with fmt's text TOLD by the authors' own Lean function (tested against real Go, not proved from fmt's source: count such statements apart). THE CARD IS WHAT COUNTS. Prove the row's statement (the work); the ties are given (YtacjibfmhhmbcaaDoorTie.lean); close each card by the builder's one call (the guide's Derived/Test/ToyasCard.lean, 'card_holds'). Laid BY PROGRAM, IN A SANDBOX (cutbox-door.mjs). By AI agents, Wed Nov 11 2026. No macro, syntax, notation, axiom, sorry.
-/
import Derived.Test.YtacjibfmhhmbcaaDoorRows
import GoSem.ClaimSeven
namespace Go.Proofs.YtacjibfmhhmbcaaDoor
namespace Rows

/-- THE TIED CARD OF 'replicalaw07.WireName'. -/
def wireNameCard : Claim7 := { stood := { row := wireNameRow, standIns := [], harness := (true, "2bdf8bdc67c0bd5ac47ac3c88196fb76f9dbd213ac79d80d75527dd44dafcb36"), looks := true }, kinds := [], alts := [], laidByText := true, laidKinds := [.data, .data], laidTests := true, laidLooks := .later }
def WireNameCardSaid : Prop := Claim7.holds Tryd.pinned (.plain (OpenSpec.ofChange wireNameSpec)) wireNameCard

/-- THE TIED CARD OF 'replicalaw07.WirePacket'. -/
def wirePacketCard : Claim7 := { stood := { row := wirePacketRow, standIns := [], harness := (true, "2bdf8bdc67c0bd5ac47ac3c88196fb76f9dbd213ac79d80d75527dd44dafcb36"), looks := true }, kinds := [], alts := [], laidByText := true, laidKinds := [.data, .data, .data], laidTests := true, laidLooks := .later }
def WirePacketCardSaid : Prop := Claim7.holds Tryd.pinned (.plain (OpenSpec.ofChange wirePacketSpec)) wirePacketCard

/-- THE TIED CARD OF 'replicalaw07.WireParse'. -/
def wireParseCard : Claim7 := { stood := { row := wireParseRow, standIns := [], harness := (true, "2bdf8bdc67c0bd5ac47ac3c88196fb76f9dbd213ac79d80d75527dd44dafcb36"), looks := true }, kinds := [], alts := [], laidByText := true, laidKinds := [.data, .data, .data], laidTests := true, laidLooks := .later }
def WireParseCardSaid : Prop := Claim7.holds Tryd.pinned (.plain (OpenSpec.ofChange wireParseSpec)) wireParseCard

/-- THE TIED CARD OF 'replicalaw07.WireOne'. -/
def wireOneCard : Claim7 := { stood := { row := wireOneRow, standIns := [], harness := (true, "2bdf8bdc67c0bd5ac47ac3c88196fb76f9dbd213ac79d80d75527dd44dafcb36"), looks := true }, kinds := [], alts := [], laidByText := true, laidKinds := [.data], laidTests := true, laidLooks := .later }
def WireOneCardSaid : Prop := Claim7.holds Tryd.pinned (.plain (OpenSpec.ofChange wireOneSpec)) wireOneCard

/-- THE SECOND FORM's CARD OF 'replicalaw07.WireName'. -/
def wireNameUptoCard : Claim7 := { stood := { row := wireNameUptoRow, standIns := [], harness := (true, "2bdf8bdc67c0bd5ac47ac3c88196fb76f9dbd213ac79d80d75527dd44dafcb36"), looks := true }, kinds := [], alts := [], laidByText := true, laidKinds := [.data, .data], laidTests := true, laidLooks := .later }
def WireNameUptoCardSaid : Prop := Claim7.holds Tryd.pinned (.plain (OpenSpec.upto wireNameSpec)) wireNameUptoCard

/-- THE SECOND FORM's CARD OF 'replicalaw07.WirePacket'. -/
def wirePacketUptoCard : Claim7 := { stood := { row := wirePacketUptoRow, standIns := [], harness := (true, "2bdf8bdc67c0bd5ac47ac3c88196fb76f9dbd213ac79d80d75527dd44dafcb36"), looks := true }, kinds := [], alts := [], laidByText := true, laidKinds := [.data, .data, .data], laidTests := true, laidLooks := .later }
def WirePacketUptoCardSaid : Prop := Claim7.holds Tryd.pinned (.plain (OpenSpec.upto wirePacketSpec)) wirePacketUptoCard

/-- THE SECOND FORM's CARD OF 'replicalaw07.WireParse'. -/
def wireParseUptoCard : Claim7 := { stood := { row := wireParseUptoRow, standIns := [], harness := (true, "2bdf8bdc67c0bd5ac47ac3c88196fb76f9dbd213ac79d80d75527dd44dafcb36"), looks := true }, kinds := [], alts := [], laidByText := true, laidKinds := [.data, .data, .data], laidTests := true, laidLooks := .later }
def WireParseUptoCardSaid : Prop := Claim7.holds Tryd.pinned (.plain (OpenSpec.upto wireParseSpec)) wireParseUptoCard

/-- THE SECOND FORM's CARD OF 'replicalaw07.WireOne'. -/
def wireOneUptoCard : Claim7 := { stood := { row := wireOneUptoRow, standIns := [], harness := (true, "2bdf8bdc67c0bd5ac47ac3c88196fb76f9dbd213ac79d80d75527dd44dafcb36"), looks := true }, kinds := [], alts := [], laidByText := true, laidKinds := [.data], laidTests := true, laidLooks := .later }
def WireOneUptoCardSaid : Prop := Claim7.holds Tryd.pinned (.plain (OpenSpec.upto wireOneSpec)) wireOneUptoCard
end Rows
end Go.Proofs.YtacjibfmhhmbcaaDoor
