/-
  DERIVED. GIVEN WITH THE SEED: THE CARDS: each row of YtedhohamdbplhaaDoorRows.lean that lists a variable, with what it lists TIED to the program's text (the seventh form; the later family's looks); each row that meets fmt, with fmt's text TOLD by the authors' own Lean function (tested against real Go, not proved from fmt's source: count such statements apart). THE CARD IS WHAT COUNTS. Prove the row's statement (the work); the ties are given (YtedhohamdbplhaaDoorTie.lean); close each card by the builder's one call (the guide's Derived/Test/ToyasCard.lean, 'card_holds'). Laid BY PROGRAM, IN A SANDBOX (cutbox-door.mjs). By AI agents, Wed Nov 11 2026. No macro, syntax, notation, axiom, sorry.
-/
import Derived.Test.YtedhohamdbplhaaDoorRows
import GoSem.ClaimSeven
namespace Go.Proofs.YtedhohamdbplhaaDoor
namespace Rows

/-- THE TIED CARD OF 'replicalaw07.WireLists'. -/
def wireListsCard : Claim7 := { stood := { row := wireListsRow, standIns := [], harness := (true, "8086893484fbdf76ea7a842641ba63483104733817be41a3e223192cfb1817e5"), looks := true }, kinds := [], alts := [], laidByText := true, laidKinds := [.data], laidTests := true, laidLooks := .later }
def WireListsCardSaid : Prop := Claim7.holds Tryd.pinned (.plain (OpenSpec.ofChange wireListsSpec)) wireListsCard

/-- THE TIED CARD OF 'replicalaw07.WireCarry'. -/
def wireCarryCard : Claim7 := { stood := { row := wireCarryRow, standIns := [], harness := (true, "8086893484fbdf76ea7a842641ba63483104733817be41a3e223192cfb1817e5"), looks := true }, kinds := [], alts := [], laidByText := true, laidKinds := [.data, .data], laidTests := true, laidLooks := .later }
def WireCarryCardSaid : Prop := Claim7.holds Tryd.pinned (.plain (OpenSpec.ofChange wireCarrySpec)) wireCarryCard

/-- THE SECOND FORM's CARD OF 'replicalaw07.WireLists'. -/
def wireListsUptoCard : Claim7 := { stood := { row := wireListsUptoRow, standIns := [], harness := (true, "8086893484fbdf76ea7a842641ba63483104733817be41a3e223192cfb1817e5"), looks := true }, kinds := [], alts := [], laidByText := true, laidKinds := [.data], laidTests := true, laidLooks := .later }
def WireListsUptoCardSaid : Prop := Claim7.holds Tryd.pinned (.plain (OpenSpec.upto wireListsSpec)) wireListsUptoCard

/-- THE SECOND FORM's CARD OF 'replicalaw07.WireCarry'. -/
def wireCarryUptoCard : Claim7 := { stood := { row := wireCarryUptoRow, standIns := [], harness := (true, "8086893484fbdf76ea7a842641ba63483104733817be41a3e223192cfb1817e5"), looks := true }, kinds := [], alts := [], laidByText := true, laidKinds := [.data, .data], laidTests := true, laidLooks := .later }
def WireCarryUptoCardSaid : Prop := Claim7.holds Tryd.pinned (.plain (OpenSpec.upto wireCarrySpec)) wireCarryUptoCard
end Rows
end Go.Proofs.YtedhohamdbplhaaDoor
