/-
  DERIVED. GIVEN WITH THE SEED: THE CARDS: each row of YtbkcenpohcjgnaaDoorRows.lean that lists a variable, with what it lists TIED to the program's text (the seventh form; the later family's looks); each row that meets fmt, with fmt's text TOLD by the authors' own Lean function (tested against real Go, not proved from fmt's source: count such statements apart). THE CARD IS WHAT COUNTS. Prove the row's statement (the work); the ties are given (YtbkcenpohcjgnaaDoorTie.lean); close each card by the builder's one call (the guide's Derived/Test/ToyasCard.lean, 'card_holds'). Laid BY PROGRAM, IN A SANDBOX (cutbox-door.mjs). By AI agents, Wed Nov 11 2026. No macro, syntax, notation, axiom, sorry.
-/
import Derived.Test.YtbkcenpohcjgnaaDoorRows
import GoSem.ClaimSeven
namespace Go.Proofs.YtbkcenpohcjgnaaDoor
namespace Rows

/-- THE TIED CARD OF 'replicalaw01.DigestCrcJoins'. -/
def digestCrcJoinsCard : Claim7 := { stood := { row := digestCrcJoinsRow, standIns := [], harness := (true, "cad17f57d0f1722579273dbb7642613969851afc6eed5f888b7a84211e0b265e"), looks := false }, kinds := [], alts := [], laidByText := true, laidKinds := [.data, .data], laidTests := true, laidLooks := .later }
def DigestCrcJoinsCardSaid : Prop := Claim7.holds Tryd.pinned (.plain (OpenSpec.ofChange digestCrcJoinsSpec)) digestCrcJoinsCard

/-- THE TIED CARD OF 'replicalaw01.DigestCrcTells'. -/
def digestCrcTellsCard : Claim7 := { stood := { row := digestCrcTellsRow, standIns := [], harness := (true, "cad17f57d0f1722579273dbb7642613969851afc6eed5f888b7a84211e0b265e"), looks := false }, kinds := [], alts := [], laidByText := true, laidKinds := [.data, .data], laidTests := true, laidLooks := .later }
def DigestCrcTellsCardSaid : Prop := Claim7.holds Tryd.pinned (.plain (OpenSpec.ofChange digestCrcTellsSpec)) digestCrcTellsCard

/-- THE TIED CARD OF 'replicalaw01.DigestCrcSums'. -/
def digestCrcSumsCard : Claim7 := { stood := { row := digestCrcSumsRow, standIns := [], harness := (true, "cad17f57d0f1722579273dbb7642613969851afc6eed5f888b7a84211e0b265e"), looks := false }, kinds := [], alts := [], laidByText := true, laidKinds := [.data, .data], laidTests := true, laidLooks := .later }
def DigestCrcSumsCardSaid : Prop := Claim7.holds Tryd.pinned (.plain (OpenSpec.ofChange digestCrcSumsSpec)) digestCrcSumsCard

/-- THE SECOND FORM's CARD OF 'replicalaw01.DigestCrcJoins'. -/
def digestCrcJoinsUptoCard : Claim7 := { stood := { row := digestCrcJoinsUptoRow, standIns := [], harness := (true, "cad17f57d0f1722579273dbb7642613969851afc6eed5f888b7a84211e0b265e"), looks := false }, kinds := [], alts := [], laidByText := true, laidKinds := [.data, .data], laidTests := true, laidLooks := .later }
def DigestCrcJoinsUptoCardSaid : Prop := Claim7.holds Tryd.pinned (.plain (OpenSpec.upto digestCrcJoinsSpec)) digestCrcJoinsUptoCard

/-- THE SECOND FORM's CARD OF 'replicalaw01.DigestCrcTells'. -/
def digestCrcTellsUptoCard : Claim7 := { stood := { row := digestCrcTellsUptoRow, standIns := [], harness := (true, "cad17f57d0f1722579273dbb7642613969851afc6eed5f888b7a84211e0b265e"), looks := false }, kinds := [], alts := [], laidByText := true, laidKinds := [.data, .data], laidTests := true, laidLooks := .later }
def DigestCrcTellsUptoCardSaid : Prop := Claim7.holds Tryd.pinned (.plain (OpenSpec.upto digestCrcTellsSpec)) digestCrcTellsUptoCard

/-- THE SECOND FORM's CARD OF 'replicalaw01.DigestCrcSums'. -/
def digestCrcSumsUptoCard : Claim7 := { stood := { row := digestCrcSumsUptoRow, standIns := [], harness := (true, "cad17f57d0f1722579273dbb7642613969851afc6eed5f888b7a84211e0b265e"), looks := false }, kinds := [], alts := [], laidByText := true, laidKinds := [.data, .data], laidTests := true, laidLooks := .later }
def DigestCrcSumsUptoCardSaid : Prop := Claim7.holds Tryd.pinned (.plain (OpenSpec.upto digestCrcSumsSpec)) digestCrcSumsUptoCard
end Rows
end Go.Proofs.YtbkcenpohcjgnaaDoor
