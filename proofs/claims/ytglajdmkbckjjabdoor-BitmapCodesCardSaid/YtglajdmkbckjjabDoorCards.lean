/-
  DERIVED. GIVEN WITH THE SEED: THE CARDS: each row of YtglajdmkbckjjabDoorRows.lean that lists a variable, with what it lists TIED to the program's text (the seventh form; the later family's looks); each row that meets fmt, with fmt's text TOLD by the authors' own Lean function (tested against real Go, not proved from fmt's source: count such statements apart). THE CARD IS WHAT COUNTS. Prove the row's statement (the work); the ties are given (YtglajdmkbckjjabDoorTie.lean); close each card by the builder's one call (the guide's Derived/Test/ToyasCard.lean, 'card_holds'). Laid BY PROGRAM, IN A SANDBOX (cutbox-door.mjs). By AI agents, Wed Nov 11 2026. No macro, syntax, notation, axiom, sorry.
-/
import Derived.Test.YtglajdmkbckjjabDoorRows
import GoSem.ClaimSeven
namespace Go.Proofs.YtglajdmkbckjjabDoor
namespace Rows

/-- THE TIED CARD OF 'replicalaw03.BitmapCodePlace'. -/
def bitmapCodePlaceCard : Claim7 := { stood := { row := bitmapCodePlaceRow, standIns := [], harness := (true, "15e3c7c4932e879bae8947c562ea1711ff5bbe81aa3847f8ffa5af54d2803fa4"), looks := false }, kinds := [], alts := [], laidByText := true, laidKinds := [.data], laidTests := true, laidLooks := .later }
def BitmapCodePlaceCardSaid : Prop := Claim7.holds Tryd.pinned (.plain (OpenSpec.ofChange bitmapCodePlaceSpec)) bitmapCodePlaceCard

/-- THE TIED CARD OF 'replicalaw03.BitmapNews'. -/
def bitmapNewsCard : Claim7 := { stood := { row := bitmapNewsRow, standIns := [], harness := (true, "15e3c7c4932e879bae8947c562ea1711ff5bbe81aa3847f8ffa5af54d2803fa4"), looks := false }, kinds := [], alts := [], laidByText := true, laidKinds := [.data], laidTests := true, laidLooks := .later }
def BitmapNewsCardSaid : Prop := Claim7.holds Tryd.pinned (.plain (OpenSpec.ofChange bitmapNewsSpec)) bitmapNewsCard

/-- THE TIED CARD OF 'replicalaw03.BitmapCodes'. -/
def bitmapCodesCard : Claim7 := { stood := { row := bitmapCodesRow, standIns := [], harness := (true, "15e3c7c4932e879bae8947c562ea1711ff5bbe81aa3847f8ffa5af54d2803fa4"), looks := false }, kinds := [], alts := [], laidByText := true, laidKinds := [.data], laidTests := true, laidLooks := .later }
def BitmapCodesCardSaid : Prop := Claim7.holds Tryd.pinned (.plain (OpenSpec.ofChange bitmapCodesSpec)) bitmapCodesCard

/-- THE TIED CARD OF 'replicalaw03.BitmapSets'. -/
def bitmapSetsCard : Claim7 := { stood := { row := bitmapSetsRow, standIns := [], harness := (true, "15e3c7c4932e879bae8947c562ea1711ff5bbe81aa3847f8ffa5af54d2803fa4"), looks := false }, kinds := [], alts := [], laidByText := true, laidKinds := [.data], laidTests := true, laidLooks := .later }
def BitmapSetsCardSaid : Prop := Claim7.holds Tryd.pinned (.plain (OpenSpec.ofChange bitmapSetsSpec)) bitmapSetsCard

/-- THE TIED CARD OF 'replicalaw03.BitmapAsks'. -/
def bitmapAsksCard : Claim7 := { stood := { row := bitmapAsksRow, standIns := [], harness := (true, "15e3c7c4932e879bae8947c562ea1711ff5bbe81aa3847f8ffa5af54d2803fa4"), looks := false }, kinds := [], alts := [], laidByText := true, laidKinds := [.data], laidTests := true, laidLooks := .later }
def BitmapAsksCardSaid : Prop := Claim7.holds Tryd.pinned (.plain (OpenSpec.ofChange bitmapAsksSpec)) bitmapAsksCard

/-- THE SECOND FORM's CARD OF 'replicalaw03.BitmapCodePlace'. -/
def bitmapCodePlaceUptoCard : Claim7 := { stood := { row := bitmapCodePlaceUptoRow, standIns := [], harness := (true, "15e3c7c4932e879bae8947c562ea1711ff5bbe81aa3847f8ffa5af54d2803fa4"), looks := false }, kinds := [], alts := [], laidByText := true, laidKinds := [.data], laidTests := true, laidLooks := .later }
def BitmapCodePlaceUptoCardSaid : Prop := Claim7.holds Tryd.pinned (.plain (OpenSpec.upto bitmapCodePlaceSpec)) bitmapCodePlaceUptoCard

/-- THE SECOND FORM's CARD OF 'replicalaw03.BitmapNews'. -/
def bitmapNewsUptoCard : Claim7 := { stood := { row := bitmapNewsUptoRow, standIns := [], harness := (true, "15e3c7c4932e879bae8947c562ea1711ff5bbe81aa3847f8ffa5af54d2803fa4"), looks := false }, kinds := [], alts := [], laidByText := true, laidKinds := [.data], laidTests := true, laidLooks := .later }
def BitmapNewsUptoCardSaid : Prop := Claim7.holds Tryd.pinned (.plain (OpenSpec.upto bitmapNewsSpec)) bitmapNewsUptoCard

/-- THE SECOND FORM's CARD OF 'replicalaw03.BitmapCodes'. -/
def bitmapCodesUptoCard : Claim7 := { stood := { row := bitmapCodesUptoRow, standIns := [], harness := (true, "15e3c7c4932e879bae8947c562ea1711ff5bbe81aa3847f8ffa5af54d2803fa4"), looks := false }, kinds := [], alts := [], laidByText := true, laidKinds := [.data], laidTests := true, laidLooks := .later }
def BitmapCodesUptoCardSaid : Prop := Claim7.holds Tryd.pinned (.plain (OpenSpec.upto bitmapCodesSpec)) bitmapCodesUptoCard

/-- THE SECOND FORM's CARD OF 'replicalaw03.BitmapSets'. -/
def bitmapSetsUptoCard : Claim7 := { stood := { row := bitmapSetsUptoRow, standIns := [], harness := (true, "15e3c7c4932e879bae8947c562ea1711ff5bbe81aa3847f8ffa5af54d2803fa4"), looks := false }, kinds := [], alts := [], laidByText := true, laidKinds := [.data], laidTests := true, laidLooks := .later }
def BitmapSetsUptoCardSaid : Prop := Claim7.holds Tryd.pinned (.plain (OpenSpec.upto bitmapSetsSpec)) bitmapSetsUptoCard

/-- THE SECOND FORM's CARD OF 'replicalaw03.BitmapAsks'. -/
def bitmapAsksUptoCard : Claim7 := { stood := { row := bitmapAsksUptoRow, standIns := [], harness := (true, "15e3c7c4932e879bae8947c562ea1711ff5bbe81aa3847f8ffa5af54d2803fa4"), looks := false }, kinds := [], alts := [], laidByText := true, laidKinds := [.data], laidTests := true, laidLooks := .later }
def BitmapAsksUptoCardSaid : Prop := Claim7.holds Tryd.pinned (.plain (OpenSpec.upto bitmapAsksSpec)) bitmapAsksUptoCard
end Rows
end Go.Proofs.YtglajdmkbckjjabDoor
