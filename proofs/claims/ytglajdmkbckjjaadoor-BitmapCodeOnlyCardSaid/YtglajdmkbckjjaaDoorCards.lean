/-
  DERIVED. GIVEN WITH THE SEED: THE CARDS: each row of YtglajdmkbckjjaaDoorRows.lean that lists a variable, with what it lists TIED to the program's text (the seventh form; the later family's looks); each row that meets fmt, with fmt's text TOLD by the authors' own Lean function (tested against real Go, not proved from fmt's source: count such statements apart). THE CARD IS WHAT COUNTS. Prove the row's statement (the work); the ties are given (YtglajdmkbckjjaaDoorTie.lean); close each card by the builder's one call (the guide's Derived/Test/ToyasCard.lean, 'card_holds'). Laid BY PROGRAM, IN A SANDBOX (cutbox-door.mjs). By AI agents, Wed Nov 11 2026. No macro, syntax, notation, axiom, sorry.
-/
import Derived.Test.YtglajdmkbckjjaaDoorRows
import GoSem.ClaimSeven
namespace Go.Proofs.YtglajdmkbckjjaaDoor
namespace Rows

/-- THE TIED CARD OF 'replicalaw03.BitmapRunsTile'. -/
def bitmapRunsTileCard : Claim7 := { stood := { row := bitmapRunsTileRow, standIns := [], harness := (true, "b20be616c3a1517e13a667a068559a7c66f4e769faef381edf5d12970a017e68"), looks := false }, kinds := [], alts := [], laidByText := true, laidKinds := [.data], laidTests := true, laidLooks := .later }
def BitmapRunsTileCardSaid : Prop := Claim7.holds Tryd.pinned (.plain (OpenSpec.ofChange bitmapRunsTileSpec)) bitmapRunsTileCard

/-- THE TIED CARD OF 'replicalaw03.BitmapMergeUnion'. -/
def bitmapMergeUnionCard : Claim7 := { stood := { row := bitmapMergeUnionRow, standIns := [], harness := (true, "b20be616c3a1517e13a667a068559a7c66f4e769faef381edf5d12970a017e68"), looks := false }, kinds := [], alts := [], laidByText := true, laidKinds := [.data], laidTests := true, laidLooks := .later }
def BitmapMergeUnionCardSaid : Prop := Claim7.holds Tryd.pinned (.plain (OpenSpec.ofChange bitmapMergeUnionSpec)) bitmapMergeUnionCard

/-- THE TIED CARD OF 'replicalaw03.BitmapUnions'. -/
def bitmapUnionsCard : Claim7 := { stood := { row := bitmapUnionsRow, standIns := [], harness := (true, "b20be616c3a1517e13a667a068559a7c66f4e769faef381edf5d12970a017e68"), looks := false }, kinds := [], alts := [], laidByText := true, laidKinds := [.data], laidTests := true, laidLooks := .later }
def BitmapUnionsCardSaid : Prop := Claim7.holds Tryd.pinned (.plain (OpenSpec.ofChange bitmapUnionsSpec)) bitmapUnionsCard

/-- THE TIED CARD OF 'replicalaw03.BitmapCodeOnly'. -/
def bitmapCodeOnlyCard : Claim7 := { stood := { row := bitmapCodeOnlyRow, standIns := [], harness := (true, "b20be616c3a1517e13a667a068559a7c66f4e769faef381edf5d12970a017e68"), looks := false }, kinds := [], alts := [], laidByText := true, laidKinds := [.data], laidTests := true, laidLooks := .later }
def BitmapCodeOnlyCardSaid : Prop := Claim7.holds Tryd.pinned (.plain (OpenSpec.ofChange bitmapCodeOnlySpec)) bitmapCodeOnlyCard

/-- THE TIED CARD OF 'replicalaw03.BitmapTwoLevels'. -/
def bitmapTwoLevelsCard : Claim7 := { stood := { row := bitmapTwoLevelsRow, standIns := [], harness := (true, "b20be616c3a1517e13a667a068559a7c66f4e769faef381edf5d12970a017e68"), looks := false }, kinds := [], alts := [], laidByText := true, laidKinds := [.data], laidTests := true, laidLooks := .later }
def BitmapTwoLevelsCardSaid : Prop := Claim7.holds Tryd.pinned (.plain (OpenSpec.ofChange bitmapTwoLevelsSpec)) bitmapTwoLevelsCard

/-- THE TIED CARD OF 'replicalaw03.BitmapCodeBack'. -/
def bitmapCodeBackCard : Claim7 := { stood := { row := bitmapCodeBackRow, standIns := [], harness := (true, "b20be616c3a1517e13a667a068559a7c66f4e769faef381edf5d12970a017e68"), looks := false }, kinds := [], alts := [], laidByText := true, laidKinds := [.data], laidTests := true, laidLooks := .later }
def BitmapCodeBackCardSaid : Prop := Claim7.holds Tryd.pinned (.plain (OpenSpec.ofChange bitmapCodeBackSpec)) bitmapCodeBackCard

/-- THE SECOND FORM's CARD OF 'replicalaw03.BitmapRunsTile'. -/
def bitmapRunsTileUptoCard : Claim7 := { stood := { row := bitmapRunsTileUptoRow, standIns := [], harness := (true, "b20be616c3a1517e13a667a068559a7c66f4e769faef381edf5d12970a017e68"), looks := false }, kinds := [], alts := [], laidByText := true, laidKinds := [.data], laidTests := true, laidLooks := .later }
def BitmapRunsTileUptoCardSaid : Prop := Claim7.holds Tryd.pinned (.plain (OpenSpec.upto bitmapRunsTileSpec)) bitmapRunsTileUptoCard

/-- THE SECOND FORM's CARD OF 'replicalaw03.BitmapMergeUnion'. -/
def bitmapMergeUnionUptoCard : Claim7 := { stood := { row := bitmapMergeUnionUptoRow, standIns := [], harness := (true, "b20be616c3a1517e13a667a068559a7c66f4e769faef381edf5d12970a017e68"), looks := false }, kinds := [], alts := [], laidByText := true, laidKinds := [.data], laidTests := true, laidLooks := .later }
def BitmapMergeUnionUptoCardSaid : Prop := Claim7.holds Tryd.pinned (.plain (OpenSpec.upto bitmapMergeUnionSpec)) bitmapMergeUnionUptoCard

/-- THE SECOND FORM's CARD OF 'replicalaw03.BitmapUnions'. -/
def bitmapUnionsUptoCard : Claim7 := { stood := { row := bitmapUnionsUptoRow, standIns := [], harness := (true, "b20be616c3a1517e13a667a068559a7c66f4e769faef381edf5d12970a017e68"), looks := false }, kinds := [], alts := [], laidByText := true, laidKinds := [.data], laidTests := true, laidLooks := .later }
def BitmapUnionsUptoCardSaid : Prop := Claim7.holds Tryd.pinned (.plain (OpenSpec.upto bitmapUnionsSpec)) bitmapUnionsUptoCard

/-- THE SECOND FORM's CARD OF 'replicalaw03.BitmapCodeOnly'. -/
def bitmapCodeOnlyUptoCard : Claim7 := { stood := { row := bitmapCodeOnlyUptoRow, standIns := [], harness := (true, "b20be616c3a1517e13a667a068559a7c66f4e769faef381edf5d12970a017e68"), looks := false }, kinds := [], alts := [], laidByText := true, laidKinds := [.data], laidTests := true, laidLooks := .later }
def BitmapCodeOnlyUptoCardSaid : Prop := Claim7.holds Tryd.pinned (.plain (OpenSpec.upto bitmapCodeOnlySpec)) bitmapCodeOnlyUptoCard

/-- THE SECOND FORM's CARD OF 'replicalaw03.BitmapTwoLevels'. -/
def bitmapTwoLevelsUptoCard : Claim7 := { stood := { row := bitmapTwoLevelsUptoRow, standIns := [], harness := (true, "b20be616c3a1517e13a667a068559a7c66f4e769faef381edf5d12970a017e68"), looks := false }, kinds := [], alts := [], laidByText := true, laidKinds := [.data], laidTests := true, laidLooks := .later }
def BitmapTwoLevelsUptoCardSaid : Prop := Claim7.holds Tryd.pinned (.plain (OpenSpec.upto bitmapTwoLevelsSpec)) bitmapTwoLevelsUptoCard

/-- THE SECOND FORM's CARD OF 'replicalaw03.BitmapCodeBack'. -/
def bitmapCodeBackUptoCard : Claim7 := { stood := { row := bitmapCodeBackUptoRow, standIns := [], harness := (true, "b20be616c3a1517e13a667a068559a7c66f4e769faef381edf5d12970a017e68"), looks := false }, kinds := [], alts := [], laidByText := true, laidKinds := [.data], laidTests := true, laidLooks := .later }
def BitmapCodeBackUptoCardSaid : Prop := Claim7.holds Tryd.pinned (.plain (OpenSpec.upto bitmapCodeBackSpec)) bitmapCodeBackUptoCard
end Rows
end Go.Proofs.YtglajdmkbckjjaaDoor
