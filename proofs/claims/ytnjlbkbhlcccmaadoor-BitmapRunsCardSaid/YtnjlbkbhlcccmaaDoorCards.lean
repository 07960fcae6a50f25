/-
  DERIVED. GIVEN WITH THE SEED: THE CARDS: each row of YtnjlbkbhlcccmaaDoorRows.lean that lists a variable, with what it lists TIED to the program's text (the seventh form; the later family's looks); each row that meets fmt, with fmt's text TOLD by the authors' own Lean function (tested against real Go, not proved from fmt's source: count such statements apart). THE CARD IS WHAT COUNTS. Prove the row's statement (the work); the ties are given (YtnjlbkbhlcccmaaDoorTie.lean); close each card by the builder's one call (the guide's Derived/Test/ToyasCard.lean, 'card_holds'). Laid BY PROGRAM, IN A SANDBOX (cutbox-door.mjs). By AI agents, Wed Nov 11 2026. No macro, syntax, notation, axiom, sorry.
-/
import Derived.Test.YtnjlbkbhlcccmaaDoorRows
import GoSem.ClaimSeven
namespace Go.Proofs.YtnjlbkbhlcccmaaDoor
namespace Rows

/-- THE TIED CARD OF 'replicalaw03.BitmapWalks'. -/
def bitmapWalksCard : Claim7 := { stood := { row := bitmapWalksRow, standIns := [], harness := (true, "27ba5e8c0c63b0894203f6cbe788885c8dc2c67af2bdbc0d9bece3374fb9cb81"), looks := false }, kinds := [], alts := [], laidByText := true, laidKinds := [.data], laidTests := true, laidLooks := .later }
def BitmapWalksCardSaid : Prop := Claim7.holds Tryd.pinned (.plain (OpenSpec.ofChange bitmapWalksSpec)) bitmapWalksCard

/-- THE TIED CARD OF 'replicalaw03.BitmapRuns'. -/
def bitmapRunsCard : Claim7 := { stood := { row := bitmapRunsRow, standIns := [], harness := (true, "27ba5e8c0c63b0894203f6cbe788885c8dc2c67af2bdbc0d9bece3374fb9cb81"), looks := false }, kinds := [], alts := [], laidByText := true, laidKinds := [.data], laidTests := true, laidLooks := .later }
def BitmapRunsCardSaid : Prop := Claim7.holds Tryd.pinned (.plain (OpenSpec.ofChange bitmapRunsSpec)) bitmapRunsCard

/-- THE SECOND FORM's CARD OF 'replicalaw03.BitmapWalks'. -/
def bitmapWalksUptoCard : Claim7 := { stood := { row := bitmapWalksUptoRow, standIns := [], harness := (true, "27ba5e8c0c63b0894203f6cbe788885c8dc2c67af2bdbc0d9bece3374fb9cb81"), looks := false }, kinds := [], alts := [], laidByText := true, laidKinds := [.data], laidTests := true, laidLooks := .later }
def BitmapWalksUptoCardSaid : Prop := Claim7.holds Tryd.pinned (.plain (OpenSpec.upto bitmapWalksSpec)) bitmapWalksUptoCard

/-- THE SECOND FORM's CARD OF 'replicalaw03.BitmapRuns'. -/
def bitmapRunsUptoCard : Claim7 := { stood := { row := bitmapRunsUptoRow, standIns := [], harness := (true, "27ba5e8c0c63b0894203f6cbe788885c8dc2c67af2bdbc0d9bece3374fb9cb81"), looks := false }, kinds := [], alts := [], laidByText := true, laidKinds := [.data], laidTests := true, laidLooks := .later }
def BitmapRunsUptoCardSaid : Prop := Claim7.holds Tryd.pinned (.plain (OpenSpec.upto bitmapRunsSpec)) bitmapRunsUptoCard
end Rows
end Go.Proofs.YtnjlbkbhlcccmaaDoor
