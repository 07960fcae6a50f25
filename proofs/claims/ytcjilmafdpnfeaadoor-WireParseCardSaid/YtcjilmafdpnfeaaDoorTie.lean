/-
  DERIVED. GIVEN WITH THE SEED: THE PROGRAM's TIES (one call each: nine closed facts by the kernel) AND EACH ROW's TIE, after the 31st guide's Derived/Test/Toyas{Tie, Card}.lean. No idea stands in it: it is a product of the set-up. Laid BY PROGRAM, IN A SANDBOX (cutbox-door.mjs). By AI agents, Wed Nov 11 2026. No macro, syntax, notation, axiom, sorry.
-/
import Derived.Test.YtcjilmafdpnfeaaDoorRows
import Derived.LaidByTextLater
import Derived.SevenTiedAt
import Derived.LaidSub
import Derived.LaidOnce
namespace Go.Proofs.YtcjilmafdpnfeaaDoor
open Go
set_option maxRecDepth 100000
theorem seatTie1 : Tryd.prog.laidByTextLater [("replica/replicaref07.carries", Rows.laid_replica_replicaref07_carries), ("replica/replicaref07.five", Rows.laid_replica_replicaref07_five), ("replica/wire.bounds", Rows.laid_replica_wire_bounds)] [.data, .data, .data] true :=
  Program.laidByTextLater_by_one 42 8 55 (by kernel_rfl) (by kernel_rfl) (by kernel_rfl) (by kernel_rfl) (by kernel_rfl) (by kernel_rfl) (fun _ _ => by kernel_rfl)
theorem noOwnUnsafe : Tryd.pinned.checked.prog.headLifts.contains "ownunsafe" = false := by kernel_rfl
theorem tie : Tryd.prog.laidByTextLater [("replica/replicaref07.carries", Rows.laid_replica_replicaref07_carries), ("replica/replicaref07.five", Rows.laid_replica_replicaref07_five), ("replica/wire.bounds", Rows.laid_replica_wire_bounds)] [.data, .data, .data] true :=
  Program.laidByTextLater.sub seatTie1 ["replica/replicaref07.carries", "replica/replicaref07.five", "replica/wire.bounds"] (by kernel_rfl) (by kernel_rfl)
theorem wireParse_row_tie : Rows.wireParseRow.laidByTextAt .later Tryd.pinned [.data, .data, .data] true :=
  OpenClaim.laidByTextAt_later rfl rfl tie noOwnUnsafe
theorem wireParseUpto_row_tie : Rows.wireParseUptoRow.laidByTextAt .later Tryd.pinned [.data, .data, .data] true :=
  OpenClaim.laidByTextAt_later rfl rfl tie noOwnUnsafe
end Go.Proofs.YtcjilmafdpnfeaaDoor
