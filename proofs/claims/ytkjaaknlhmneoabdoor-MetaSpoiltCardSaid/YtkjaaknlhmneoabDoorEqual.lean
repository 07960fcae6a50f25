import Derived.Test.YtkjaaknlhmneoabDoorByt
namespace Go.Proofs.YtkjaaknlhmneoabDoor
open Go.RowKit
open Num
set_option linter.unusedVariables false

end Go.Proofs.YtkjaaknlhmneoabDoor
