import Derived.Test.YtacjibfmhhmbcabDoorCrc
namespace Go.Proofs.YtacjibfmhhmbcabDoor
open Go.RowKit
open Num
set_option linter.unusedVariables false

end Go.Proofs.YtacjibfmhhmbcabDoor
