import Derived.Test.YtcjilmafdpnfeaaDoorCrc
namespace Go.Proofs.YtcjilmafdpnfeaaDoor
open Go.RowKit
open Num
set_option linter.unusedVariables false

end Go.Proofs.YtcjilmafdpnfeaaDoor
