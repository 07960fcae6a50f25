import Derived.Test.YtcjilmafdpnfeaaDoorWDec3
namespace Go.Proofs.YtcjilmafdpnfeaaDoor
open Go.RowKit
open Num
set_option linter.unusedVariables false
set_option linter.unusedSimpArgs false
set_option maxRecDepth 20000

end Go.Proofs.YtcjilmafdpnfeaaDoor
