import Derived.Test.YtcjilmafdpnfeaaDoorWFits2
import Derived.StillTailTactics
namespace Go.Proofs.YtcjilmafdpnfeaaDoor
open Go.RowKit
set_option linter.unusedVariables false
set_option linter.unusedSimpArgs false
set_option maxRecDepth 20000

end Go.Proofs.YtcjilmafdpnfeaaDoor
