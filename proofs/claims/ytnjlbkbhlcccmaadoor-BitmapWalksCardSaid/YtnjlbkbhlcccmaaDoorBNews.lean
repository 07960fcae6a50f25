import Derived.Test.YtnjlbkbhlcccmaaDoorBAsk
namespace Go.Proofs.YtnjlbkbhlcccmaaDoor
open Go.RowKit Go.Shelf
set_option linter.unusedVariables false
set_option linter.unusedSimpArgs false
set_option maxRecDepth 20000

end Go.Proofs.YtnjlbkbhlcccmaaDoor
