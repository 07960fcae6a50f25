import Derived.Test.YtedhohamdbplhaaDoorBSetR
namespace Go.Proofs.YtedhohamdbplhaaDoor.B
open Go.RowKit Go.Shelf
attribute [local go_sem] Oper.semAt_some
set_option linter.unusedVariables false
set_option linter.unusedSimpArgs false
set_option maxRecDepth 20000

end Go.Proofs.YtedhohamdbplhaaDoor.B
