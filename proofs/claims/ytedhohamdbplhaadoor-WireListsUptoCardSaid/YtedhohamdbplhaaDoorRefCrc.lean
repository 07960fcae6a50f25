import Derived.Test.YtedhohamdbplhaaDoorCrc
namespace Go.Proofs.YtedhohamdbplhaaDoor
open Go.RowKit
open Num
set_option linter.unusedVariables false

end Go.Proofs.YtedhohamdbplhaaDoor
