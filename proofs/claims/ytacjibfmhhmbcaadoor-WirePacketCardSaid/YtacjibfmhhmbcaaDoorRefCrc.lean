import Derived.Test.YtacjibfmhhmbcaaDoorCrc
namespace Go.Proofs.YtacjibfmhhmbcaaDoor
open Go.RowKit
open Num
set_option linter.unusedVariables false

end Go.Proofs.YtacjibfmhhmbcaaDoor
