import Derived.Test.YtlkccencilhacaaARef6
import Derived.Test.YtlkccencilhacaaABook3
namespace Go.Proofs.Ytlkccencilhacaa
open Go.RowKit Go.Sort
set_option linter.unusedVariables false
set_option linter.unusedSimpArgs false
set_option maxRecDepth 20000

abbrev cz : RC := ⟨false, 0, 0, 0⟩
end Go.Proofs.Ytlkccencilhacaa
