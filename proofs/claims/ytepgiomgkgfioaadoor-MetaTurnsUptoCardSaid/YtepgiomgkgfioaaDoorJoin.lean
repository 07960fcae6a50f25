import Derived.Test.YtepgiomgkgfioaaDoorByt
import Derived.Test.YtepgiomgkgfioaaDoorShaMac
import Derived.Lib.SmallJoins
namespace Go.Proofs.YtepgiomgkgfioaaDoor
open Go.RowKit
open Num
set_option linter.unusedVariables false
set_option linter.unusedSimpArgs false

theorem Own.kept' {w w' : World} {base : Nat} {v : Value} {l : List Nat} (h : Own w base v l) (hb : Below w.heap.size w w') : Own w' base v l := h.kept hb

end Go.Proofs.YtepgiomgkgfioaaDoor
