import Derived.Test.YtophcdfaflehcaaDoorWLv
import Derived.Test.YtophcdfaflehcaaDoorWLv0
import Derived.Test.YtophcdfaflehcaaDoorWLvB
namespace Go.Proofs.YtophcdfaflehcaaDoor
open Go.RowKit
set_option linter.unusedVariables false
theorem leave_law {w : World} {v : Value} {l : List Nat} (n s k : Int) (hT : TabAt w) (hv : WSl w v l) (hr : l.length ≤ 17592186044416) :
    Calls Tryd.prog 4 #[.int .i64 n, v, .int .i64 s, .int .i64 k] w fun e w' => e = .returned (.bool true) ∧ Below w.heap.size w w' := by
  by_cases he : nErr n s l = 0
  · obtain ⟨m, t, rfl, rfl, h1, h2, h3, h4⟩ := nErr_zero he
    by_cases hk : 0 < k
    · exact leave_good m t k hT hv hr h1 h2 h3 h4 hk
    · exact leave_zero m t k hT hv hr h1 h2 h3 h4 (by omega)
  · exact leave_bad n s k hT hv hr he
end Go.Proofs.YtophcdfaflehcaaDoor
