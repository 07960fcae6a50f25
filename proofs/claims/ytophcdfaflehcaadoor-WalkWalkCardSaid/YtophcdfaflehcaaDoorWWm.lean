import Derived.Test.YtophcdfaflehcaaDoorWWl
namespace Go.Proofs.YtophcdfaflehcaaDoor
open Go.RowKit
set_option linter.unusedVariables false
theorem walk_law {w : World} {v sv : Value} {l : List Nat} {os : List OpV} (n s : Int) (hT : TabAt w) (hv : WSl w v l) (hr : l.length ≤ 17592186044416) (ho : OSl w sv os) :
    Calls Tryd.prog 6 #[.int .i64 n, v, .int .i64 s, sv] w fun e w' => e = .returned (.bool true) ∧ Below w.heap.size w w' := by
  by_cases he : nErr n s l = 0
  · obtain ⟨m, t, rfl, rfl, h1, h2, h3, h4⟩ := nErr_zero he
    exact walk_good m t hT hv hr ho h1 h2 h3 h4
  · exact walk_bad n s hv hr ho he
end Go.Proofs.YtophcdfaflehcaaDoor
