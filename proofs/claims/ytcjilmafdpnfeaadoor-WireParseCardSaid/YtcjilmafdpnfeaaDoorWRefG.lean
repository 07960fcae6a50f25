import Derived.Test.YtcjilmafdpnfeaaDoorWRefF
namespace Go.Proofs.YtcjilmafdpnfeaaDoor
open Go.RowKit
open Num
set_option linter.unusedVariables false
set_option linter.unusedSimpArgs false

theorem wro_ferr {k : Int} {n : Nat} (h1 : 1 ≤ k) (h4 : k ≤ 4) : ferr k n = if wro k n then 75 else 0 := by
  unfold ferr wro
  rw [if_neg (by omega)]
  by_cases h : (k = 2 ∧ n = 0) ∨ (k ≠ 2 ∧ 0 < n) ∨ 2048 < n
  · rw [if_pos h, if_pos (decide_eq_true h)]
  · rw [if_neg h, if_neg (by simpa using h)]

end Go.Proofs.YtcjilmafdpnfeaaDoor
