import Derived.Test.YtcjilmafdpnfeaaDoorWDec
namespace Go.Proofs.YtcjilmafdpnfeaaDoor
open Go.RowKit
open Num
set_option linter.unusedVariables false
set_option linter.unusedSimpArgs false
set_option maxRecDepth 20000

theorem bv2_lt {l : List Nat} (hb : ∀ x ∈ l, x < 256) (h : l.length = 2) : bv l < 65536 := by
  have := bv_lt l hb
  rw [h] at this
  exact this

end Go.Proofs.YtcjilmafdpnfeaaDoor
