import Derived.Test.YtcjilmafdpnfeaaDoorWApp
import Derived.Deep.RegionHeld3
import Derived.StillTailTactics
namespace Go.Proofs.YtcjilmafdpnfeaaDoor
open Go.RowKit
open Num
set_option linter.unusedVariables false

theorem shr_of {x n k : Nat} (h : k < n) : (x : Int) / (2 : Int) ^ ((8 * ((n : Int) - 1 - (k : Int))).toNat) = ((x / 256 ^ (n - 1 - k) : Nat) : Int) := by
  have : (8 * ((n : Int) - 1 - (k : Int))).toNat = 8 * (n - 1 - k) := by omega
  rw [this, Int.pow_mul]; rfl

theorem shr_of2 {x n k : Nat} (h : k < n) : (x : Int) / (2 : Int) ^ ((8 * ((n : Int) - 1 - (k : Int))).toNat) = ((x / 256 ^ (n - 1 - k) : Nat) : Int) := shr_of h

end Go.Proofs.YtcjilmafdpnfeaaDoor
