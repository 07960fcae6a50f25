import Derived.Test.YtcjilmafdpnfeaaDoorWEnc
namespace Go.Proofs.YtcjilmafdpnfeaaDoor
open Go.RowKit
open Num
set_option linter.unusedVariables false
set_option linter.unusedSimpArgs false

theorem Own.four {w : World} (x y z t : Nat) (hx : x < 256) (hy : y < 256) (hz : z < 256) (ht : t < 256) : Own (w.alloc (.cells #[.int .u8 (x : Int), .int .u8 (y : Int), .int .u8 (z : Int), .int .u8 (t : Int)] 5)) w.heap.size (.slice (some ⟨w.heap.size, 0, none⟩) 4 4) [x, y, z, t] :=
  ⟨World.ownsRow_lit w #[.int .u8 (x : Int), .int .u8 (y : Int), .int .u8 (z : Int), .int .u8 (t : Int)] 4 (Nat.le_refl _) (by unfold maxLen; omega) rfl, by simpa using ⟨hx, hy, hz, ht⟩⟩

end Go.Proofs.YtcjilmafdpnfeaaDoor
