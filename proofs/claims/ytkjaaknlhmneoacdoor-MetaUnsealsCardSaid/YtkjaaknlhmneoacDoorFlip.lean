import Derived.Test.YtkjaaknlhmneoacDoorByt
import Derived.Test.YtkjaaknlhmneoacDoorFlipMath
import Derived.Test.YtkjaaknlhmneoacDoorShaWrite
namespace Go.Proofs.YtkjaaknlhmneoacDoor
open Go.RowKit
open Num
set_option linter.unusedVariables false
set_option linter.unusedSimpArgs false

theorem map_set_byteV (l : List Nat) (k x : Nat) : (l.map byteV).set k (.int .u8 (x : Int)) = (l.set k x).map byteV := by
  rw [List.map_set]; rfl
theorem Own.stored {w : World} {base g cap : Nat} {l : List Nat} (h : Own w base (.slice (some ⟨g, 0, none⟩) l.length cap) l) (k x : Nat) (hx : x < 256) :
    Own (w.setCell ⟨g, k, none⟩ (.int .u8 (x : Int))) base (.slice (some ⟨g, 0, none⟩) l.length cap) (l.set k x) := by
  have h1 := (h.1.stored k (.int .u8 (x : Int))).1
  rw [map_set_byteV] at h1
  refine ⟨by rw [List.length_set]; exact h1, fun b hb => ?_⟩
  rcases List.mem_or_eq_of_mem_set hb with h2 | h2
  · exact h.2 b h2
  · omega

theorem xor_pow8 {x r : Nat} (hx : x < 256) (hr : r < 8) : bits BinOp.xor IntKind.u8 (x : Int) ((2 : Int) ^ r % 256) = ((x ^^^ 2 ^ r : Nat) : Int) := by
  have hp : (2 : Nat) ^ r < 256 := Nat.pow_lt_pow_right (a := 2) (n := 8) (by omega) hr
  have h2r : (2 : Int) ^ r = ((2 ^ r : Nat) : Int) := by rw [Int.natCast_pow]; rfl
  rw [h2r]
  generalize (2 : Nat) ^ r = P at *
  rw [show ((P : Nat) : Int) % 256 = (P : Int) by omega]
  exact u8_xor_nat x P hx hp

end Go.Proofs.YtkjaaknlhmneoacDoor
