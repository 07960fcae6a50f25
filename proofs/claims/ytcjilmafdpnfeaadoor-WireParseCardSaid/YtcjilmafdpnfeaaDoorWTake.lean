import Derived.Test.YtcjilmafdpnfeaaDoorWRnum3
import Derived.Test.YtcjilmafdpnfeaaDoorWClone
namespace Go.Proofs.YtcjilmafdpnfeaaDoor
open Go.RowKit
set_option linter.unusedVariables false
set_option linter.unusedSimpArgs false
set_option maxRecDepth 20000

set_option maxHeartbeats 1000000 in
theorem take_none (w : World) (rb b off cap at' c : Nat) (l : List Nat) (stuck : Bool) (h : Rd w rb b off cap l at' stuck) (hc : c ≤ 65535) (h0 : stuck = true ∨ c = 0) :
    Calls Tryd.prog 23 #[.pointer (some ⟨rb, 0, none⟩), .int .i64 (c : Int)] w fun e' w' => e' = .returned (.slice none 0 0) ∧ Rd w' rb b off cap l at' stuck ∧ Oth rb w w' := by
  have HR := hide h
  obtain ⟨c0, c1, c2, f1, f2⟩ := h.cells
  clear h
  cases stuck with
  | true =>
    go_enter Tryd.func23, Tryd.ntmps23
    go_wp2
    repeat (go_quiet (fail); go_wp2)
    go_ret
    exact ⟨rfl, by first | exact HR.out | exact HR.out.same rfl rfl, by first | exact Oth.refl _ _ | exact (Oth.refl _ _).drewN _⟩
  | false =>
    obtain rfl : c = 0 := by simpa using h0
    go_enter Tryd.func23, Tryd.ntmps23
    go_wp2
    repeat (go_quiet (fail); go_wp2)
    go_ret
    exact ⟨rfl, by first | exact HR.out | exact HR.out.same rfl rfl, by first | exact Oth.refl _ _ | exact (Oth.refl _ _).drewN _⟩
end Go.Proofs.YtcjilmafdpnfeaaDoor
