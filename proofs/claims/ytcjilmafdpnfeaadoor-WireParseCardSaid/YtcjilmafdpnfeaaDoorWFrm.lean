import Derived.Test.YtcjilmafdpnfeaaDoorWPut
import Derived.Test.YtcjilmafdpnfeaaDoorRefCrc
namespace Go.Proofs.YtcjilmafdpnfeaaDoor
open Go.RowKit
open Num
set_option linter.unusedVariables false
set_option linter.unusedSimpArgs false

theorem ferr_74 {k : Int} {n : Nat} (h : k < 1 ∨ 4 < k) : ferr k n = 74 := by unfold ferr; rw [if_pos h]
theorem ferr_75 {k : Int} {n : Nat} (h : 1 ≤ k ∧ k ≤ 4) (h2 : (k = 2 ∧ n = 0) ∨ (k ≠ 2 ∧ 0 < n) ∨ 2048 < n) : ferr k n = 75 := by unfold ferr; rw [if_neg (by omega), if_pos h2]
theorem ferr_0 {k : Int} {n : Nat} (h : 1 ≤ k ∧ k ≤ 4) (h2 : ¬ ((k = 2 ∧ n = 0) ∨ (k ≠ 2 ∧ 0 < n) ∨ 2048 < n)) : ferr k n = 0 := by unfold ferr; rw [if_neg (by omega), if_neg h2]
theorem ret_err {a b : Nat} (h : b = a) : Ending.returned (.int .i64 (a : Int)) = .returned (.int .i64 (b : Int)) := by rw [h]

/-- 'wrong': must such a frame be refused? -/
def wro (k : Int) (n : Nat) : Bool := decide ((k = 2 ∧ n = 0) ∨ (k ≠ 2 ∧ 0 < n) ∨ 2048 < n)

theorem BSl.four0 {w : World} (t : TypeId) : BSl (w.alloc (.cells #[.int .u8 0, .int .u8 0, .int .u8 0, .int .u8 0] t)) (.slice (some ⟨w.heap.size, 0, none⟩) 4 4) [0, 0, 0, 0] := by
  refine ⟨_, 4, rfl, Nat.le_refl _, by decide, by simp, by simp, fun _ => ⟨_, 0, rfl, fun i hi => ?_⟩⟩
  have hi : i < 4 := hi
  rw [cell_of_row _ _ _ _ _ _ (Go.heap_alloc_new w _)]
  obtain rfl | rfl | rfl | rfl : i = 0 ∨ i = 1 ∨ i = 2 ∨ i = 3 := by omega
  all_goals rfl

end Go.Proofs.YtcjilmafdpnfeaaDoor
