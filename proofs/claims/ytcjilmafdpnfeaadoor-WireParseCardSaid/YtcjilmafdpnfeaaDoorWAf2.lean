import Derived.Test.YtcjilmafdpnfeaaDoorWAf
namespace Go.Proofs.YtcjilmafdpnfeaaDoor
open Go.RowKit
set_option linter.unusedVariables false
set_option linter.unusedSimpArgs false
set_option maxRecDepth 20000

theorem Tryd.infoU64 : (Tryd.prog.info? 25).map (fun i => (i.zero, i.size, i.bytes)) = some (some (.int .u64 0), 1, 8) := by kernel_rfl
def gsL (g0 g1 g2 g3 : Nat) (k : Nat) : List Nat := ([g0, g1, g2, g3].take k).flatMap fun g => be g 8
theorem gsL_succ (g0 g1 g2 g3 k : Nat) (hk : k < 4) : gsL g0 g1 g2 g3 (k + 1) = gsL g0 g1 g2 g3 k ++ be ([g0, g1, g2, g3].getD k 0) 8 := by
  obtain rfl | rfl | rfl | rfl : k = 0 ∨ k = 1 ∨ k = 2 ∨ k = 3 := by omega
  all_goals simp [gsL]
theorem gsL_len (g0 g1 g2 g3 k : Nat) (hk : k ≤ 4) : (gsL g0 g1 g2 g3 k).length = 8 * k := by
  obtain rfl | rfl | rfl | rfl | rfl : k = 0 ∨ k = 1 ∨ k = 2 ∨ k = 3 ∨ k = 4 := by omega
  all_goals simp [gsL, be_len]
theorem getD_cast (g0 g1 g2 g3 k : Nat) : ([(g0 : Int), (g1 : Int), (g2 : Int), (g3 : Int)].getD k 0) = (([g0, g1, g2, g3].getD k 0 : Nat) : Int) := by
  match k with
  | 0 => rfl
  | 1 => rfl
  | 2 => rfl
  | 3 => rfl
  | n + 4 => simp [List.getD]

end Go.Proofs.YtcjilmafdpnfeaaDoor
