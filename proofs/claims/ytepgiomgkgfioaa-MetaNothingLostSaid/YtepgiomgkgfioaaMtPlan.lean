import Derived.Test.YtepgiomgkgfioaaMtArea
import Derived.Deep.RegionWith
namespace Go.Proofs.Ytepgiomgkgfioaa
open Go.RowKit
set_option linter.unusedVariables false
set_option maxRecDepth 20000

def mring (n : Int) : Int := if n ≤ 4 then 1 else if n ≤ 8 then 2 else 4
theorem mring_le (n : Int) : 1 ≤ mring n ∧ mring n ≤ 4 := by unfold mring; (repeat' split) <;> omega
theorem mring_room {n : Int} (h : n ≤ 16) : n ≤ 4 * mring n := by unfold mring; (repeat' split) <;> omega
def areaB (n s : Int) : Int := (n - 1) / (8 * s) + 1
theorem areaB_le {n s : Int} (hs : okSz s = true) (h1 : 1 ≤ n) : 1 ≤ areaB n s ∧ areaB n s ≤ n := by
  obtain ⟨a, b⟩ := okSz_pos hs
  have hd : 0 ≤ (n - 1) / (8 * s) := Int.ediv_nonneg (by omega) (by omega)
  have hd2 : (n - 1) / (8 * s) ≤ n - 1 := Int.ediv_le_self _ (by omega)
  unfold areaB
  omega
theorem areaBlocks_any (w : World) (n s : Int) (hs : okSz s = true) (h1 : 1 ≤ n) (h2 : n ≤ 65536) : Calls Try.prog 26 #[.int .i64 n, .int .i64 s] w fun e w' => e = .returned (.int .i64 (areaB n s)) ∧ w' = w := by
  have HB := hide (blockOfBit_any w (n - 1) s hs (by omega) (by omega))
  have hd := areaB_le hs h1
  unfold areaB at *
  generalize (n - 1) / (8 * s) = q at *
  go_enter Try.func26, Try.ntmps26
  go_wp2_with (first
    | (go_at_call 41; refine HB.out.mono ?_; rintro e w2 ⟨rfl, rfl⟩))
  go_ret
  exact ⟨rfl, rfl⟩
theorem up_area {n s : Int} (hs : okSz s = true) (h1 : 1 ≤ n) : (n + 8 * s - 1) / (8 * s) = areaB n s := by
  obtain ⟨a, b⟩ := okSz_pos hs
  unfold areaB
  rw [show n + 8 * s - 1 = n - 1 + 8 * s by omega, Int.add_ediv_of_dvd_right (Int.dvd_refl _), Int.ediv_self (by omega)]
def planV (b s k : Int) : Value := .agg #[.int .i64 b, .int .i64 s, .int .i64 k, .int .i64 b, .int .i64 (areaB b s), .int .i64 (b + areaB b s), .int .i64 (mring k), .int .i64 (b + areaB b s + mring k), .int .i64 (b + areaB b s + mring k + 2)]
def noPlan : Value := .agg #[.int .i64 0, .int .i64 0, .int .i64 0, .int .i64 0, .int .i64 0, .int .i64 0, .int .i64 0, .int .i64 0, .int .i64 0]
def okPlan (b s k : Int) : Bool := decide (1 ≤ b ∧ b ≤ 4096) && okSz s && decide (1 ≤ k ∧ k ≤ 16)
end Go.Proofs.Ytepgiomgkgfioaa
