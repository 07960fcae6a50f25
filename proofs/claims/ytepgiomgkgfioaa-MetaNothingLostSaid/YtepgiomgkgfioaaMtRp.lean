import Derived.Test.YtepgiomgkgfioaaMtRb
import Derived.Test.YtepgiomgkgfioaaMtPlan
namespace Go.Proofs.Ytepgiomgkgfioaa
open Go.RowKit
open Num
set_option linter.unusedVariables false
set_option linter.unusedSimpArgs false
set_option maxRecDepth 20000

/-- a last word at or above the mask has a bit there -/
theorem over_bit {n : Nat} {ws : List Nat} (hl : ws.length = (n + 63) / 64) (h1 : 1 ≤ n) (hb : ∀ i, i < ws.length → ws.getD i 0 < 18446744073709551616) (h : ¬ ws.getD ((n + 63) / 64 - 1) 0 < 2 ^ lr n) : ∃ j, n ≤ j ∧ j < 64 * ws.length ∧ wbit ws j = true := by
  have h6 := hb ((n + 63) / 64 - 1) (by omega)
  have hex : ∃ k, lr n ≤ k ∧ (ws.getD ((n + 63) / 64 - 1) 0).testBit k = true := Classical.byContradiction fun hn => h (Nat.lt_pow_two_of_testBit _ fun i hi => by
    cases e : (ws.getD ((n + 63) / 64 - 1) 0).testBit i with
    | false => rfl
    | true => exact absurd ⟨i, hi, e⟩ hn)
  obtain ⟨k, hk, hkb⟩ := hex
  have hk6 : k < 64 := Classical.byContradiction fun hn => by
    have := Nat.testBit_lt_two_pow (x := ws.getD ((n + 63) / 64 - 1) 0) (i := k) (Nat.lt_of_lt_of_le h6 (show 18446744073709551616 ≤ 2 ^ k from Nat.pow_le_pow_right (n := 2) (i := 64) (by decide) (by omega)))
    rw [this] at hkb
    cases hkb
  have hlr : n ≤ 64 * ((n + 63) / 64 - 1) + lr n := by unfold lr lmS; omega
  refine ⟨64 * ((n + 63) / 64 - 1) + k, by omega, by omega, ?_⟩
  unfold wbit
  rw [show (64 * ((n + 63) / 64 - 1) + k) / 64 = (n + 63) / 64 - 1 by omega, show (64 * ((n + 63) / 64 - 1) + k) % 64 = k by omega]
  exact hkb
end Go.Proofs.Ytepgiomgkgfioaa
