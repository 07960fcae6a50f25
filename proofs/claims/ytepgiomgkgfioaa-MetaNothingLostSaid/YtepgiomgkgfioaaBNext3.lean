import Derived.Test.YtepgiomgkgfioaaBNext2
namespace Go.Proofs.Ytepgiomgkgfioaa.B
open Go.RowKit
set_option linter.unusedVariables false
set_option linter.unusedSimpArgs false

/-- the bits that are not set -/
def inv (u : Nat) : Nat := 18446744073709551616 - (u + 1)
theorem inv_lt (u : Nat) : inv u < 18446744073709551616 := by unfold inv; omega
theorem testBit_inv {u : Nat} (hu : u < 18446744073709551616) (i : Nat) : (inv u).testBit i = (decide (i < 64) && !u.testBit i) := Nat.testBit_two_pow_sub_succ (n := 64) hu i
theorem xor_inv {u : Nat} (hu : u < 18446744073709551616) : bits .xor .u64 IntKind.u64.max (u : Int) = (inv u : Nat) := by
  have e : IntKind.u64.max = ((18446744073709551615 : Nat) : Int) := by decide
  rw [e, u64_xor_nat _ _ (by decide) hu]
  congr 1
  apply Nat.eq_of_testBit_eq
  intro i
  rw [Nat.testBit_xor, testBit_inv hu, show (18446744073709551615 : Nat) = 2 ^ 64 - 1 from rfl, Nat.testBit_two_pow_sub_one]
  by_cases hi : i < 64
  · simp [hi]
  · simp [hi, testBit_hi hu (by omega : 64 ≤ i)]

theorem nc_some {B j : Nat} (h : inv (wd B (j / 64)) / 2 ^ (j % 64) ≠ 0) :
    Lib.ctz 64 (inv (wd B (j / 64)) / 2 ^ (j % 64)) < 64 ∧ B.testBit (j + Lib.ctz 64 (inv (wd B (j / 64)) / 2 ^ (j % 64))) = false ∧ ∀ i, j ≤ i → i < j + Lib.ctz 64 (inv (wd B (j / 64)) / 2 ^ (j % 64)) → B.testBit i = true := by
  have hs : j % 64 < 64 := Nat.mod_lt _ (by decide)
  obtain ⟨h1, h2, h3, h4⟩ := shf_some (inv_lt (wd B (j / 64))) hs h
  generalize Lib.ctz 64 (inv (wd B (j / 64)) / 2 ^ (j % 64)) = c at *
  refine ⟨h1, ?_, fun i hi hi' => ?_⟩
  · rw [testBit_inv (wd_lt _ _)] at h3
    rw [bit_of_wd, show (j + c) / 64 = j / 64 by omega, show (j + c) % 64 = j % 64 + c by omega]
    simpa [h2] using h3
  · have := h4 (i % 64) (by omega) (by omega)
    rw [testBit_inv (wd_lt _ _)] at this
    rw [bit_of_wd, show i / 64 = j / 64 by omega]
    have h64 : i % 64 < 64 := by omega
    simpa [h64] using this
theorem nc_none {B j : Nat} (h : inv (wd B (j / 64)) / 2 ^ (j % 64) = 0) : ∀ i, j ≤ i → i < (j / 64 + 1) * 64 → B.testBit i = true := by
  intro i hi hi'
  have := shf_none h (i % 64) (by omega)
  rw [testBit_inv (wd_lt _ _)] at this
  rw [bit_of_wd, show i / 64 = j / 64 by omega]
  have h64 : i % 64 < 64 := by omega
  simpa [h64] using this

end Go.Proofs.Ytepgiomgkgfioaa.B
