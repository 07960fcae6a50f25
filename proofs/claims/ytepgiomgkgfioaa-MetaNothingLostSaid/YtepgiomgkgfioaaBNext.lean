import Derived.Test.YtepgiomgkgfioaaBRep
namespace Go.Proofs.Ytepgiomgkgfioaa.B
open Go.RowKit
set_option linter.unusedVariables false
set_option linter.unusedSimpArgs false

/-- what is left of a word behind a shift, and the first bit that is set in it -/
theorem shf_some {x s : Nat} (hx : x < 18446744073709551616) (hs : s < 64) (h : x / 2 ^ s ≠ 0) :
    Lib.ctz 64 (x / 2 ^ s) < 64 ∧ s + Lib.ctz 64 (x / 2 ^ s) < 64 ∧ x.testBit (s + Lib.ctz 64 (x / 2 ^ s)) = true ∧ ∀ i, s ≤ i → i < s + Lib.ctz 64 (x / 2 ^ s) → x.testBit i = false := by
  have hl : x / 2 ^ s < 18446744073709551616 := Nat.lt_of_le_of_lt (Nat.div_le_self _ _) hx
  obtain ⟨h1, h2, h3⟩ := ctz_spec h hl
  generalize Lib.ctz 64 (x / 2 ^ s) = c at *
  rw [Nat.testBit_div_two_pow] at h2
  have hlt : s + c < 64 := by
    apply Nat.lt_of_not_le
    intro hc
    rw [Nat.add_comm, testBit_hi hx hc] at h2
    simp at h2
  refine ⟨h1, hlt, by rw [Nat.add_comm]; exact h2, fun i hi hi' => ?_⟩
  have := h3 (i - s) (by omega)
  rw [Nat.testBit_div_two_pow] at this
  rwa [show i - s + s = i by omega] at this
theorem shf_none {x s : Nat} (h : x / 2 ^ s = 0) : ∀ i, s ≤ i → x.testBit i = false := by
  intro i hi
  have : (x / 2 ^ s).testBit (i - s) = false := by rw [h]; simp
  rw [Nat.testBit_div_two_pow] at this
  rwa [show i - s + s = i by omega] at this

theorem wd_shf_some {B j : Nat} (h : wd B (j / 64) / 2 ^ (j % 64) ≠ 0) :
    Lib.ctz 64 (wd B (j / 64) / 2 ^ (j % 64)) < 64 ∧ B.testBit (j + Lib.ctz 64 (wd B (j / 64) / 2 ^ (j % 64))) = true ∧ ∀ i, j ≤ i → i < j + Lib.ctz 64 (wd B (j / 64) / 2 ^ (j % 64)) → B.testBit i = false := by
  have hs : j % 64 < 64 := Nat.mod_lt _ (by decide)
  obtain ⟨h1, h2, h3, h4⟩ := shf_some (wd_lt B (j / 64)) hs h
  generalize Lib.ctz 64 (wd B (j / 64) / 2 ^ (j % 64)) = c at *
  refine ⟨h1, ?_, fun i hi hi' => ?_⟩
  · rw [bit_of_wd, show (j + c) / 64 = j / 64 by omega, show (j + c) % 64 = j % 64 + c by omega]; exact h3
  · rw [bit_of_wd, show i / 64 = j / 64 by omega]; exact h4 (i % 64) (by omega) (by omega)
theorem wd_shf_none {B j : Nat} (h : wd B (j / 64) / 2 ^ (j % 64) = 0) : ∀ i, j ≤ i → i < (j / 64 + 1) * 64 → B.testBit i = false := by
  intro i hi hi'
  rw [bit_of_wd, show i / 64 = j / 64 by omega]
  exact shf_none h (i % 64) (by omega)

theorem ret_int {k : IntKind} {a b : Int} (h : a = b) : Ending.returned (.int k a) = .returned (.int k b) := by rw [h]

end Go.Proofs.Ytepgiomgkgfioaa.B
