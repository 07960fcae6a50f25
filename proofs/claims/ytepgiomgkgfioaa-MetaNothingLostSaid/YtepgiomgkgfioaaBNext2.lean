import Derived.Test.YtepgiomgkgfioaaBNext
namespace Go.Proofs.Ytepgiomgkgfioaa.B
open Go.RowKit
set_option linter.unusedVariables false
set_option linter.unusedSimpArgs false

theorem bit_lt {B n i : Nat} (h : B < 2 ^ n) (hi : B.testBit i = true) : i < n := by
  apply Nat.lt_of_not_le
  intro hn
  rw [bit_ge h hn] at hi
  simp at hi
theorem nx_word {B n j : Nat} (hB : B < 2 ^ n) (h : wd B (j / 64) / 2 ^ (j % 64) ≠ 0) : nx B n j = some (j + Lib.ctz 64 (wd B (j / 64) / 2 ^ (j % 64))) ∧ Lib.ctz 64 (wd B (j / 64) / 2 ^ (j % 64)) < 64 := by
  obtain ⟨h1, h2, h3⟩ := wd_shf_some h
  have := bit_lt hB h2
  exact ⟨fnd_some _ _ _ (by omega) (by omega) h2 h3, h1⟩
theorem nx_none {B n j : Nat} (h : wd B (j / 64) / 2 ^ (j % 64) = 0) (hf : fnd (fun k => decide (wd B k ≠ 0)) (j / 64 + 1) (nW n - (j / 64 + 1)) = none) : nx B n j = none := by
  refine fnd_none _ _ fun i h1 h2 => ?_
  by_cases hi : i < (j / 64 + 1) * 64
  · exact wd_shf_none h i h1 hi
  · have := fnd_isNone _ _ hf (i / 64) (by omega) (by unfold nW; omega)
    rw [bit_of_wd]
    simp only [ne_eq, decide_eq_false_iff_not, Decidable.not_not] at this
    rw [this]; simp
theorem nx_next {B n j k : Nat} (hB : B < 2 ^ n) (h : wd B (j / 64) / 2 ^ (j % 64) = 0) (hf : fnd (fun k => decide (wd B k ≠ 0)) (j / 64 + 1) (nW n - (j / 64 + 1)) = some k) :
    nx B n j = some (k * 64 + Lib.ctz 64 (wd B k)) ∧ wd B k ≠ 0 ∧ k < nW n ∧ Lib.ctz 64 (wd B k) < 64 := by
  obtain ⟨h1, h2, h3, h4⟩ := fnd_is _ _ _ hf
  simp only [ne_eq, decide_eq_true_eq] at h3
  obtain ⟨c1, c2, c3⟩ := ctz_spec h3 (wd_lt B k)
  generalize Lib.ctz 64 (wd B k) = c at *
  rw [testBit_wd] at c2
  simp only [Bool.and_eq_true, decide_eq_true_eq] at c2
  have hl := bit_lt hB c2.2
  refine ⟨fnd_some _ _ _ (by omega) (by omega) (by rw [Nat.mul_comm]; exact c2.2) (fun i hi hi' => ?_), h3, by omega, c1⟩
  by_cases h64 : i < (j / 64 + 1) * 64
  · exact wd_shf_none h i hi h64
  · by_cases hk : i / 64 < k
    · have := h4 (i / 64) (by omega) hk
      simp only [ne_eq, decide_eq_false_iff_not, Decidable.not_not] at this
      rw [bit_of_wd, this]; simp
    · have e : i / 64 = k := by omega
      rw [bit_of_wd, e]
      exact c3 _ (by omega)

end Go.Proofs.Ytepgiomgkgfioaa.B
