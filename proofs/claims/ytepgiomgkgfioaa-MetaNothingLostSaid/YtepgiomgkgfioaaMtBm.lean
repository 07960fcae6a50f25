import Derived.Test.YtepgiomgkgfioaaMtUp
namespace Go.Proofs.Ytepgiomgkgfioaa
open Go.RowKit
open Num
set_option linter.unusedVariables false
set_option linter.unusedSimpArgs false
set_option maxRecDepth 20000

/-- how many bits the last word has -/
def lr (n : Nat) : Nat := 64 - lmS n
theorem lr_le (n : Nat) : 1 ≤ lr n ∧ lr n ≤ 64 := by unfold lr lmS; omega
theorem lm_eq (n : Nat) : lm n = 2 ^ lr n - 1 := by
  unfold lm
  have h := lr_le n
  have e : 64 = lr n + lmS n := by unfold lr lmS; omega
  have e2 : (18446744073709551615 : Nat) = 2 ^ (lr n + lmS n) - 1 := by rw [← e]
  rw [e2, Nat.pow_add]
  have hp : 0 < 2 ^ lmS n := Nat.pow_pos (by decide)
  have hq : 0 < 2 ^ lr n := Nat.pow_pos (by decide)
  generalize 2 ^ lmS n = P at *
  generalize 2 ^ lr n = Q at *
  obtain ⟨Q', rfl⟩ : ∃ Q', Q = Q' + 1 := ⟨Q - 1, by omega⟩
  rw [Nat.add_sub_cancel, Nat.add_mul, Nat.one_mul, show Q' * P + P - 1 = (P - 1) + Q' * P by omega, Nat.add_mul_div_right _ _ hp, Nat.div_eq_of_lt (by omega), Nat.zero_add]
theorem lm_lt (n : Nat) : lm n < 18446744073709551616 := by
  unfold lm
  have := Nat.div_le_self 18446744073709551615 (2 ^ lmS n)
  omega
theorem and_lm {n x : Nat} (hx : x < 2 ^ lr n) : bits .and .u64 (x : Int) (lm n : Nat) = (x : Int) := by
  have h : (2 : Nat) ^ lr n ≤ 2 ^ 64 := Nat.pow_le_pow_right (by decide) (lr_le n).2
  have e := bits_and_u64_nat x (lm n) (by omega) (lm_lt n)
  rw [e, lm_eq, Nat.and_two_pow_sub_one_eq_mod, Nat.mod_eq_of_lt hx]
theorem andNot_lm {n x : Nat} (hx : x < 2 ^ lr n) : (bits .andNot .u64 (x : Int) (lm n : Nat) != 0) = false := by
  have h : (2 : Nat) ^ lr n ≤ 2 ^ 64 := Nat.pow_le_pow_right (by decide) (lr_le n).2
  have hc : 18446744073709551615 - (2 ^ lr n - 1) = (2 ^ lmS n - 1) * 2 ^ lr n := by
    have e : 64 = lmS n + lr n := by unfold lr lmS; omega
    have e2 : (18446744073709551615 : Nat) = 2 ^ (lmS n + lr n) - 1 := by rw [← e]
    have hp : 0 < 2 ^ lmS n := Nat.pow_pos (by decide)
    have hq : 0 < 2 ^ lr n := Nat.pow_pos (by decide)
    rw [e2, Nat.pow_add, Nat.sub_mul, Nat.one_mul]
    have := Nat.le_mul_of_pos_left (2 ^ lr n) hp
    omega
  have this : bits .andNot .u64 (x : Int) (lm n : Nat) = 0 := by
    rw [u64_andNot_nat x (lm n) (by omega) (lm_lt n), lm_eq, hc]
    have : x &&& (2 ^ lmS n - 1) * 2 ^ lr n = 0 := by
      apply Nat.eq_of_testBit_eq
      intro i
      rw [Nat.testBit_and, Nat.testBit_mul_two_pow, Nat.zero_testBit]
      by_cases hlt : lr n ≤ i
      · have : x.testBit i = false := Nat.testBit_lt_two_pow (Nat.lt_of_lt_of_le hx (Nat.pow_le_pow_right (by decide) hlt))
        simp [this]
      · simp [hlt]
    rw [this]
    rfl
  rw [this]
  rfl
/-- a bitmap's words: what lies in the blocks comes back -/
theorem lev_bk {ws : List Nat} {s i K A : Nat} (hi : i < ws.length) (hA : A + 8 ≤ s) (hKA : K * s + A = i * 8) (hx : ws.getD i 0 < 18446744073709551616) : lev ((bkT ws s (ws.length * 8) K).drop A) 8 = ws.getD i 0 := by
  rw [lev_word (ws.getD i 0) _ 8 (fun k hk => ?_)]
  · exact Nat.mod_eq_of_lt hx
  · rw [List.getD_eq_getElem?_getD, List.getElem?_drop]
    have hl : A + k < (bkT ws s (ws.length * 8) K).length := by rw [bkT_len]; omega
    rw [List.getElem?_eq_getElem hl]
    simp only [bkT, List.getElem_map, List.getElem_range, Option.getD_some]
    rw [if_pos (by omega), pb, show (K * s + (A + k)) / 8 = i by omega, show (K * s + (A + k)) % 8 = k by omega]
theorem pb_lt (ws : List Nat) (j : Nat) : pb ws j < 256 := Nat.mod_lt _ (by decide)
theorem bkT_lt (ws : List Nat) (s t k : Nat) : ∀ x ∈ bkT ws s t k, x < 256 := fun x hx => by
  obtain ⟨r, -, rfl⟩ := List.mem_map.1 hx
  split
  · exact pb_lt _ _
  · decide
end Go.Proofs.Ytepgiomgkgfioaa
