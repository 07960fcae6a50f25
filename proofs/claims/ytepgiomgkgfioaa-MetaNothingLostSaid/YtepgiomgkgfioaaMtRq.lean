import Derived.Test.YtepgiomgkgfioaaMtRp
namespace Go.Proofs.Ytepgiomgkgfioaa
open Go.RowKit
open Num
set_option linter.unusedVariables false
set_option linter.unusedSimpArgs false
set_option maxRecDepth 20000

theorem andNot_over {n x : Nat} (h6 : x < 18446744073709551616) (hx : ¬ x < 2 ^ lr n) : (bits .andNot .u64 (x : Int) (lm n : Nat) != 0) = true := by
  have hc : 18446744073709551615 - (2 ^ lr n - 1) = (2 ^ lmS n - 1) * 2 ^ lr n := by
    have e : 64 = lmS n + lr n := by unfold lr lmS; omega
    have e2 : (18446744073709551615 : Nat) = 2 ^ (lmS n + lr n) - 1 := by rw [← e]
    have hp : 0 < 2 ^ lmS n := Nat.pow_pos (by decide)
    have hq : 0 < 2 ^ lr n := Nat.pow_pos (by decide)
    rw [e2, Nat.pow_add, Nat.sub_mul, Nat.one_mul]
    have := Nat.le_mul_of_pos_left (2 ^ lr n) hp
    omega
  obtain ⟨k, hk, hkb⟩ : ∃ k, lr n ≤ k ∧ x.testBit k = true := Classical.byContradiction fun hn => hx (Nat.lt_pow_two_of_testBit _ fun i hi => by
    cases e : x.testBit i with
    | false => rfl
    | true => exact absurd ⟨i, hi, e⟩ hn)
  have hk6 : k < 64 := Classical.byContradiction fun hn => by
    have := Nat.testBit_lt_two_pow (x := x) (i := k) (Nat.lt_of_lt_of_le h6 (show 18446744073709551616 ≤ 2 ^ k from Nat.pow_le_pow_right (n := 2) (i := 64) (by decide) (by omega)))
    rw [this] at hkb
    cases hkb
  rw [u64_andNot_nat x (lm n) h6 (lm_lt n), lm_eq, hc]
  have hne : ¬ x &&& (2 ^ lmS n - 1) * 2 ^ lr n = 0 := fun e => by
    have h := congrArg (fun y => y.testBit k) e
    have hl : k - lr n < lmS n := by unfold lr at *; omega
    simp [Nat.testBit_and, Nat.testBit_mul_two_pow, Nat.testBit_two_pow_sub_one, hkb, hk, hl] at h
  simpa using hne
theorem byte_bit' (x c i : Nat) : (x / 2 ^ (8 * c) % 256).testBit i = (decide (i < 8) && x.testBit (8 * c + i)) := by
  rw [show (256 : Nat) = 2 ^ 8 from rfl, Nat.testBit_mod_two_pow, Nat.testBit_div_two_pow, Nat.add_comm]
/-- a bit of a block of the words -/
theorem bk_bit {ws : List Nat} {s k r b : Nat} (hr : r < s) (hb : b < 8) (hlt : k * s + r < ws.length * 8) : ((bkT ws s (ws.length * 8) k).getD r 0).testBit b = wbit ws (8 * (k * s + r) + b) := by
  unfold bkT wbit
  simp only [List.getD_eq_getElem?_getD, List.getElem?_map, List.getElem?_range hr, Option.map_some, Option.getD_some, if_pos hlt]
  generalize k * s + r = j at *
  unfold pb
  rw [byte_bit']
  · simp only [hb, decide_true, Bool.true_and]
    rw [show (8 * j + b) / 64 = j / 8 by omega, show (8 * j + b) % 64 = 8 * (j % 8) + b by omega, List.getD_eq_getElem?_getD]
/-- the words, if no bit at or above n is set, are below the mask -/
theorem under_bits {n : Nat} {ws : List Nat} (hl : ws.length = (n + 63) / 64) (h1 : 1 ≤ n) (hb : ∀ i, i < ws.length → ws.getD i 0 < 18446744073709551616) (h : ws.getD ((n + 63) / 64 - 1) 0 < 2 ^ lr n) : ∀ j, n ≤ j → j < 64 * ws.length → wbit ws j = false := fun j hj1 hj2 => by
  unfold wbit
  rw [show j / 64 = (n + 63) / 64 - 1 by omega]
  refine Nat.testBit_lt_two_pow (Nat.lt_of_lt_of_le h (Nat.pow_le_pow_right (by decide) ?_))
  unfold lr lmS
  omega
end Go.Proofs.Ytepgiomgkgfioaa
