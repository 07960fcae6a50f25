import Derived.Test.YtglajdmkbckjjabDoorBLayL2
namespace Go.Proofs.YtglajdmkbckjjabDoor
open Go.RowKit Go.Shelf
set_option linter.unusedVariables false
set_option linter.unusedSimpArgs false
set_option maxRecDepth 20000

theorem cnt_remove {f g : Nat → Bool} {c : Nat} (hc : f c = true) (hg : ∀ i, g i = (f i && decide (i ≠ c))) : ∀ n, c < n → cnt f n = cnt g n + 1
  | 0, h => by omega
  | n + 1, h => by
    simp only [cnt]
    by_cases e : c = n
    · subst e
      have : cnt f c = cnt g c := cnt_congr c fun i hi => by rw [hg]; have : i ≠ c := by omega
                                                             simp [this]
      rw [this, hc, hg]; simp
    · rw [cnt_remove hc hg n (by omega), hg n]
      have : n ≠ c := by omega
      simp [this]; omega
theorem low_bit {x : Nat} (h0 : x ≠ 0) (hx : x < 18446744073709551616) (i : Nat) : (x &&& (x - 1)).testBit i = (x.testBit i && decide (i ≠ Lib.ctz 64 x)) := by
  obtain ⟨m, hm, hk⟩ := Lib.ctzFrom_spec 64 x (by omega) hx
  have e : Lib.ctz 64 x = Lib.ctzFrom 64 x := by simp [Lib.ctz, h0]
  rw [e]
  generalize Lib.ctzFrom 64 x = c at hm hk
  have hp : 0 < 2 ^ c := Nat.two_pow_pos c
  have e1 : x - 1 = 2 ^ c * (2 * m) + (2 ^ c - 1) := by rw [hm, Nat.mul_add]; omega
  have b1 : ∀ j, (x - 1).testBit j = if j < c then true else (2 * m).testBit (j - c) := fun j => by
    rw [e1, Nat.testBit_two_pow_mul_add _ (by omega), Nat.testBit_two_pow_sub_one]
    by_cases hj : j < c <;> simp [hj]
  have b2 : ∀ j, x.testBit j = if j < c then false else (2 * m + 1).testBit (j - c) := fun j => by
    rw [hm, Nat.mul_comm, Nat.testBit_mul_two_pow]
    by_cases hj : j < c
    · have : ¬ c ≤ j := by omega
      simp [hj, this]
    · have : c ≤ j := by omega
      simp [hj, this]
  rw [Nat.testBit_and, b1, b2]
  by_cases hj : i < c
  · simp [hj]
  · simp only [hj, if_false]
    by_cases ei : i = c
    · subst ei; simp
    · obtain ⟨d, hd⟩ : ∃ d, i - c = d + 1 := ⟨i - c - 1, by omega⟩
      rw [hd, Nat.testBit_succ, Nat.testBit_succ]
      have : (2 * m + 1) / 2 = 2 * m / 2 := by omega
      rw [this]
      simp [ei]
theorem cnt_low {x : Nat} (h0 : x ≠ 0) (hx : x < 18446744073709551616) : cnt x.testBit 64 = cnt (x &&& (x - 1)).testBit 64 + 1 := by
  obtain ⟨h1, h2, h3⟩ := ctz_spec h0 hx
  exact cnt_remove h2 (low_bit h0 hx) 64 h1

/-- the bit that a shift and a mask tell -/
theorem bit_of_shift {B k : Nat} : bits BinOp.and IntKind.u64 (((wd B (k / 64) : Nat) : Int) / 2 ^ (k % 64)) 1 = (((B.testBit k).toNat : Nat) : Int) := by
  have hl : wd B (k / 64) / 2 ^ (k % 64) < 18446744073709551616 := Nat.lt_of_le_of_lt (Nat.div_le_self _ _) (wd_lt _ _)
  have e : ((wd B (k / 64) : Nat) : Int) / 2 ^ (k % 64) = ((wd B (k / 64) / 2 ^ (k % 64) : Nat) : Int) := by rw [Int.natCast_ediv]; simp
  have := u64_and_nat (wd B (k / 64) / 2 ^ (k % 64)) 1 hl (by decide)
  simp only [Int.natCast_one] at this
  rw [e, this, bit_of_wd, Nat.testBit, Nat.and_comm, Nat.shiftRight_eq_div_pow]
  generalize wd B (k / 64) / 2 ^ (k % 64) = y
  rw [Nat.one_and_eq_mod_two]
  rcases Nat.mod_two_eq_zero_or_one y with h | h <;> simp [h]
end Go.Proofs.YtglajdmkbckjjabDoor
