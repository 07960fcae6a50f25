import Derived.Test.YtkjaaknlhmneoacDoorCrcMath
namespace Go.Proofs.YtkjaaknlhmneoacDoor
set_option linter.unusedVariables false
set_option linter.unusedSimpArgs false
namespace Num
theorem mul_pow_xor (n a b : Nat) : 2 ^ n * (a ^^^ b) = 2 ^ n * a ^^^ 2 ^ n * b := by
  have h : ∀ x : Nat, 2 ^ n * x = x <<< n := fun x => by rw [Nat.shiftLeft_eq, Nat.mul_comm]
  rw [h, h, h, Nat.shiftLeft_xor_distrib]
theorem leV_set (l : List Nat) : ∀ (i b : Nat), i < l.length → leV (l.set i (l.getD i 0 ^^^ b)) = leV l ^^^ (2 ^ (8 * i) * b) := by
  induction l with
  | nil => intro i b h; simp at h
  | cons x l ih =>
    intro i b h
    cases i with
    | zero =>
      show leV ((x ^^^ b) :: l) = _
      rw [leV, leV, Nat.mul_zero, Nat.pow_zero, Nat.one_mul, Nat.xor_assoc, Nat.xor_comm b, ← Nat.xor_assoc]
    | succ i =>
      show leV (x :: l.set i (l.getD i 0 ^^^ b)) = _
      have e256 : ∀ y : Nat, 256 * y = 2 ^ 8 * y := fun y => rfl
      have e : 256 * (leV l ^^^ 2 ^ (8 * i) * b) = 256 * leV l ^^^ 2 ^ (8 * (i + 1)) * b := by
        rw [e256, mul_pow_xor, e256, ← Nat.mul_assoc, ← Nat.pow_add, show 8 + 8 * i = 8 * (i + 1) by omega]
      rw [leV, leV, ih i b (by simpa using h), e, Nat.xor_assoc]
/-- whether bit k of the mask is turned -/
def bitOn (len at_ mask k : Nat) : Bool := decide (mask / 2 ^ k % 2 = 1) && decide (at_ + k < 8 * len)
def flL (l : List Nat) (at_ mask : Nat) : Nat → List Nat
  | 0 => l
  | k + 1 => if bitOn l.length at_ mask k then (flL l at_ mask k).set ((at_ + k) / 8) ((flL l at_ mask k).getD ((at_ + k) / 8) 0 ^^^ 2 ^ ((at_ + k) % 8)) else flL l at_ mask k
def flM (len at_ mask : Nat) : Nat → Nat
  | 0 => 0
  | k + 1 => if bitOn len at_ mask k then flM len at_ mask k ^^^ 2 ^ k else flM len at_ mask k
def flC (len at_ mask : Nat) : Nat → Nat
  | 0 => 0
  | k + 1 => if bitOn len at_ mask k then flC len at_ mask k + 1 else flC len at_ mask k
theorem flL_len (l : List Nat) (at_ mask k : Nat) : (flL l at_ mask k).length = l.length := by
  induction k with
  | zero => rfl
  | succ k ih => rw [flL]; split <;> simp [ih]
theorem flL_lt {l : List Nat} (h : ∀ b ∈ l, b < 256) (at_ mask k : Nat) : ∀ b ∈ flL l at_ mask k, b < 256 := by
  induction k with
  | zero => exact h
  | succ k ih =>
    rw [flL]; split
    · intro b hb
      rcases List.mem_or_eq_of_mem_set hb with hb | rfl
      · exact ih b hb
      · refine Nat.xor_lt_two_pow (n := 8) ?_ (Nat.pow_lt_pow_right (by omega) (by omega))
        by_cases hi : (at_ + k) / 8 < (flL l at_ mask k).length
        · have : (flL l at_ mask k).getD ((at_ + k) / 8) 0 = (flL l at_ mask k)[(at_ + k) / 8] := by simp [List.getD, hi]
          rw [this]; exact ih _ (List.getElem_mem hi)
        · have : (flL l at_ mask k).getD ((at_ + k) / 8) 0 = 0 := by simp [List.getD, List.getElem?_eq_none (Nat.le_of_not_lt hi)]
          omega
    · exact ih
theorem flM_lt (len at_ mask k : Nat) : flM len at_ mask k < 2 ^ k := by
  induction k with
  | zero => simp [flM]
  | succ k ih =>
    have h2 : flM len at_ mask k < 2 ^ (k + 1) := by rw [Nat.pow_succ]; omega
    rw [flM]; split
    · exact Nat.xor_lt_two_pow h2 (Nat.pow_lt_pow_right (by omega) (by omega))
    · exact h2
theorem flM_ne (len at_ mask k : Nat) (h : flC len at_ mask k ≠ 0) : flM len at_ mask k ≠ 0 ∧ at_ < 8 * len := by
  induction k with
  | zero => exact absurd rfl h
  | succ k ih =>
    rw [flC] at h
    rw [flM]
    split
    · rename_i hon
      refine ⟨fun h0 => ?_, ?_⟩
      · have := xor_zero_eq h0
        have := flM_lt len at_ mask k
        omega
      · simp only [bitOn, Bool.and_eq_true, decide_eq_true_eq] at hon
        omega
    · rename_i hon
      rw [if_neg hon] at h
      exact ih h
theorem flL_leV (l : List Nat) (at_ mask k : Nat) : leV (flL l at_ mask k) = leV l ^^^ 2 ^ at_ * flM l.length at_ mask k := by
  induction k with
  | zero => simp [flL, flM]
  | succ k ih =>
    rw [flL, flM]
    split
    · rename_i hon
      simp only [bitOn, Bool.and_eq_true, decide_eq_true_eq] at hon
      rw [leV_set _ _ _ (by rw [flL_len]; omega), ih, mul_pow_xor, Nat.xor_assoc, ← Nat.pow_add, ← Nat.pow_add, show 8 * ((at_ + k) / 8) + (at_ + k) % 8 = at_ + k by omega]
    · exact ih
/-- THE USE: if one bit at least was turned, the CRC is another -/
theorem flip_tells {l : List Nat} {at_ mask : Nat} (h : flC l.length at_ mask 32 ≠ 0) : crcM 0 l ≠ crcM 0 (flL l at_ mask 32) := by
  intro he
  obtain ⟨hm, hat⟩ := flM_ne _ _ _ _ h
  have hlen : l.length = (flL l at_ mask 32).length := (flL_len _ _ _ _).symm
  have h0 := crcM_same hlen he
  rw [crcL_leV, leV_xor _ _ hlen, Nat.zero_xor, flL_leV, ← Nat.xor_assoc, Nat.xor_self, Nat.zero_xor, xorL_len hlen, show 8 * l.length = at_ + (8 * l.length - at_) by omega, crcN_add, crcN_pow] at h0
  exact crcN_ne _ (flM_lt _ _ _ 32) hm h0
end Num
end Go.Proofs.YtkjaaknlhmneoacDoor
