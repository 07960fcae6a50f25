import Derived.Test.YtbkcenpohcjgnabDoorCrcMath
namespace Go.Proofs.YtbkcenpohcjgnabDoor
set_option linter.unusedVariables false
namespace Num
/-- how many of the lowest k bits are 1 -/
def bitsUp (b : Nat) : Nat → Nat
  | 0 => 0
  | k + 1 => bitsUp b k + b / 2 ^ k % 2
def onesL : List Nat → Nat
  | [] => 0
  | b :: l => bitsUp b 8 + onesL l
theorem onesL_append (l m : List Nat) : onesL (l ++ m) = onesL l + onesL m := by
  induction l with
  | nil => simp [onesL]
  | cons b l ih => rw [List.cons_append, onesL, onesL, ih]; omega
theorem bitsUp_le (b k : Nat) : bitsUp b k ≤ k := by
  induction k with
  | zero => exact Nat.le_refl _
  | succ k ih => rw [bitsUp]; omega
theorem onesL_le (l : List Nat) : onesL l ≤ 8 * l.length := by
  induction l with
  | nil => exact Nat.le_refl _
  | cons b l ih => have := bitsUp_le b 8; rw [onesL, List.length_cons]; omega
theorem par_byte : ∀ b, b < 256 → par 8 b = bitsUp b 8 % 2 := by decide +kernel
theorem par_cat (k b V : Nat) (hb : b < 256) : par (k + 8) (b ^^^ 256 * V) = (bitsUp b 8 + par k V) % 2 := by
  have e : par (k + 8) (256 * V) = par k V := by
    rw [show 256 * V = 2 * (2 * (2 * (2 * (2 * (2 * (2 * (2 * V))))))) by omega]
    rw [show k + 8 = (k + 7) + 1 by omega, par_two, par_two, par_two, par_two, par_two, par_two, par_two, par_two]
  rw [par_xor, e, par_ge (k := 8) (j := k + 8) (x := b) hb (by omega), par_byte b hb]
  omega
theorem par_leV (l : List Nat) (h : ∀ b ∈ l, b < 256) : par (8 * l.length) (leV l) = onesL l % 2 := by
  induction l with
  | nil => rfl
  | cons b l ih =>
    have := ih (fun c hc => h c (by simp [hc]))
    rw [leV, List.length_cons, show 8 * (l.length + 1) = 8 * l.length + 8 by omega, par_cat _ _ _ (h b (by simp)), this, onesL]
    omega
theorem leV_lt (l : List Nat) (h : ∀ b ∈ l, b < 256) : leV l < 2 ^ (8 * l.length) := by
  induction l with
  | nil => decide
  | cons b l ih =>
    have h1 := ih (fun c hc => h c (by simp [hc]))
    have h2 := h b (by simp)
    rw [leV, List.length_cons, show 8 * (l.length + 1) = 8 * l.length + 8 by omega]
    refine Nat.xor_lt_two_pow (Nat.lt_of_lt_of_le h2 ?_) ?_
    · exact Nat.pow_le_pow_right (n := 2) (i := 8) (by omega) (by omega)
    · rw [Nat.pow_add]; omega
/-- an odd number of turned bits: the CRC is another -/
theorem odd_tells {l m : List Nat} (hl : l.length = m.length) (h1 : ∀ b ∈ l, b < 256) (h2 : ∀ b ∈ m, b < 256) (h : onesL (xorL l m) % 2 = 1) : crcM 0 l ≠ crcM 0 m := by
  intro he
  have h0 := crcM_same hl he
  have hx : ∀ b ∈ xorL l m, b < 256 := by
    intro b hb
    obtain ⟨i, hi, rfl⟩ := List.getElem_of_mem hb
    simp only [xorL, List.length_zipWith] at hi
    simp only [xorL, List.getElem_zipWith]
    exact Nat.xor_lt_two_pow (n := 8) (h1 _ (List.getElem_mem (by omega))) (h2 _ (List.getElem_mem (by omega)))
  rw [crcL_leV, Nat.zero_xor] at h0
  have hb := leV_lt _ hx
  have hp := par_leV _ hx
  generalize xorL l m = d at *
  have hb2 : leV d < 2 ^ (8 * d.length + 32 + 1) := Nat.lt_of_lt_of_le hb (Nat.pow_le_pow_right (by omega) (by omega))
  have h3 := crcN_par (8 * d.length) (show 32 ≤ 8 * d.length + 32 by omega) hb2
  rw [h0, par_ge hb (by omega), hp] at h3
  have h4 : ∀ k, par k 0 = 0 := by
    intro k; induction k with
    | zero => rfl
    | succ k ih => rw [par, Nat.zero_div, ih]
  rw [h4] at h3
  omega
end Num
end Go.Proofs.YtbkcenpohcjgnabDoor
