import Derived.Test.YtkjaaknlhmneoacDoorNum
namespace Go.Proofs.YtkjaaknlhmneoacDoor
set_option linter.unusedSimpArgs false
namespace Num
/-! The CRC as a linear map; whole texts as one number, the lowest bit first. -/
theorem crc1_xor (x y : Nat) : crc1 (x ^^^ y) = crc1 x ^^^ crc1 y := by
  unfold crc1
  have h := @Nat.xor_mod_two_eq_one x y
  rw [Nat.xor_div_two]
  by_cases hx : x % 2 = 1 <;> by_cases hy : y % 2 = 1
  · have h1 : ¬ (x ^^^ y) % 2 = 1 := by rw [h]; simp [hx, hy]
    rw [if_neg h1, if_pos hx, if_pos hy, Nat.xor_assoc, Nat.xor_comm (y / 2) 2197175160, ← Nat.xor_assoc 2197175160, Nat.xor_self, Nat.zero_xor]
  · have h1 : (x ^^^ y) % 2 = 1 := by rw [h]; simp [hx, hy]
    rw [if_pos h1, if_pos hx, if_neg hy, Nat.xor_assoc, Nat.xor_comm (y / 2), ← Nat.xor_assoc]
  · have h1 : (x ^^^ y) % 2 = 1 := by rw [h]; simp [hx, hy]
    rw [if_pos h1, if_neg hx, if_pos hy, Nat.xor_assoc]
  · have h1 : ¬ (x ^^^ y) % 2 = 1 := by rw [h]; simp [hx, hy]
    rw [if_neg h1, if_neg hx, if_neg hy]
theorem crcN_xor (k x y : Nat) : crcN k (x ^^^ y) = crcN k x ^^^ crcN k y := by
  induction k with
  | zero => rfl
  | succ k ih => rw [crcN, ih, crc1_xor]; rfl
theorem crcN_add (j k x : Nat) : crcN (j + k) x = crcN k (crcN j x) := by
  induction k with
  | zero => rfl
  | succ k ih => rw [← Nat.add_assoc, crcN, ih]; rfl
theorem crc1_two (y : Nat) : crc1 (2 * y) = y := by
  unfold crc1; rw [if_neg (by omega)]; omega
theorem crcN_pow (k y : Nat) : crcN k (2 ^ k * y) = y := by
  induction k generalizing y with
  | zero => simp [crcN]
  | succ k ih =>
    rw [crcN, show 2 ^ (k + 1) * y = 2 ^ k * (2 * y) by rw [Nat.pow_succ, Nat.mul_assoc], ih, crc1_two]
theorem crc1_ne {x : Nat} (hx : x < 4294967296) (h : x ≠ 0) : crc1 x ≠ 0 := by
  unfold crc1
  split
  · intro h0
    have e : (2197175160 : Nat) = x / 2 := by
      have : (x / 2) ^^^ ((x / 2) ^^^ 2197175160) = 2197175160 := by rw [← Nat.xor_assoc, Nat.xor_self, Nat.zero_xor]
      rw [h0, Nat.xor_zero] at this
      exact this.symm
    omega
  · omega
theorem crcN_ne (k : Nat) {x : Nat} (hx : x < 4294967296) (h : x ≠ 0) : crcN k x ≠ 0 := by
  induction k with
  | zero => exact h
  | succ k ih => exact crc1_ne (crcN_lt k hx) ih

/-- a text as one number -/
def leV : List Nat → Nat
  | [] => 0
  | b :: l => b ^^^ (256 * leV l)
theorem crcL_leV (d : List Nat) : ∀ x, crcL x d = crcN (8 * d.length) (x ^^^ leV d) := by
  induction d with
  | nil => intro x; simp [crcL, leV, crcN]
  | cons b d ih =>
    intro x
    have e : crcL x (b :: d) = crcL (crcN 8 (x ^^^ b)) d := rfl
    rw [e, ih, show 8 * (b :: d).length = 8 + 8 * d.length by simp; omega, crcN_add, leV, ← Nat.xor_assoc, crcN_xor 8 (x ^^^ b) (256 * leV d), show 256 * leV d = 2 ^ 8 * leV d by rfl, crcN_pow]
def xorL (l m : List Nat) : List Nat := List.zipWith (fun a b => a ^^^ b) l m
theorem xorL_len {l m : List Nat} (h : l.length = m.length) : (xorL l m).length = l.length := by simp [xorL, h]
theorem crcL_xor (l : List Nat) : ∀ (m : List Nat) (x y : Nat), l.length = m.length → crcL (x ^^^ y) (xorL l m) = crcL x l ^^^ crcL y m := by
  induction l with
  | nil => intro m x y h; obtain rfl := List.length_eq_zero_iff.1 h.symm; rfl
  | cons a l ih =>
    intro m x y h
    cases m with
    | nil => simp at h
    | cons b m =>
      have e : crcL (x ^^^ y) (xorL (a :: l) (b :: m)) = crcL (crcN 8 ((x ^^^ y) ^^^ (a ^^^ b))) (xorL l m) := rfl
      have e2 : (x ^^^ y) ^^^ (a ^^^ b) = (x ^^^ a) ^^^ (y ^^^ b) := by
        rw [Nat.xor_assoc, Nat.xor_assoc, ← Nat.xor_assoc y, Nat.xor_comm y a, Nat.xor_assoc a]
      rw [e, e2, crcN_xor, ih m _ _ (by simpa using h)]
      rfl
theorem xor_zero_eq {a b : Nat} (h : a ^^^ b = 0) : a = b := by
  have : a ^^^ (a ^^^ b) = b := by rw [← Nat.xor_assoc, Nat.xor_self, Nat.zero_xor]
  rw [h, Nat.xor_zero] at this; exact this
/-- two texts of one length with one CRC: the text of their difference goes to nothing -/
theorem crcM_same {l m : List Nat} (h : l.length = m.length) (he : crcM 0 l = crcM 0 m) : crcL 0 (xorL l m) = 0 := by
  have h1 : crcL (0 ^^^ 4294967295) l = crcL (0 ^^^ 4294967295) m := by
    have := congrArg (· ^^^ 4294967295) he
    simpa [crcM, Nat.xor_assoc] using this
  have h2 := crcL_xor l m (0 ^^^ 4294967295) (0 ^^^ 4294967295) h
  rw [Nat.xor_self, h1, Nat.xor_self] at h2
  exact h2
theorem leV_xor (l : List Nat) : ∀ m : List Nat, l.length = m.length → leV (xorL l m) = leV l ^^^ leV m := by
  induction l with
  | nil => intro m h; obtain rfl := List.length_eq_zero_iff.1 h.symm; rfl
  | cons a l ih =>
    intro m h
    cases m with
    | nil => simp at h
    | cons b m =>
      have e : leV (xorL (a :: l) (b :: m)) = (a ^^^ b) ^^^ (256 * leV (xorL l m)) := rfl
      have e3 : 256 * (leV l ^^^ leV m) = 256 * leV l ^^^ 256 * leV m := by
        have h256 : ∀ x : Nat, 256 * x = x <<< 8 := fun x => by rw [Nat.shiftLeft_eq, Nat.mul_comm]
        rw [h256, h256, h256, Nat.shiftLeft_xor_distrib]
      rw [e, ih m (by simpa using h), e3, leV, leV, Nat.xor_assoc, Nat.xor_assoc, ← Nat.xor_assoc b, Nat.xor_comm b, Nat.xor_assoc (256 * leV l)]
/-- the CRC of the sum of three texts -/
theorem crcM_three {a b c : List Nat} (h1 : a.length = b.length) (h2 : a.length = c.length) : crcM 0 (xorL (xorL a b) c) = crcM 0 a ^^^ crcM 0 b ^^^ crcM 0 c := by
  have e1 := crcL_xor a b (0 ^^^ 4294967295) (0 ^^^ 4294967295) h1
  have e2 := crcL_xor (xorL a b) c ((0 ^^^ 4294967295) ^^^ (0 ^^^ 4294967295)) (0 ^^^ 4294967295) (by rw [xorL_len h1]; exact h2)
  rw [e1] at e2
  unfold crcM
  rw [show (0 ^^^ 4294967295 : Nat) = ((0 ^^^ 4294967295) ^^^ (0 ^^^ 4294967295)) ^^^ (0 ^^^ 4294967295) by decide, e2]
  simp only [show ((0 ^^^ 4294967295 : Nat) ^^^ (0 ^^^ 4294967295)) ^^^ (0 ^^^ 4294967295) = 4294967295 by decide, show (0 ^^^ 4294967295 : Nat) = 4294967295 by decide]
  generalize crcL 4294967295 a = x
  generalize crcL 4294967295 b = y
  generalize crcL 4294967295 c = z
  apply Nat.eq_of_testBit_eq
  intro i
  simp only [Nat.testBit_xor]
  cases x.testBit i <;> cases y.testBit i <;> cases z.testBit i <;> cases Nat.testBit 4294967295 i <;> rfl

/-! parity -/
def par : Nat → Nat → Nat
  | 0, _ => 0
  | k + 1, x => (x % 2 + par k (x / 2)) % 2
theorem par_lt (k x : Nat) : par k x < 2 := by cases k <;> simp [par]; omega
theorem par_xor (k : Nat) : ∀ x y, par k (x ^^^ y) = (par k x + par k y) % 2 := by
  induction k with
  | zero => intro x y; rfl
  | succ k ih =>
    intro x y
    have h := @Nat.xor_mod_two_eq_one x y
    rw [par, par, par, Nat.xor_div_two, ih]
    by_cases hx : x % 2 = 1 <;> by_cases hy : y % 2 = 1 <;> simp only [hx, hy, true_iff, iff_true, not_true_eq_false, iff_false, not_false_eq_true, iff_self] at h <;> omega
theorem par_more (k : Nat) : ∀ x, x < 2 ^ k → par (k + 1) x = par k x := by
  induction k with
  | zero => intro x h; have : x = 0 := by simpa using h
            subst this; rfl
  | succ k ih =>
    intro x h
    rw [par, ih (x / 2) (by rw [Nat.pow_succ] at h; omega)]; rfl
theorem par_ge {k j x : Nat} (h : x < 2 ^ k) (hj : k ≤ j) : par j x = par k x := by
  obtain ⟨n, rfl⟩ := Nat.exists_eq_add_of_le hj
  clear hj
  induction n with
  | zero => rfl
  | succ n ih => rw [← Nat.add_assoc, par_more _ x (Nat.lt_of_lt_of_le h (Nat.pow_le_pow_right (by omega) (by omega))), ih]
theorem par_two (k y : Nat) : par (k + 1) (2 * y) = par k y := by
  rw [par, show 2 * y % 2 = 0 by omega, show 2 * y / 2 = y by omega, Nat.zero_add, Nat.mod_eq_of_lt (par_lt _ _)]
theorem crc1_par {k x : Nat} (hk : 32 ≤ k) (hx : x < 2 ^ (k + 1)) : par (k + 1) (crc1 x) = par (k + 1) x := by
  have hx2 : x / 2 < 2 ^ k := by rw [Nat.pow_succ] at hx; omega
  unfold crc1
  split
  · rename_i h
    rw [par_xor, par_more k _ hx2, par_ge (k := 32) (j := k + 1) (x := 2197175160) (by decide) (by omega), show par 32 2197175160 = 1 by decide]
    show _ = (x % 2 + par k (x / 2)) % 2
    rw [h, Nat.add_comm]
  · rename_i h
    rw [par_more k _ hx2]
    show _ = (x % 2 + par k (x / 2)) % 2
    rw [show x % 2 = 0 by omega, Nat.zero_add, Nat.mod_eq_of_lt (par_lt _ _)]
theorem crc1_bd {k x : Nat} (hk : 32 ≤ k) (hx : x < 2 ^ k) : crc1 x < 2 ^ k := by
  unfold crc1
  split
  · exact Nat.xor_lt_two_pow (by omega) (Nat.lt_of_lt_of_le (show 2197175160 < 2 ^ 32 by decide) (Nat.pow_le_pow_right (by omega) hk))
  · omega
theorem crcN_bd {k x : Nat} (n : Nat) (hk : 32 ≤ k) (hx : x < 2 ^ k) : crcN n x < 2 ^ k := by
  induction n with
  | zero => exact hx
  | succ n ih => exact crc1_bd hk ih
theorem crcN_par {k x : Nat} (n : Nat) (hk : 32 ≤ k) (hx : x < 2 ^ (k + 1)) : par (k + 1) (crcN n x) = par (k + 1) x := by
  induction n with
  | zero => rfl
  | succ n ih => rw [crcN, crc1_par hk (crcN_bd n (by omega) hx), ih]
end Num
end Go.Proofs.YtkjaaknlhmneoacDoor
