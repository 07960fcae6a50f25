import Derived.Lib.TrailingZeros
import Derived.Lib.BitFns
namespace Go.Proofs.YtnjlbkbhlcccmaaDoor
set_option linter.unusedVariables false

/-- word k of the bits B -/
def wd (B k : Nat) : Nat := B / 2 ^ (64 * k) % 18446744073709551616

theorem wd_lt (B k : Nat) : wd B k < 18446744073709551616 := Nat.mod_lt _ (by decide)
theorem testBit_wd (B k j : Nat) : (wd B k).testBit j = (decide (j < 64) && B.testBit (64 * k + j)) := by
  show (B / 2 ^ (64 * k) % 2 ^ 64).testBit j = _
  rw [Nat.testBit_mod_two_pow, Nat.testBit_div_two_pow, Nat.add_comm]
theorem testBit_hi {x i : Nat} (h : x < 18446744073709551616) (hi : 64 ≤ i) : x.testBit i = false :=
  Nat.testBit_lt_two_pow (Nat.lt_of_lt_of_le h (Nat.pow_le_pow_right (by decide) hi : 2 ^ 64 ≤ 2 ^ i))
theorem bit_of_wd (B i : Nat) : B.testBit i = (wd B (i / 64)).testBit (i % 64) := by
  rw [testBit_wd]
  have h : i % 64 < 64 := Nat.mod_lt _ (by decide)
  have : 64 * (i / 64) + i % 64 = i := Nat.div_add_mod i 64
  simp [h, this]
theorem wd_ext {A B m : Nat} (h : ∀ k, k < m → wd A k = wd B k) (hA : A < 2 ^ (64 * m)) (hB : B < 2 ^ (64 * m)) : A = B := by
  apply Nat.eq_of_testBit_eq
  intro i
  by_cases hi : i / 64 < m
  · rw [bit_of_wd, bit_of_wd B, h _ hi]
  · have : 64 * m ≤ i := by omega
    rw [Nat.testBit_lt_two_pow (Nat.lt_of_lt_of_le hA (Nat.pow_le_pow_right (by decide) this)), Nat.testBit_lt_two_pow (Nat.lt_of_lt_of_le hB (Nat.pow_le_pow_right (by decide) this))]
theorem wd_eq {x B k : Nat} (hx : x < 18446744073709551616) (h : ∀ j, j < 64 → x.testBit j = B.testBit (64 * k + j)) : x = wd B k := by
  apply Nat.eq_of_testBit_eq
  intro j
  rw [testBit_wd]
  by_cases hj : j < 64
  · simp [hj, h j hj]
  · rw [testBit_hi hx (by omega : 64 ≤ j)]; simp [hj]
theorem wd_zero {k : Nat} : wd 0 k = 0 := by simp [wd]
theorem wd_eq_zero {B k : Nat} : wd B k = 0 ↔ ∀ j, j < 64 → B.testBit (64 * k + j) = false := by
  constructor
  · intro h j hj
    have := testBit_wd B k j
    rw [h] at this
    simpa [hj] using this.symm
  · intro h
    exact (wd_eq (by decide) (fun j hj => by simp [h j hj])).symm

/-- which of the first m words are not zero -/
def up (B : Nat) : Nat → Nat
  | 0 => 0
  | m + 1 => if wd B m = 0 then up B m else up B m + 2 ^ m
theorem up_lt (B : Nat) : ∀ m, up B m < 2 ^ m
  | 0 => by simp [up]
  | m + 1 => by
    have := up_lt B m
    rw [up]
    split <;> rw [Nat.pow_succ] <;> omega
theorem testBit_up (B : Nat) : ∀ m k, (up B m).testBit k = (decide (k < m) && decide (wd B k ≠ 0))
  | 0, k => by simp [up]
  | m + 1, k => by
    have hl := up_lt B m
    have ih := testBit_up B m k
    rw [up]
    split
    · rename_i h
      rw [ih]
      by_cases hk : k = m
      · subst hk; simp [h]
      · have : (k < m + 1) = (k < m) := by rw [eq_iff_iff]; omega
        simp only [this]
    · rename_i h
      rcases Nat.lt_trichotomy k m with hk | hk | hk
      · rw [Nat.add_comm, Nat.testBit_two_pow_add_gt hk, ih]
        have : k < m + 1 := by omega
        simp [hk, this]
      · subst hk
        rw [Nat.add_comm, Nat.testBit_two_pow_add_eq, Nat.testBit_lt_two_pow hl]
        simp [h]
      · have : up B m + 2 ^ m < 2 ^ k := Nat.lt_of_lt_of_le (by rw [Nat.pow_succ]; omega : up B m + 2 ^ m < 2 ^ (m + 1)) (Nat.pow_le_pow_right (by decide) hk)
        rw [Nat.testBit_lt_two_pow this]
        have : ¬ k < m + 1 := by omega
        simp [this]

/-- how many of f 0 .. f (n - 1) -/
def cnt (f : Nat → Bool) : Nat → Nat
  | 0 => 0
  | n + 1 => cnt f n + (f n).toNat
theorem cnt_congr {f g : Nat → Bool} : ∀ n, (∀ i, i < n → f i = g i) → cnt f n = cnt g n
  | 0, _ => rfl
  | n + 1, h => by simp only [cnt]; rw [cnt_congr n (fun i hi => h i (by omega)), h n (by omega)]
theorem cnt_add (f : Nat → Bool) (a : Nat) : ∀ b, cnt f (a + b) = cnt f a + cnt (fun j => f (a + j)) b
  | 0 => rfl
  | b + 1 => by rw [← Nat.add_assoc]; simp only [cnt]; rw [cnt_add f a b]; omega
theorem cnt_le (f : Nat → Bool) : ∀ n, cnt f n ≤ n
  | 0 => Nat.le_refl _
  | n + 1 => by simp only [cnt]; have := cnt_le f n; cases f n <;> simp <;> omega
theorem cnt_zero {f : Nat → Bool} : ∀ n, (∀ i, i < n → f i = false) → cnt f n = 0
  | 0, _ => rfl
  | n + 1, h => by simp only [cnt]; rw [cnt_zero n (fun i hi => h i (by omega)), h n (by omega)]; rfl
theorem cnt_full {f : Nat → Bool} : ∀ n, (∀ i, i < n → f i = true) → cnt f n = n
  | 0, _ => rfl
  | n + 1, h => by simp only [cnt]; rw [cnt_full n (fun i hi => h i (by omega)), h n (by omega)]; rfl
theorem cnt_not (f : Nat → Bool) : ∀ n, cnt (fun i => !f i) n + cnt f n = n
  | 0 => rfl
  | n + 1 => by have := cnt_not f n; simp only [cnt]; cases f n <;> simp <;> omega
theorem cnt_eq_zero {f : Nat → Bool} : ∀ n, cnt f n = 0 → ∀ i, i < n → f i = false
  | 0, _, i, hi => by omega
  | n + 1, h, i, hi => by
    simp only [cnt] at h
    by_cases e : i = n
    · subst e; cases hf : f i <;> simp_all
    · exact cnt_eq_zero n (by omega) i (by omega)
theorem cnt_eq_full {f : Nat → Bool} : ∀ n, cnt f n = n → ∀ i, i < n → f i = true
  | 0, _, i, hi => by omega
  | n + 1, h, i, hi => by
    simp only [cnt] at h
    have hl := cnt_le f n
    by_cases e : i = n
    · subst e; cases hf : f i <;> simp_all; omega
    · exact cnt_eq_full n (by cases hf : f n <;> simp_all <;> omega) i (by omega)
/-- only the places from a to a + c count -/
theorem cnt_window {f g : Nat → Bool} {a c n : Nat} (h : a + c ≤ n) (hin : ∀ j, j < c → f (a + j) = g j) (hout : ∀ i, i < n → (i < a ∨ a + c ≤ i) → f i = false) : cnt f n = cnt g c := by
  obtain ⟨d, rfl⟩ : ∃ d, n = a + c + d := ⟨n - (a + c), by omega⟩
  rw [cnt_add, cnt_add, cnt_zero a (fun i hi => hout i (by omega) (.inl hi)), cnt_zero d (fun j hj => hout _ (by omega) (.inr (by omega))), cnt_congr c hin]
  omega

/-- the bits from a up to b -/
def msk (a b : Nat) : Nat := (2 ^ (b - a) - 1) * 2 ^ a
theorem testBit_msk (a b i : Nat) : (msk a b).testBit i = (decide (a ≤ i) && decide (i < b)) := by
  unfold msk
  rw [Nat.testBit_mul_two_pow, Nat.testBit_two_pow_sub_one]
  by_cases h : a ≤ i
  · have : (i - a < b - a) ↔ i < b := by omega
    simp [h, this]
  · simp [h]
theorem msk_lt (a b : Nat) : msk a b < 2 ^ b := by
  apply Nat.lt_pow_two_of_testBit
  intro i hi
  rw [testBit_msk]
  have : ¬ i < b := by omega
  simp [this]
def setR (B a b : Nat) : Nat := B ||| msk a b
def clrR (B a b : Nat) : Nat := B ^^^ (B &&& msk a b)
theorem testBit_setR (B a b i : Nat) : (setR B a b).testBit i = (B.testBit i || (decide (a ≤ i) && decide (i < b))) := by
  unfold setR; rw [Nat.testBit_or, testBit_msk]
theorem testBit_clrR (B a b i : Nat) : (clrR B a b).testBit i = (B.testBit i && !(decide (a ≤ i) && decide (i < b))) := by
  unfold clrR; rw [Nat.testBit_xor, Nat.testBit_and, testBit_msk]; cases B.testBit i <;> simp
theorem lt_of_bits {B n : Nat} (h : ∀ i, n ≤ i → B.testBit i = false) : B < 2 ^ n := Nat.lt_pow_two_of_testBit _ h
theorem bit_ge {B n i : Nat} (h : B < 2 ^ n) (hi : n ≤ i) : B.testBit i = false := Nat.testBit_lt_two_pow (Nat.lt_of_lt_of_le h (Nat.pow_le_pow_right (by decide) hi))
theorem setR_lt {B a b n : Nat} (h : B < 2 ^ n) (hb : b ≤ n) : setR B a b < 2 ^ n := lt_of_bits fun i hi => by
  rw [testBit_setR, bit_ge h hi]
  have : ¬ i < b := by omega
  simp [this]
theorem clrR_lt {B a b n : Nat} (h : B < 2 ^ n) : clrR B a b < 2 ^ n := lt_of_bits fun i hi => by
  rw [testBit_clrR, bit_ge h hi]; simp
theorem or_lt {A B n : Nat} (hA : A < 2 ^ n) (hB : B < 2 ^ n) : A ||| B < 2 ^ n := Nat.or_lt_two_pow hA hB
theorem setR_setR (B a b c : Nat) (h1 : a ≤ b) (h2 : b ≤ c) : setR (setR B a b) b c = setR B a c := by
  apply Nat.eq_of_testBit_eq
  intro i
  simp only [testBit_setR]
  rcases Nat.lt_or_ge i a with h | h
  · have e1 : ¬ a ≤ i := by omega
    have e2 : ¬ b ≤ i := by omega
    simp [e1, e2]
  · rcases Nat.lt_or_ge i b with h' | h'
    · have e2 : i < c := by omega
      simp [h, h', e2]
    · have e1 : ¬ i < b := by omega
      simp [h, h', e1]
theorem clrR_clrR (B a b c : Nat) (h1 : a ≤ b) (h2 : b ≤ c) : clrR (clrR B a b) b c = clrR B a c := by
  apply Nat.eq_of_testBit_eq
  intro i
  simp only [testBit_clrR]
  rcases Nat.lt_or_ge i a with h | h
  · have e1 : ¬ a ≤ i := by omega
    have e2 : ¬ b ≤ i := by omega
    simp [e1, e2]
  · rcases Nat.lt_or_ge i b with h' | h'
    · have e2 : i < c := by omega
      simp [h, h', e2]
    · have e1 : ¬ i < b := by omega
      simp [h, h', e1]
theorem setR_none (B a : Nat) : setR B a a = B := by unfold setR msk; simp
theorem clrR_none (B a : Nat) : clrR B a a = B := by unfold clrR msk; simp

/-- the least place from 'from' on, of k places, where f holds -/
def fnd (f : Nat → Bool) : Nat → Nat → Option Nat
  | _, 0 => none
  | a, k + 1 => if f a then some a else fnd f (a + 1) k
theorem fnd_some {f : Nat → Bool} : ∀ k a i, a ≤ i → i < a + k → f i = true → (∀ j, a ≤ j → j < i → f j = false) → fnd f a k = some i
  | 0, a, i, h1, h2, _, _ => by omega
  | k + 1, a, i, h1, h2, h3, h4 => by
    simp only [fnd]
    by_cases e : a = i
    · subst e; simp [h3]
    · rw [h4 a (Nat.le_refl _) (by omega)]
      exact fnd_some k (a + 1) i (by omega) (by omega) h3 (fun j hj hj' => h4 j (by omega) hj')
theorem fnd_none {f : Nat → Bool} : ∀ k a, (∀ j, a ≤ j → j < a + k → f j = false) → fnd f a k = none
  | 0, _, _ => rfl
  | k + 1, a, h => by
    simp only [fnd]
    rw [h a (Nat.le_refl _) (by omega)]
    exact fnd_none k (a + 1) (fun j hj hj' => h j (by omega) (by omega))
theorem fnd_is {f : Nat → Bool} : ∀ k a i, fnd f a k = some i → a ≤ i ∧ i < a + k ∧ f i = true ∧ ∀ j, a ≤ j → j < i → f j = false
  | 0, a, i, h => by simp [fnd] at h
  | k + 1, a, i, h => by
    simp only [fnd] at h
    by_cases e : f a = true
    · rw [if_pos e] at h
      cases h
      exact ⟨Nat.le_refl _, by omega, e, fun j h1 h2 => by omega⟩
    · rw [if_neg e] at h
      obtain ⟨h1, h2, h3, h4⟩ := fnd_is k (a + 1) i h
      exact ⟨by omega, by omega, h3, fun j hj hj' => by
        by_cases ej : j = a
        · subst ej; simpa using e
        · exact h4 j (by omega) hj'⟩
theorem fnd_isNone {f : Nat → Bool} : ∀ k a, fnd f a k = none → ∀ j, a ≤ j → j < a + k → f j = false
  | 0, a, _, j, h1, h2 => by omega
  | k + 1, a, h, j, h1, h2 => by
    simp only [fnd] at h
    by_cases e : f a = true
    · rw [if_pos e] at h; cases h
    · rw [if_neg e] at h
      by_cases ej : j = a
      · subst ej; simpa using e
      · exact fnd_isNone k (a + 1) h j (by omega) (by omega)
/-- -1 for none -/
def orN : Option Nat → Int
  | none => -1
  | some i => (i : Int)
/-- the first set bit from a on -/
def nx (B n a : Nat) : Option Nat := fnd B.testBit a (n - a)
/-- the first clear one -/
def nc (B n a : Nat) : Option Nat := fnd (fun i => !B.testBit i) a (n - a)

/-- trailing zeros -/
theorem ctz_spec {x : Nat} (h0 : x ≠ 0) (h : x < 18446744073709551616) : Lib.ctz 64 x < 64 ∧ x.testBit (Lib.ctz 64 x) = true ∧ ∀ j, j < Lib.ctz 64 x → x.testBit j = false := by
  obtain ⟨m, hm, hk⟩ := Lib.ctzFrom_spec 64 x (by omega) h
  have e : Lib.ctz 64 x = Lib.ctzFrom 64 x := by simp [Lib.ctz, h0]
  rw [e]
  generalize Lib.ctzFrom 64 x = c at hm hk
  refine ⟨hk, ?_, fun j hj => ?_⟩
  · rw [hm, Nat.mul_comm, Nat.testBit_mul_two_pow]; simp [Nat.testBit_zero]
  · rw [hm, Nat.mul_comm, Nat.testBit_mul_two_pow]; have : ¬ c ≤ j := by omega
    simp [this]
end Go.Proofs.YtnjlbkbhlcccmaaDoor
