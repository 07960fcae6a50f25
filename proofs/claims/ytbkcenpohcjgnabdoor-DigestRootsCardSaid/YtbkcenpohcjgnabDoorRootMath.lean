import Derived.Test.YtbkcenpohcjgnabDoorShaMsg
namespace Go.Proofs.YtbkcenpohcjgnabDoor
namespace Num
set_option linter.unusedVariables false
set_option linter.unusedSimpArgs false
/-! numbers as lists of digits to the base 65536, the lowest first -/
def val : List Nat → Nat
  | [] => 0
  | d :: t => d + 65536 * val t
theorem val_split : ∀ (l : List Nat) (i : Nat), val l = val (l.take i) + 65536 ^ i * val (l.drop i)
  | l, 0 => by simp [val]
  | [], i + 1 => by simp [val]
  | d :: t, i + 1 => by
    have ih := val_split t i
    simp only [List.take_succ_cons, List.drop_succ_cons, val]
    rw [ih, Nat.mul_add, Nat.pow_succ]
    have : 65536 * (65536 ^ i * val (t.drop i)) = 65536 ^ i * 65536 * val (t.drop i) := by rw [← Nat.mul_assoc, Nat.mul_comm 65536 (65536 ^ i)]
    omega
theorem val_drop : ∀ (l : List Nat) (i : Nat), val (l.drop i) = l.getD i 0 + 65536 * val (l.drop (i + 1))
  | [], i => by simp [val]
  | d :: t, 0 => by simp [val]
  | d :: t, i + 1 => by
    have ih := val_drop t i
    simpa using ih
theorem val_append : ∀ (a b : List Nat), val (a ++ b) = val a + 65536 ^ a.length * val b
  | [], b => by simp [val]
  | d :: t, b => by
    have ih := val_append t b
    simp only [List.cons_append, val, List.length_cons]
    rw [ih, Nat.mul_add, Nat.pow_succ]
    have : 65536 * (65536 ^ t.length * val b) = 65536 ^ t.length * 65536 * val b := by rw [← Nat.mul_assoc, Nat.mul_comm 65536 (65536 ^ t.length)]
    omega
theorem val_take_succ {l : List Nat} {i : Nat} (h : i < l.length) : val (l.take (i + 1)) = val (l.take i) + l.getD i 0 * 65536 ^ i := by
  have h1 : l.take (i + 1) = l.take i ++ [l.getD i 0] := by
    rw [List.take_succ_eq_append_getElem h]; simp [List.getD, h]
  have h2 : (l.take i).length = i := by simp; omega
  rw [h1, val_append, h2]
  simp [val, Nat.mul_comm]
theorem val_set : ∀ {l : List Nat} {i : Nat} (x : Nat), i < l.length → val (l.set i x) + l.getD i 0 * 65536 ^ i = val l + x * 65536 ^ i
  | [], i, x, h => by simp at h
  | d :: t, 0, x, h => by simp [val]; omega
  | d :: t, i + 1, x, h => by
    have ih := val_set (l := t) (i := i) x (by simpa using h)
    have e1 : ((d :: t).set (i + 1) x) = d :: t.set i x := rfl
    have e2 : (d :: t).getD (i + 1) 0 = t.getD i 0 := by simp
    rw [e1, e2, val, val, Nat.pow_succ]
    have h1 : t.getD i 0 * (65536 ^ i * 65536) = 65536 * (t.getD i 0 * 65536 ^ i) := by rw [← Nat.mul_assoc, Nat.mul_comm]
    have h2 : x * (65536 ^ i * 65536) = 65536 * (x * 65536 ^ i) := by rw [← Nat.mul_assoc, Nat.mul_comm]
    rw [h1, h2]
    omega
theorem val_lt : ∀ {l : List Nat}, (∀ d ∈ l, d < 65536) → val l < 65536 ^ l.length
  | [], _ => by simp [val]
  | d :: t, h => by
    have ih := val_lt (l := t) (fun x hx => h x (List.mem_cons_of_mem _ hx))
    have hd := h d List.mem_cons_self
    simp only [val, List.length_cons, Nat.pow_succ]
    omega
theorem val_zeros : ∀ n : Nat, val (List.replicate n 0) = 0
  | 0 => rfl
  | n + 1 => by simp [List.replicate_succ, val, val_zeros n]

/-- one more digit of b: the inner round -/
theorem times_step {cs a b : List Nat} {i j cy x : Nat} (hi : i + j < cs.length) (hj : j < b.length) (hx : cs.getD (i + j) 0 + a.getD i 0 * b.getD j 0 + cy = x)
    (h : val cs + cy * 65536 ^ (i + j) = val (a.take i) * val b + a.getD i 0 * val (b.take j) * 65536 ^ i) :
    val (cs.set (i + j) (x % 65536)) + x / 65536 * 65536 ^ (i + (j + 1)) = val (a.take i) * val b + a.getD i 0 * val (b.take (j + 1)) * 65536 ^ i := by
  have h1 := val_set (x % 65536) hi
  have h2 := val_take_succ hj
  rw [h2]
  have hp : (65536 : Nat) ^ (i + (j + 1)) = 65536 * 65536 ^ (i + j) := by rw [show i + (j + 1) = (i + j) + 1 by omega, Nat.pow_succ, Nat.mul_comm]
  have hq : (65536 : Nat) ^ (i + j) = 65536 ^ i * 65536 ^ j := Nat.pow_add _ _ _
  have hm : x % 65536 + 65536 * (x / 65536) = x := Nat.mod_add_div x 65536
  have e1 : x / 65536 * 65536 ^ (i + (j + 1)) = 65536 * (x / 65536) * 65536 ^ (i + j) := by
    rw [hp, Nat.mul_comm 65536 (x / 65536), Nat.mul_assoc]
  have e2 : x * 65536 ^ (i + j) = x % 65536 * 65536 ^ (i + j) + 65536 * (x / 65536) * 65536 ^ (i + j) := by rw [← Nat.add_mul, hm]
  have e3 : x * 65536 ^ (i + j) = cs.getD (i + j) 0 * 65536 ^ (i + j) + a.getD i 0 * b.getD j 0 * 65536 ^ (i + j) + cy * 65536 ^ (i + j) := by rw [← hx, Nat.add_mul, Nat.add_mul]
  have e4 : a.getD i 0 * (val (b.take j) + b.getD j 0 * 65536 ^ j) * 65536 ^ i = a.getD i 0 * val (b.take j) * 65536 ^ i + a.getD i 0 * b.getD j 0 * 65536 ^ (i + j) := by
    rw [Nat.mul_add, Nat.add_mul, hq]
    congr 1
    rw [← Nat.mul_assoc, Nat.mul_assoc, Nat.mul_comm (65536 ^ j) (65536 ^ i)]
  rw [e1, e4]
  generalize x % 65536 * 65536 ^ (i + j) = A at *
  generalize 65536 * (x / 65536) * 65536 ^ (i + j) = Bq at *
  generalize cs.getD (i + j) 0 * 65536 ^ (i + j) = C at *
  generalize a.getD i 0 * b.getD j 0 * 65536 ^ (i + j) = D at *
  generalize cy * 65536 ^ (i + j) = E at *
  omega
/-- a row of the product done: the carry laid down -/
theorem times_row {cs a b : List Nat} {i cy : Nat} (ha : i < a.length) (hl : i + b.length < cs.length) (hz : cs.getD (i + b.length) 0 = 0)
    (h : val cs + cy * 65536 ^ (i + b.length) = val (a.take i) * val b + a.getD i 0 * val (b.take b.length) * 65536 ^ i) :
    val (cs.set (i + b.length) (cs.getD (i + b.length) 0 + cy)) = val (a.take (i + 1)) * val b := by
  have h1 := val_set (cs.getD (i + b.length) 0 + cy) hl
  rw [hz] at h1 ⊢
  rw [List.take_of_length_le (Nat.le_refl _)] at h
  rw [val_take_succ ha, Nat.add_mul]
  have e : a.getD i 0 * 65536 ^ i * val b = a.getD i 0 * val b * 65536 ^ i := by rw [Nat.mul_assoc, Nat.mul_comm (65536 ^ i), ← Nat.mul_assoc]
  rw [e, ← h]
  simp only [Nat.zero_mul, Nat.zero_add, Nat.add_zero] at h1 ⊢
  omega
theorem digit_bd {c a b y : Nat} (hc : c < 65536) (ha : a < 65536) (hb : b < 65536) (hy : y < 65536) : c + a * b + y < 4294967296 := by
  have : a * b ≤ 65535 * 65535 := Nat.mul_le_mul (by omega) (by omega)
  omega

/-- the first place from above where the digits part decides -/
theorem val_gt {a b : List Nat} {i : Nat} (ha : ∀ d ∈ a, d < 65536) (hb : ∀ d ∈ b, d < 65536) (hu : val (a.drop (i + 1)) = val (b.drop (i + 1))) (hne : b.getD i 0 < a.getD i 0) : val b < val a := by
  have s1 := val_split a i
  have s2 := val_split b i
  have d1 := val_drop a i
  have d2 := val_drop b i
  have l2 : val (b.take i) < 65536 ^ i := by
    have h := val_lt (l := b.take i) (fun d hd => hb d (List.mem_of_mem_take hd))
    exact Nat.lt_of_lt_of_le h (Nat.pow_le_pow_right (by decide) (by simp; omega))
  have hle : val (b.drop i) + 1 ≤ val (a.drop i) := by omega
  have hm : 65536 ^ i * val (b.drop i) + 65536 ^ i ≤ 65536 ^ i * val (a.drop i) := by
    have := Nat.mul_le_mul_left (65536 ^ i) hle
    rw [Nat.mul_add, Nat.mul_one] at this
    exact this
  omega

/-- the root, bit by bit, from above: n bits left -/
def rootGo (p k : Nat) : Nat → Nat → Nat
  | 0, x => x
  | n + 1, x => rootGo p k n (if (x + 2 ^ n) ^ k ≤ p * 65536 ^ (2 * k) then x + 2 ^ n else x)
def rootN (p k : Nat) : Nat := rootGo p k 40 0 % 4294967296

/-- the primes below p -/
def prL : Nat → List Nat
  | 0 => []
  | p + 1 => if p < 2 then [] else if (prL p).all (fun q => p % q != 0) then prL p ++ [p] else prL p
theorem prL_len : (prL 312).length = 64 := by decide +kernel
theorem prL_len' : (prL 311).length = 63 := by decide +kernel
theorem prL_mono : ∀ {p : Nat}, (prL p).length ≤ (prL (p + 1)).length := by
  intro p
  show _ ≤ (if p < 2 then [] else if (prL p).all (fun q => p % q != 0) then prL p ++ [p] else prL p).length
  by_cases h : p < 2
  · have : p = 0 ∨ p = 1 := by omega
    rcases this with rfl | rfl <;> simp [prL]
  · rw [if_neg h]; split <;> simp
theorem prL_mono' {p q : Nat} (h : p ≤ q) : (prL p).length ≤ (prL q).length := by
  induction h with
  | refl => exact Nat.le_refl _
  | step _ ih => exact Nat.le_trans ih prL_mono
theorem roots3 : (prL 312).map (fun p => rootN p 3) = Ks := by decide +kernel
theorem roots2 : ((prL 312).take 8).map (fun p => rootN p 2) = H0 := by decide +kernel
theorem prL_small : ∀ p ∈ prL 312, p < 65536 := by decide +kernel
end Num
end Go.Proofs.YtbkcenpohcjgnabDoor
