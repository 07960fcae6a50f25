import Derived.Test.YtkjaaknlhmneoaaMtUa
import Derived.Test.YtkjaaknlhmneoaaMtUs
import Derived.Test.YtkjaaknlhmneoaaMtRq
namespace Go.Proofs.Ytkjaaknlhmneoaa
open Go.RowKit
open Num
set_option linter.unusedVariables false
set_option linter.unusedSimpArgs false
set_option maxRecDepth 20000

/-! The document's Unpack, bit by bit: numbers. -/
theorem lev_byte {l : List Nat} (hb : ∀ i, l.getD i 0 < 256) : ∀ k i, i < k → lev l k / 2 ^ (8 * i) % 256 = l.getD i 0
  | 0, i, h => by omega
  | k + 1, i, h => by
    rw [lev]
    by_cases e : i = k
    · subst e
      rw [Nat.add_mul_div_right _ _ (Nat.pow_pos (by decide)), Nat.div_eq_of_lt (lev_lt hb i), Nat.zero_add, Nat.mod_eq_of_lt (hb i)]
    · have hik : i < k := by omega
      have e1 : l.getD k 0 * 2 ^ (8 * k) = l.getD k 0 * 2 ^ (8 * (k - i - 1)) * 256 * 2 ^ (8 * i) := by
        rw [show 8 * k = 8 * (k - i - 1) + 8 + 8 * i by omega, Nat.pow_add, Nat.pow_add, ← Nat.mul_assoc, ← Nat.mul_assoc]
      rw [e1, Nat.add_mul_div_right _ _ (Nat.pow_pos (by decide)), Nat.add_mul_mod_self_right]
      exact lev_byte hb k i hik
theorem lev_bit {l : List Nat} (hb : ∀ i, l.getD i 0 < 256) {b : Nat} (h : b < 64) : (lev l 8).testBit b = (l.getD (b / 8) 0).testBit (b % 8) := by
  rw [← lev_byte hb 8 (b / 8) (by omega), byte_bit', show 8 * (b / 8) + b % 8 = b by omega]
  simp; omega
/-- bit i of the blocks -/
def rbit (B : Nat → List Nat) (s i : Nat) : Bool := decide ((B (i / (8 * s))).length = 0) || ((B (i / (8 * s))).getD (i % (8 * s) / 8) 0).testBit (i % 8)
theorem uW_bit {B : Nat → List Nat} {s i : Nat} (hs : s = 128 ∨ s = 256 ∨ s = 512 ∨ s = 1024) (hb : ∀ x ∈ B (i / (8 * s)), x < 256) : (uW B s (i / 64)).testBit (i % 64) = rbit B s i := by
  have e1 : i / 64 * 8 / s = i / (8 * s) := by rcases hs with rfl | rfl | rfl | rfl <;> omega
  have e2 : i / 64 * 8 % s + i % 64 / 8 = i % (8 * s) / 8 := by rcases hs with rfl | rfl | rfl | rfl <;> omega
  unfold uW rbit
  rw [e1]
  by_cases h : (B (i / (8 * s))).length = 0
  · rw [if_pos h, decide_eq_true h, Bool.true_or, show (18446744073709551615 : Nat) = 2 ^ 64 - 1 from rfl, Nat.testBit_two_pow_sub_one]
    simp; omega
  · have hb' : ∀ j, ((B (i / (8 * s))).drop (i / 64 * 8 % s)).getD j 0 < 256 := fun j => by
      rw [List.getD_eq_getElem?_getD]
      cases e : ((B (i / (8 * s))).drop (i / 64 * 8 % s))[j]? with
      | none => simp
      | some z => exact hb z (List.mem_of_mem_drop (List.mem_of_getElem? e))
    rw [if_neg h, decide_eq_false h, Bool.false_or, lev_bit hb' (by omega)]
    rw [List.getD_eq_getElem?_getD, List.getElem?_drop, e2, show i % 64 % 8 = i % 8 by omega, ← List.getD_eq_getElem?_getD]
/-- the words, and how far they are there -/
def tW (B : Nat → List Nat) (s n : Nat) : List Nat := (uL B s ((n + 63) / 64)).set ((n + 63) / 64 - 1) (uW B s ((n + 63) / 64 - 1) % 2 ^ lr n)
def pW (B : Nat → List Nat) (s n i : Nat) : List Nat := (List.range ((n + 63) / 64)).map fun k => (tW B s n).getD k 0 % 2 ^ (i - 64 * k)
theorem tW_len (B : Nat → List Nat) (s n : Nat) : (tW B s n).length = (n + 63) / 64 := by simp [tW, uL_len]
theorem pW_len (B : Nat → List Nat) (s n i : Nat) : (pW B s n i).length = (n + 63) / 64 := by simp [pW]
theorem pW_get {B : Nat → List Nat} {s n i k : Nat} (h : k < (n + 63) / 64) : (pW B s n i).getD k 0 = (tW B s n).getD k 0 % 2 ^ (i - 64 * k) := by
  unfold pW
  rw [List.getD_eq_getElem?_getD, List.getElem?_map, List.getElem?_range h]; rfl
theorem tW_get {B : Nat → List Nat} {s n k : Nat} (h1 : 1 ≤ n) (h : k < (n + 63) / 64) : (tW B s n).getD k 0 = if k = (n + 63) / 64 - 1 then uW B s k % 2 ^ lr n else uW B s k := by
  unfold tW
  rw [List.getD_eq_getElem?_getD]
  by_cases e : k = (n + 63) / 64 - 1
  · rw [if_pos e, e, List.getElem?_set_self (by rw [uL_len]; omega)]; rfl
  · rw [if_neg e, List.getElem?_set_ne (fun h => e h.symm), ← List.getD_eq_getElem?_getD, uL_get h]
theorem lr_at {n : Nat} (h1 : 1 ≤ n) : lr n = n - 64 * ((n + 63) / 64 - 1) := by unfold lr lmS; omega
theorem tW_bit {B : Nat → List Nat} {s n i : Nat} (hs : s = 128 ∨ s = 256 ∨ s = 512 ∨ s = 1024) (h1 : 1 ≤ n) (hi : i < n) (hb : ∀ x ∈ B (i / (8 * s)), x < 256) : ((tW B s n).getD (i / 64) 0).testBit (i % 64) = rbit B s i := by
  rw [tW_get h1 (by omega), ← uW_bit hs hb]
  split
  · rename_i e
    rw [Nat.testBit_mod_two_pow, decide_eq_true (by rw [lr_at h1]; omega), Bool.true_and]
  · rfl
theorem pW_start (B : Nat → List Nat) (s n : Nat) : pW B s n 0 = List.replicate ((n + 63) / 64) 0 := by
  unfold pW
  refine List.ext_getElem (by simp) fun k h1' h2' => ?_
  rw [List.getElem_map, List.getElem_replicate, Nat.zero_sub, Nat.pow_zero, Nat.mod_one]
theorem pW_end {B : Nat → List Nat} {s n : Nat} (h1 : 1 ≤ n) (hb : ∀ k, k < (n + 63) / 64 → uW B s k < 18446744073709551616) : pW B s n n = tW B s n := by
  unfold pW
  refine List.ext_getElem (by simp [tW_len]) fun k h1' h2' => ?_
  rw [List.getElem_map, List.getElem_range]
  have hk : k < (n + 63) / 64 := by simpa using h1'
  have e : (tW B s n)[k] = (tW B s n).getD k 0 := by rw [List.getD_eq_getElem?_getD, List.getElem?_eq_getElem h2']; rfl
  rw [e]
  refine Nat.mod_eq_of_lt ?_
  rw [tW_get h1 hk]
  split
  · rename_i ek
    rw [← show lr n = n - 64 * k by rw [lr_at h1, ek]]
    exact Nat.mod_lt _ (Nat.pow_pos (by decide))
  · exact Nat.lt_of_lt_of_le (hb k hk) (Nat.pow_le_pow_right (n := 2) (i := 64) (by decide) (by omega))
theorem word_next {x m : Nat} : x % 2 ^ (m + 1) = x % 2 ^ m + (if x.testBit m then 2 ^ m else 0) := by
  rw [Nat.mod_pow_succ, Nat.testBit_eq_decide_div_mod_eq]
  rcases Nat.mod_two_eq_zero_or_one (x / 2 ^ m) with e | e
  · simp [e]
  · simp [e]
theorem pW_next {B : Nat → List Nat} {s n i : Nat} (hs : s = 128 ∨ s = 256 ∨ s = 512 ∨ s = 1024) (h1 : 1 ≤ n) (hi : i < n) (hb : ∀ x ∈ B (i / (8 * s)), x < 256) (h64 : ∀ k, k < (n + 63) / 64 → (tW B s n).getD k 0 < 18446744073709551616) : pW B s n (i + 1) = (pW B s n i).set (i / 64) ((pW B s n i).getD (i / 64) 0 + if rbit B s i then 2 ^ (i % 64) else 0) := by
  refine List.ext_getElem (by simp [pW_len]) fun k h1' h2' => ?_
  have hk : k < (n + 63) / 64 := by simpa [pW_len] using h1'
  have e : (pW B s n (i + 1))[k] = (pW B s n (i + 1)).getD k 0 := by rw [List.getD_eq_getElem?_getD, List.getElem?_eq_getElem h1']; rfl
  rw [e, pW_get hk, List.getElem_set]
  split
  · rename_i ek
    subst ek
    rw [pW_get hk, show i + 1 - 64 * (i / 64) = i % 64 + 1 by omega, show i - 64 * (i / 64) = i % 64 by omega, word_next, tW_bit hs h1 hi hb]
  · rename_i ek
    have e2 : (pW B s n i)[k]'(by rw [pW_len]; exact hk) = (pW B s n i).getD k 0 := by rw [List.getD_eq_getElem?_getD, List.getElem?_eq_getElem (by rw [pW_len]; exact hk)]; rfl
    rw [e2, pW_get hk]
    by_cases e3 : k < i / 64
    · have h6 := h64 k hk
      rw [Nat.mod_eq_of_lt (Nat.lt_of_lt_of_le h6 (Nat.pow_le_pow_right (n := 2) (i := 64) (by decide) (by omega))), Nat.mod_eq_of_lt (Nat.lt_of_lt_of_le h6 (Nat.pow_le_pow_right (n := 2) (i := 64) (by decide) (by omega)))]
    · rw [show i + 1 - 64 * k = 0 by omega, show i - 64 * k = 0 by omega]
end Go.Proofs.Ytkjaaknlhmneoaa
