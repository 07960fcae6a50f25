import Derived.Test.YtepgiomgkgfioaaMtBw
namespace Go.Proofs.Ytepgiomgkgfioaa
open Go.RowKit
open Num
set_option linter.unusedVariables false
set_option linter.unusedSimpArgs false
set_option maxRecDepth 20000

/-- the words with one bit turned -/
def tnW (ws : List Nat) (t : Nat) : List Nat := ws.set (t / 64) (ws.getD (t / 64) 0 ^^^ 2 ^ (t % 64))
theorem tnW_len (ws : List Nat) (t : Nat) : (tnW ws t).length = ws.length := by simp [tnW]
theorem tnW_get (ws : List Nat) (t i : Nat) (hi : i < ws.length) : (tnW ws t).getD i 0 = if i = t / 64 then ws.getD i 0 ^^^ 2 ^ (t % 64) else ws.getD i 0 := by
  unfold tnW
  by_cases e : i = t / 64
  · subst e
    rw [if_pos rfl]
    simp [List.getD, hi]
  · rw [if_neg e]
    simp [List.getD, hi, List.getElem_set, Ne.symm e]
theorem byte_bit (x c i : Nat) : (x / 2 ^ (8 * c) % 256).testBit i = (decide (i < 8) && x.testBit (8 * c + i)) := by
  rw [show (256 : Nat) = 2 ^ 8 from rfl, Nat.testBit_mod_two_pow, Nat.testBit_div_two_pow, Nat.add_comm]
theorem pb_same {ws : List Nat} {t j : Nat} (hj : j < ws.length * 8) (h : j ≠ t / 8) : pb (tnW ws t) j = pb ws j := by
  unfold pb
  rw [tnW_get ws t (j / 8) (by omega)]
  by_cases e : j / 8 = t / 64
  · rw [if_pos e]
    apply Nat.eq_of_testBit_eq
    intro i
    rw [byte_bit, byte_bit, Nat.testBit_xor, Nat.testBit_two_pow]
    by_cases hi : i < 8
    · have : ¬ t % 64 = 8 * (j % 8) + i := by omega
      simp [hi, this]
    · simp [hi]
  · rw [if_neg e]
theorem pb_diff {ws : List Nat} {t : Nat} (ht : t / 8 < ws.length * 8) : pb (tnW ws t) (t / 8) ≠ pb ws (t / 8) := fun e => by
  have h := congrArg (fun n => n.testBit (t % 8)) e
  simp only [pb] at h
  rw [tnW_get ws t (t / 8 / 8) (by omega), if_pos (by omega), byte_bit, byte_bit, Nat.testBit_xor, Nat.testBit_two_pow] at h
  have h1 : t % 64 = 8 * (t / 8 % 8) + t % 8 := by omega
  simp [← h1, show t % 8 < 8 by omega] at h
theorem bk_same {ws : List Nat} {s t k : Nat} (h : k ≠ t / (8 * s)) (hs : 1 ≤ s) : bkT (tnW ws t) s (ws.length * 8) k = bkT ws s (ws.length * 8) k := by
  unfold bkT
  refine List.map_congr_left fun r hr => ?_
  have hr' := List.mem_range.1 hr
  by_cases hlt : k * s + r < ws.length * 8
  · rw [if_pos hlt, if_pos hlt]
    refine pb_same hlt fun e => h ?_
    rw [← Nat.div_div_eq_div_mul, ← e, Nat.mul_comm, Nat.mul_add_div (by omega), Nat.div_eq_of_lt hr', Nat.add_zero]
  · rw [if_neg hlt, if_neg hlt]
theorem bk_diff {ws : List Nat} {s t : Nat} (ht : t / 8 < ws.length * 8) (hs : 1 ≤ s) : bkT (tnW ws t) s (ws.length * 8) (t / (8 * s)) ≠ bkT ws s (ws.length * 8) (t / (8 * s)) := fun e => by
  have hb : t / (8 * s) * s + t / 8 % s = t / 8 := by
    rw [← Nat.div_div_eq_div_mul, Nat.mul_comm]
    exact Nat.div_add_mod _ _
  have hr : t / 8 % s < s := Nat.mod_lt _ (by omega)
  have h := congrArg (fun l => l.getD (t / 8 % s) 0) e
  simp only [bkT, List.getD_eq_getElem?_getD, List.getElem?_map, List.getElem?_range hr, Option.map_some, Option.getD_some, hb, if_pos ht] at h
  exact pb_diff ht h
/-- the law's words are a bitmap of n bits -/
structure Bm (n : Nat) (ws : List Nat) : Prop where
  len : ws.length = (n + 63) / 64
  lt : ∀ i, i < ws.length → ws.getD i 0 < 18446744073709551616
  last : ws.getD ((n + 63) / 64 - 1) 0 < 2 ^ lr n
theorem Bm.words {n : Nat} {seed : List Nat} (h1 : 1 ≤ n) (hs : ∀ x ∈ seed, x < 18446744073709551616) : Bm n (wdL n seed) := by
  have hg : ∀ i, seed.getD i 0 < 18446744073709551616 := fun i => by
    by_cases h : i < seed.length
    · exact hs _ (by simp [List.getD, h])
    · rw [List.getD_eq_getElem?_getD, List.getElem?_eq_none (Nat.le_of_not_lt h)]; decide
  have hL : 1 ≤ (n + 63) / 64 := by omega
  have hlen : (wdL n seed).length = (n + 63) / 64 := by simp [wdL, padW_len]
  have hp : 0 < 2 ^ lr n := Nat.pow_pos (by decide)
  refine ⟨hlen, fun i hi => ?_, ?_⟩
  · rw [hlen] at hi
    unfold wdL
    by_cases e : i = (n + 63) / 64 - 1
    · subst e
      simp only [List.getD, List.getElem?_set_self (show (n + 63) / 64 - 1 < (padW ((n + 63) / 64) seed).length by rw [padW_len]; omega), Option.getD_some]
      exact Nat.lt_of_le_of_lt (Nat.mod_le _ _) (hg _)
    · simp only [List.getD, List.getElem?_set_ne (Ne.symm e)]
      have := padW_get (seed := seed) hi
      rw [List.getD] at this
      rw [this]
      exact hg i
  · unfold wdL
    simp only [List.getD, List.getElem?_set_self (show (n + 63) / 64 - 1 < (padW ((n + 63) / 64) seed).length by rw [padW_len]; omega), Option.getD_some]
    exact Nat.mod_lt _ hp
theorem Bm.turn {n t : Nat} {ws : List Nat} (h : Bm n ws) (ht : t < n) : Bm n (tnW ws t) := by
  have hlen := h.len
  have ht6 : (2 : Nat) ^ (t % 64) < 2 ^ 64 := Nat.pow_lt_pow_right (by decide) (by omega)
  refine ⟨by rw [tnW_len]; exact hlen, fun i hi => ?_, ?_⟩
  · rw [tnW_len] at hi
    rw [tnW_get ws t i hi]
    split
    · exact Nat.xor_lt_two_pow (n := 64) (h.lt i hi) ht6
    · exact h.lt i hi
  · rw [tnW_get ws t _ (by rw [hlen]; omega)]
    split
    · rename_i e
      refine Nat.xor_lt_two_pow h.last (Nat.pow_lt_pow_right (by decide) ?_)
      unfold lr lmS
      omega
    · exact h.last
end Go.Proofs.Ytepgiomgkgfioaa
