import Derived.Test.YtglajdmkbckjjaaDoorBIntact
namespace Go.Proofs.YtglajdmkbckjjaaDoor
open Go.RowKit Go.Shelf
set_option linter.unusedVariables false
set_option linter.unusedSimpArgs false
set_option maxRecDepth 20000

/-- the bits from a on, ahead of b, become 'to' -/
def putR (to : Bool) (B a b : Nat) : Nat := if to then setR B a b else clrR B a b
theorem testBit_putR (to : Bool) (B a b i : Nat) : (putR to B a b).testBit i = if a ≤ i ∧ i < b then to else B.testBit i := by
  cases to
  · simp only [putR, if_neg Bool.false_ne_true, testBit_clrR]
    by_cases h : a ≤ i ∧ i < b
    · simp [h.1, h.2]
    · rw [if_neg h]
      by_cases h1 : a ≤ i
      · have h2 : ¬ i < b := fun h2 => h ⟨h1, h2⟩
        simp [h1, h2]
      · simp [h1]
  · simp only [putR, if_true, testBit_setR]
    by_cases h : a ≤ i ∧ i < b
    · simp [h.1, h.2]
    · rw [if_neg h]
      by_cases h1 : a ≤ i
      · have h2 : ¬ i < b := fun h2 => h ⟨h1, h2⟩
        simp [h1, h2]
      · simp [h1]
theorem putR_lt {to : Bool} {B a b n : Nat} (hB : B < 2 ^ n) (hb : b ≤ n) : putR to B a b < 2 ^ n := lt_of_bits fun j hj => by
  rw [testBit_putR, if_neg (by omega)]
  exact Nat.testBit_lt_two_pow (Nat.lt_of_lt_of_le hB (Nat.pow_le_pow_right (by decide) hj))
theorem putR_nil (to : Bool) (B a : Nat) : putR to B a a = B := Nat.eq_of_testBit_eq fun i => by rw [testBit_putR, if_neg (by omega)]
theorem RRep.bits {w : World} {R : RL} {n B B' : Nat} (h : RRep w R n B) (e : B = B') : RRep w R n B' := e ▸ h

end Go.Proofs.YtglajdmkbckjjaaDoor
