import Derived.Test.YtglajdmkbckjjabBMerge
namespace Go.Proofs.Ytglajdmkbckjjab
open Go.RowKit
set_option linter.unusedVariables false
set_option linter.unusedSimpArgs false
set_option maxRecDepth 20000

theorem cnt_wd (B k : Nat) : cnt (wd B k).testBit 64 = cnt (fun j => B.testBit (64 * k + j)) 64 := cnt_congr 64 fun i hi => by rw [testBit_wd]; simp [hi]
/-- what may be wrong with a range -/
def rgErr (n : Nat) (a c : Int) : Nat := if c < 0 then 1 else if a < 0 ∨ (n : Int) < a ∨ (n : Int) - a < c then 2 else 0
theorem checkRange_any {w : World} {L : BL} {n B : Nat} (h : BRep w L n B) (a c : Int) :
    Calls Try.prog 32 #[PB L, .int .i64 a, .int .i64 c] w fun e w' => e = .returned (.int .i64 ((rgErr n a c : Nat) : Int)) ∧ w' = w := by
  have c0 := h.c0
  have hn := h.n2
  unfold PB rgErr
  clear h
  by_cases h1 : c < 0
  · rw [if_pos h1]
    go_enter Try.func32, Try.ntmps32
    go_wp2
    go_ret
    exact ⟨rfl, rfl⟩
  · rw [if_neg h1]
    by_cases h2 : a < 0
    · rw [if_pos (.inl h2)]
      go_enter Try.func32, Try.ntmps32
      go_wp2
      go_ret
      exact ⟨rfl, rfl⟩
    · by_cases h3 : (n : Int) < a
      · rw [if_pos (.inr (.inl h3))]
        go_enter Try.func32, Try.ntmps32
        go_wp2
        go_ret
        exact ⟨rfl, rfl⟩
      · by_cases h4 : (n : Int) - a < c
        · rw [if_pos (.inr (.inr h4))]
          go_enter Try.func32, Try.ntmps32
          go_wp2
          go_ret
          exact ⟨rfl, rfl⟩
        · rw [if_neg (by omega)]
          go_enter Try.func32, Try.ntmps32
          go_wp2
          go_ret
          exact ⟨rfl, rfl⟩
end Go.Proofs.Ytglajdmkbckjjab
