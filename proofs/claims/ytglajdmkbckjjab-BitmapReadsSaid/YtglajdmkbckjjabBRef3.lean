import Derived.Test.YtglajdmkbckjjabBRef2
namespace Go.Proofs.Ytglajdmkbckjjab
open Go.RowKit Go.Shelf
set_option linter.unusedVariables false
set_option linter.unusedSimpArgs false
set_option maxRecDepth 20000

theorem ranged_any {w : World} {R : RL} {n B : Nat} (h : RRep w R n B) (a c : Int) :
    Calls Try.prog 30 #[PR R, .int .i64 a, .int .i64 c] w fun e w' => e = .returned (.int .i64 ((rgErr n a c : Nat) : Int)) ∧ w' = w := by
  have c0 := h.c0
  have hn := h.n2
  unfold PR rgErr
  clear h
  by_cases h1 : c < 0
  · rw [if_pos h1]
    go_enter Try.func30, Try.ntmps30
    go_wp2
    go_ret
    exact ⟨rfl, rfl⟩
  · rw [if_neg h1]
    by_cases h2 : a < 0
    · rw [if_pos (.inl h2)]
      go_enter Try.func30, Try.ntmps30
      go_wp2
      go_ret
      exact ⟨rfl, rfl⟩
    · by_cases h3 : (n : Int) < a
      · rw [if_pos (.inr (.inl h3))]
        go_enter Try.func30, Try.ntmps30
        go_wp2
        go_ret
        exact ⟨rfl, rfl⟩
      · by_cases h4 : (n : Int) - a < c
        · rw [if_pos (.inr (.inr h4))]
          go_enter Try.func30, Try.ntmps30
          go_wp2
          go_ret
          exact ⟨rfl, rfl⟩
        · rw [if_neg (by omega)]
          go_enter Try.func30, Try.ntmps30
          go_wp2
          go_ret
          exact ⟨rfl, rfl⟩

theorem cnt_succ (f : Nat → Bool) (k : Nat) : cnt f (k + 1) = cnt f k + (f k).toNat := rfl
end Go.Proofs.Ytglajdmkbckjjab
