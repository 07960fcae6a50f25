import Derived.Test.YthkkinmegileaaaABase
namespace Go.Proofs.Ythkkinmegileaaa
open Go.RowKit
set_option linter.unusedVariables false
set_option maxRecDepth 20000

def ringN (n : Int) : Int := if n < 1 ∨ 16 < n then 0 else if n ≤ 4 then 1 else if n ≤ 8 then 2 else 4
theorem validSlots_any (w : World) (n : Int) : Calls Try.prog 18 #[.int .i64 n] w fun e w' => e = .returned (.bool (decide (1 ≤ n ∧ n ≤ 16))) ∧ w' = w := by
  by_cases h1 : 1 ≤ n
  · by_cases h2 : n ≤ 16
    · rw [decide_eq_true ⟨h1, h2⟩]
      go_enter Try.func18, Try.ntmps18
      go_wp2_with fail
      go_ret
      exact ⟨rfl, rfl⟩
    · rw [decide_eq_false (by omega)]
      go_enter Try.func18, Try.ntmps18
      go_wp2_with fail
      go_ret
      exact ⟨rfl, rfl⟩
  · rw [decide_eq_false (by omega)]
    go_enter Try.func18, Try.ntmps18
    go_wp2_with fail
    go_ret
    exact ⟨rfl, rfl⟩
theorem ring_any (w : World) (n : Int) : Calls Try.prog 15 #[.int .i64 n] w fun e w' => e = .returned (.int .i64 (ringN n)) ∧ w' = w := by
  have HV := hide (validSlots_any w n)
  unfold ringN
  by_cases h : n < 1 ∨ 16 < n
  · rw [if_pos h]
    rw [decide_eq_false (by omega)] at HV
    go_enter Try.func15, Try.ntmps15
    go_wp2_with (first
      | (go_at_call 18; refine HV.out.mono ?_; rintro e w2 ⟨rfl, rfl⟩))
    go_ret
    exact ⟨rfl, rfl⟩
  · rw [if_neg h]
    rw [decide_eq_true (by omega)] at HV
    by_cases h4 : n ≤ 4
    · rw [if_pos h4]
      go_enter Try.func15, Try.ntmps15
      go_wp2_with (first
        | (go_at_call 18; refine HV.out.mono ?_; rintro e w2 ⟨rfl, rfl⟩))
      go_ret
      exact ⟨rfl, rfl⟩
    · rw [if_neg h4]
      by_cases h8 : n ≤ 8
      · rw [if_pos h8]
        go_enter Try.func15, Try.ntmps15
        go_wp2_with (first
          | (go_at_call 18; refine HV.out.mono ?_; rintro e w2 ⟨rfl, rfl⟩))
        go_ret
        exact ⟨rfl, rfl⟩
      · rw [if_neg h8]
        go_enter Try.func15, Try.ntmps15
        go_wp2_with (first
          | (go_at_call 18; refine HV.out.mono ?_; rintro e w2 ⟨rfl, rfl⟩))
        go_ret
        exact ⟨rfl, rfl⟩
end Go.Proofs.Ythkkinmegileaaa
