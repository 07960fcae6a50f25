import Derived.Test.YthbnkgbpodnjcabRows
import Derived.Test.YthbnkgbpodnjcabNum
import Derived.WalkKit
import Derived.WalkSpells
import Derived.WalkLawsBesides
import Derived.BigQuiet
import Derived.Deep.QuietTactic
namespace Go.Proofs.Ythbnkgbpodnjcab
open Go.RowKit
set_option linter.unusedVariables false
set_option linter.unusedSimpArgs false
set_option maxRecDepth 20000

theorem within_any (w : World) (n lo hi : Int) : Calls Try.prog 25 #[.int .i64 n, .int .i64 lo, .int .i64 hi] w fun e w' => e = .returned (.bool (decide (lo ≤ n) && decide (n ≤ hi))) ∧ w' = w := by
  by_cases h : lo ≤ n
  · by_cases h2 : n ≤ hi
    · go_enter Try.func25, Try.ntmps25
      go_wp2
      go_ret
      exact ⟨by simp [h, h2], rfl⟩
    · go_enter Try.func25, Try.ntmps25
      go_wp2
      go_ret
      exact ⟨by simp [h, h2], rfl⟩
  · go_enter Try.func25, Try.ntmps25
    go_wp2
    go_ret
    exact ⟨by rw [decide_eq_false (show ¬ lo ≤ n by omega)]; rfl, rfl⟩
/-- may a link have these numbers? -/
def okN (a b c d : Int) : Bool := decide (1 ≤ a) && decide (a ≤ 64) && decide (0 ≤ b) && decide (b ≤ 1024) && decide (1 ≤ c) && decide (c ≤ 1000) && decide (c + 1 ≤ d) && decide (d ≤ 1000)
/-- a new link's cells, the program's and the document's -/
def kRow (a b c d : Int) : Array Value := #[.int .i64 a, .int .i64 b, .int .i64 c, .int .i64 d, .int .i64 0, .int .u32 0, .int .u32 0, .int .u32 0, .int .u32 0, .int .u32 0, .slice none 0 0, .int .i64 0, .map none, .nilFunc, .nilFunc, .slice none 0 0]
def rRow (a b c d : Int) : Array Value := #[.int .i64 a, .int .i64 b, .int .i64 c, .int .i64 d, .int .i64 0, .int .u32 0, .int .u32 0, .int .u32 0, .int .u32 0, .int .u32 0, .slice none 0 0, .int .i64 0, .int .i64 0, .int .u32 0, .slice none 0 0, .int .i64 0, .int .i64 0, .slice none 0 0]
theorem okN_yes {a b c d : Int} (h : okN a b c d = true) : 1 ≤ a ∧ a ≤ 64 ∧ 0 ≤ b ∧ b ≤ 1024 ∧ 1 ≤ c ∧ c ≤ 1000 ∧ c + 1 ≤ d ∧ d ≤ 1000 := by
  unfold okN at h
  simp only [Bool.and_eq_true, decide_eq_true_eq] at h
  omega
theorem okN_no {a b c d : Int} (h : okN a b c d = false) : a < 1 ∨ (1 ≤ a ∧ 64 < a) ∨ (1 ≤ a ∧ a ≤ 64 ∧ b < 0) ∨ (1 ≤ a ∧ a ≤ 64 ∧ 0 ≤ b ∧ 1024 < b) ∨ (1 ≤ a ∧ a ≤ 64 ∧ 0 ≤ b ∧ b ≤ 1024 ∧ c < 1) ∨ (1 ≤ a ∧ a ≤ 64 ∧ 0 ≤ b ∧ b ≤ 1024 ∧ 1 ≤ c ∧ 1000 < c) ∨ (1 ≤ a ∧ a ≤ 64 ∧ 0 ≤ b ∧ b ≤ 1024 ∧ 1 ≤ c ∧ c ≤ 1000 ∧ d < c + 1) ∨ (1 ≤ a ∧ a ≤ 64 ∧ 0 ≤ b ∧ b ≤ 1024 ∧ 1 ≤ c ∧ c ≤ 1000 ∧ c + 1 ≤ d ∧ 1000 < d) := by
  have h' : ¬ (1 ≤ a ∧ a ≤ 64 ∧ 0 ≤ b ∧ b ≤ 1024 ∧ 1 ≤ c ∧ c ≤ 1000 ∧ c + 1 ≤ d ∧ d ≤ 1000) := fun hh => by
    obtain ⟨h1, h2, h3, h4, h5, h6, h7, h8⟩ := hh
    simp [okN, h1, h2, h3, h4, h5, h6, h7, h8] at h
  omega
set_option maxHeartbeats 1000000 in
theorem kNew_yes (w : World) (a b c d : Int) (h : okN a b c d = true) : Calls Try.prog 12 #[.int .i64 a, .int .i64 b, .int .i64 c, .int .i64 d] w fun e w' => e = .returned (.tuple #[.pointer (some ⟨w.heap.size, 0, none⟩), .int .i64 0]) ∧ w' = w.alloc (.cells (kRow a b c d) 63) := by
  obtain ⟨h1, h2, h3, h4, h5, h6, h7, h8⟩ := okN_yes h
  clear h
  go_enter Try.func12, Try.ntmps12
  go_wp2_with (go_at_call 25; refine (within_any _ _ _ _).mono ?_; rintro e w' ⟨rfl, rfl⟩)
  go_ret2
  exact ⟨rfl, rfl⟩
set_option maxHeartbeats 1000000 in
theorem kNew_no (w : World) (a b c d : Int) (h : okN a b c d = false) : Calls Try.prog 12 #[.int .i64 a, .int .i64 b, .int .i64 c, .int .i64 d] w fun e w' => e = .returned (.tuple #[.pointer none, .int .i64 1]) ∧ w' = w := by
  rcases okN_no h with h1 | ⟨h1, h2⟩ | ⟨h1, h2, h3⟩ | ⟨h1, h2, h3, h4⟩ | ⟨h1, h2, h3, h4, h5⟩ | ⟨h1, h2, h3, h4, h5, h6⟩ | ⟨h1, h2, h3, h4, h5, h6, h7⟩ | ⟨h1, h2, h3, h4, h5, h6, h7, h8⟩
  all_goals
    clear h
    try (have h9 : ¬ c + 1 ≤ d := by omega)
    go_enter Try.func12, Try.ntmps12
    go_wp2_with (go_at_call 25; refine (within_any _ _ _ _).mono ?_; rintro e w' ⟨rfl, rfl⟩)
    all_goals first | (go_ret2; exact ⟨rfl, rfl⟩) | (rename_i hx; simp at hx; omega)
set_option maxHeartbeats 1000000 in
theorem rNew_yes (w : World) (a b c d : Int) (h : okN a b c d = true) : Calls Try.prog 13 #[.int .i64 a, .int .i64 b, .int .i64 c, .int .i64 d] w fun e w' => e = .returned (.tuple #[.pointer (some ⟨w.heap.size, 0, none⟩), .int .i64 0]) ∧ w' = w.alloc (.cells (rRow a b c d) 66) := by
  obtain ⟨h1, h2, h3, h4, h5, h6, h7, h8⟩ := okN_yes h
  have h9 : ¬ d ≤ c := by omega
  clear h
  go_enter Try.func13, Try.ntmps13
  go_wp2_with fail
  go_ret2
  exact ⟨rfl, rfl⟩
set_option maxHeartbeats 1000000 in
theorem rNew_no (w : World) (a b c d : Int) (h : okN a b c d = false) : Calls Try.prog 13 #[.int .i64 a, .int .i64 b, .int .i64 c, .int .i64 d] w fun e w' => e = .returned (.tuple #[.pointer none, .int .i64 1]) ∧ w' = w := by
  rcases okN_no h with h1 | ⟨h1, h2⟩ | ⟨h1, h2, h3⟩ | ⟨h1, h2, h3, h4⟩ | ⟨h1, h2, h3, h4, h5⟩ | ⟨h1, h2, h3, h4, h5, h6⟩ | ⟨h1, h2, h3, h4, h5, h6, h7⟩ | ⟨h1, h2, h3, h4, h5, h6, h7, h8⟩
  all_goals
    clear h
    try (have h9 : d ≤ c := by omega)
    try (have h9 : ¬ d ≤ c := by omega)
    go_enter Try.func13, Try.ntmps13
    go_wp2_with fail
    go_ret2
    exact ⟨rfl, rfl⟩
end Go.Proofs.Ythbnkgbpodnjcab
