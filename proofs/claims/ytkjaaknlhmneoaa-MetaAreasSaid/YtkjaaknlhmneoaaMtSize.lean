import Derived.Test.YtkjaaknlhmneoaaABase
namespace Go.Proofs.Ytkjaaknlhmneoaa
open Go.RowKit
set_option linter.unusedVariables false
set_option maxRecDepth 20000

def okSz (n : Int) : Bool := n == 128 || n == 256 || n == 512 || n == 1024
theorem okSz_iff {n : Int} : okSz n = true ↔ (n = 128 ∨ n = 256 ∨ n = 512 ∨ n = 1024) := by simp [okSz, or_assoc]
theorem okSz_cases {n : Int} (h : okSz n = true) : n = 128 ∨ n = 256 ∨ n = 512 ∨ n = 1024 := okSz_iff.1 h
theorem okSz_pos {n : Int} (h : okSz n = true) : 128 ≤ n ∧ n ≤ 1024 := by have := okSz_iff.1 h; omega
theorem okSz_lo {n : Int} (h : ¬ 128 ≤ n) : okSz n = false := by
  cases e : okSz n with
  | false => rfl
  | true => have := okSz_iff.1 e; omega
theorem okSz_hi {n : Int} (h : ¬ n ≤ 1024) : okSz n = false := by
  cases e : okSz n with
  | false => rfl
  | true => have := okSz_iff.1 e; omega
theorem pow_all : ∀ m : Nat, m < 1025 → 128 ≤ m → (bits BinOp.and .i64 (m : Int) ((m : Int) - 1) == 0) = okSz m := by decide +kernel
theorem validSize_any (w : World) (n : Int) : Calls Try.prog 30 #[.int .i64 n] w fun e w' => e = .returned (.bool (okSz n)) ∧ w' = w := by
  by_cases h1 : 128 ≤ n
  · by_cases h2 : n ≤ 1024
    · go_enter Try.func30, Try.ntmps30
      go_wp2_with fail
      go_ret
      refine ⟨?_, rfl⟩
      obtain ⟨m, rfl⟩ : ∃ m : Nat, n = m := ⟨n.toNat, by omega⟩
      have h := pow_all m (by omega) (by omega)
      rw [← h]
      rfl
    · rw [okSz_hi h2]
      go_enter Try.func30, Try.ntmps30
      go_wp2_with fail
      go_ret
      exact ⟨rfl, rfl⟩
  · rw [okSz_lo h1]
    go_enter Try.func30, Try.ntmps30
    go_wp2_with fail
    go_ret
    exact ⟨rfl, rfl⟩
theorem sizes_any (w : World) (n : Int) : Calls Try.prog 32 #[.int .i64 n] w fun e w' => e = .returned (.bool (okSz n)) ∧ w' = w := by
  unfold okSz
  by_cases h1 : n = 128
  · subst h1
    go_enter Try.func32, Try.ntmps32
    go_wp2_with fail
    go_ret
    exact ⟨rfl, rfl⟩
  by_cases h2 : n = 256
  · subst h2
    go_enter Try.func32, Try.ntmps32
    go_wp2_with fail
    go_ret
    exact ⟨rfl, rfl⟩
  by_cases h3 : n = 512
  · subst h3
    go_enter Try.func32, Try.ntmps32
    go_wp2_with fail
    go_ret
    exact ⟨rfl, rfl⟩
  go_enter Try.func32, Try.ntmps32
  go_wp2_with fail
  go_ret
  exact ⟨by simp, rfl⟩
theorem sized_any (w : World) (n : Int) : Calls Try.prog 13 #[.int .i64 n] w fun e w' => e = .returned (.bool (okSz n)) ∧ w' = w := by
  unfold okSz
  by_cases h1 : n = 128
  · subst h1
    go_enter Try.func13, Try.ntmps13
    go_wp2_with fail
    go_ret
    exact ⟨rfl, rfl⟩
  by_cases h2 : n = 256
  · subst h2
    go_enter Try.func13, Try.ntmps13
    go_wp2_with fail
    go_ret
    exact ⟨rfl, rfl⟩
  by_cases h3 : n = 512
  · subst h3
    go_enter Try.func13, Try.ntmps13
    go_wp2_with fail
    go_ret
    exact ⟨rfl, rfl⟩
  go_enter Try.func13, Try.ntmps13
  go_wp2_with fail
  go_ret
  exact ⟨by simp, rfl⟩
end Go.Proofs.Ytkjaaknlhmneoaa
