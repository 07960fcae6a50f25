import Derived.Test.YtlmfdbimchhjjaaIdGenL
namespace Go.Proofs.Ytlmfdbimchhjjaa
open Go.RowKit
set_option linter.unusedVariables false
set_option maxRecDepth 20000

theorem frs_0 {a : Int} (h0 : 0 ≤ a) (h1 : a < 576460752303423488) : frs 0 a = 32 * a + 8 := by
  unfold frs
  simp only [IntKind.wrap_u64]
  omega
theorem frs_1 {a : Int} (h0 : 0 ≤ a) (h1 : a < 576460752303423488) : frs 1 a = 32 * a + 24 := by
  unfold frs
  simp only [IntKind.wrap_u64]
  omega
theorem unlike_00 (w : World) (a b : Int) (p1 : 0 ≤ a) (p2 : 0 ≤ b) (h1 : a < 576460752303423488) (h2 : b < 576460752303423488) : Calls Try.prog 3 #[.bool false, .int .u64 a, .bool false, .int .u64 b] w fun e w' => e = .returned (.bool true) ∧ Below w.heap.size w w' := by
  have H1 := hide fun w => fresh_any w 0 a
  have H2 := hide fun w => fresh_any w 0 b
  rw [frs_0 p1 h1] at H1
  rw [frs_0 p2 h2] at H2
  have x0 : (32 * a + 8 == 0) = false := beq_false_of_ne (by omega)
  have x4 : (32 * a + 8 == 4) = false := beq_false_of_ne (by omega)
  have y0 : (32 * b + 8 == 0) = false := beq_false_of_ne (by omega)
  have y4 : (32 * b + 8 == 4) = false := beq_false_of_ne (by omega)
  have HB := hide (Below.refl w.heap.size w)
  by_cases hab : a = b
  · subst hab
    clear p1 p2
    generalize 32 * a + 8 = X at *
    go_enter Try.func3, Try.ntmps3
    go_wp2_with (first
        | (go_at_call 9; refine (H1.out _).mono ?_; rintro e w2 ⟨rfl, rfl⟩; clear H1)
        | (go_at_call 9; refine (H2.out _).mono ?_; rintro e w2 ⟨rfl, rfl⟩))
    go_ret
    exact ⟨by first | rfl | simp_all, HB.out⟩
  · have hab2 : (a == b) = false := beq_false_of_ne hab
    have hxy : (32 * a + 8 == 32 * b + 8) = false := beq_false_of_ne (by omega)
    clear p1 p2
    generalize 32 * a + 8 = X at *
    generalize 32 * b + 8 = Y at *
    go_enter Try.func3, Try.ntmps3
    go_wp2_with (first
        | (go_at_call 9; refine (H1.out _).mono ?_; rintro e w2 ⟨rfl, rfl⟩; clear H1)
        | (go_at_call 9; refine (H2.out _).mono ?_; rintro e w2 ⟨rfl, rfl⟩))
    go_ret
    exact ⟨by first | rfl | simp_all, HB.out⟩
theorem unlike_01 (w : World) (a b : Int) (p1 : 0 ≤ a) (p2 : 0 ≤ b) (h1 : a < 576460752303423488) (h2 : b < 576460752303423488) : Calls Try.prog 3 #[.bool false, .int .u64 a, .bool true, .int .u64 b] w fun e w' => e = .returned (.bool true) ∧ Below w.heap.size w w' := by
  have H1 := hide fun w => fresh_any w 0 a
  have H2 := hide fun w => fresh_any w 1 b
  rw [frs_0 p1 h1] at H1
  rw [frs_1 p2 h2] at H2
  have x0 : (32 * a + 8 == 0) = false := beq_false_of_ne (by omega)
  have x4 : (32 * a + 8 == 4) = false := beq_false_of_ne (by omega)
  have y0 : (32 * b + 24 == 0) = false := beq_false_of_ne (by omega)
  have y4 : (32 * b + 24 == 4) = false := beq_false_of_ne (by omega)
  have HB := hide (Below.refl w.heap.size w)
  have hxy : (32 * a + 8 == 32 * b + 24) = false := beq_false_of_ne (by omega)
  clear p1 p2
  generalize 32 * a + 8 = X at *
  generalize 32 * b + 24 = Y at *
  go_enter Try.func3, Try.ntmps3
  go_wp2_with (first
      | (go_at_call 9; refine (H1.out _).mono ?_; rintro e w2 ⟨rfl, rfl⟩; clear H1)
      | (go_at_call 9; refine (H2.out _).mono ?_; rintro e w2 ⟨rfl, rfl⟩))
  go_ret
  exact ⟨by first | rfl | simp_all, HB.out⟩
theorem unlike_10 (w : World) (a b : Int) (p1 : 0 ≤ a) (p2 : 0 ≤ b) (h1 : a < 576460752303423488) (h2 : b < 576460752303423488) : Calls Try.prog 3 #[.bool true, .int .u64 a, .bool false, .int .u64 b] w fun e w' => e = .returned (.bool true) ∧ Below w.heap.size w w' := by
  have H1 := hide fun w => fresh_any w 1 a
  have H2 := hide fun w => fresh_any w 0 b
  rw [frs_1 p1 h1] at H1
  rw [frs_0 p2 h2] at H2
  have x0 : (32 * a + 24 == 0) = false := beq_false_of_ne (by omega)
  have x4 : (32 * a + 24 == 4) = false := beq_false_of_ne (by omega)
  have y0 : (32 * b + 8 == 0) = false := beq_false_of_ne (by omega)
  have y4 : (32 * b + 8 == 4) = false := beq_false_of_ne (by omega)
  have HB := hide (Below.refl w.heap.size w)
  have hxy : (32 * a + 24 == 32 * b + 8) = false := beq_false_of_ne (by omega)
  clear p1 p2
  generalize 32 * a + 24 = X at *
  generalize 32 * b + 8 = Y at *
  go_enter Try.func3, Try.ntmps3
  go_wp2_with (first
      | (go_at_call 9; refine (H1.out _).mono ?_; rintro e w2 ⟨rfl, rfl⟩; clear H1)
      | (go_at_call 9; refine (H2.out _).mono ?_; rintro e w2 ⟨rfl, rfl⟩))
  go_ret
  exact ⟨by first | rfl | simp_all, HB.out⟩
theorem unlike_11 (w : World) (a b : Int) (p1 : 0 ≤ a) (p2 : 0 ≤ b) (h1 : a < 576460752303423488) (h2 : b < 576460752303423488) : Calls Try.prog 3 #[.bool true, .int .u64 a, .bool true, .int .u64 b] w fun e w' => e = .returned (.bool true) ∧ Below w.heap.size w w' := by
  have H1 := hide fun w => fresh_any w 1 a
  have H2 := hide fun w => fresh_any w 1 b
  rw [frs_1 p1 h1] at H1
  rw [frs_1 p2 h2] at H2
  have x0 : (32 * a + 24 == 0) = false := beq_false_of_ne (by omega)
  have x4 : (32 * a + 24 == 4) = false := beq_false_of_ne (by omega)
  have y0 : (32 * b + 24 == 0) = false := beq_false_of_ne (by omega)
  have y4 : (32 * b + 24 == 4) = false := beq_false_of_ne (by omega)
  have HB := hide (Below.refl w.heap.size w)
  by_cases hab : a = b
  · subst hab
    clear p1 p2
    generalize 32 * a + 24 = X at *
    go_enter Try.func3, Try.ntmps3
    go_wp2_with (first
        | (go_at_call 9; refine (H1.out _).mono ?_; rintro e w2 ⟨rfl, rfl⟩; clear H1)
        | (go_at_call 9; refine (H2.out _).mono ?_; rintro e w2 ⟨rfl, rfl⟩))
    go_ret
    exact ⟨by first | rfl | simp_all, HB.out⟩
  · have hab2 : (a == b) = false := beq_false_of_ne hab
    have hxy : (32 * a + 24 == 32 * b + 24) = false := beq_false_of_ne (by omega)
    clear p1 p2
    generalize 32 * a + 24 = X at *
    generalize 32 * b + 24 = Y at *
    go_enter Try.func3, Try.ntmps3
    go_wp2_with (first
        | (go_at_call 9; refine (H1.out _).mono ?_; rintro e w2 ⟨rfl, rfl⟩; clear H1)
        | (go_at_call 9; refine (H2.out _).mono ?_; rintro e w2 ⟨rfl, rfl⟩))
    go_ret
    exact ⟨by first | rfl | simp_all, HB.out⟩
theorem unlike_big (w : World) (n m : Bool) (a b : Int) (h : 576460752303423488 ≤ a ∨ 576460752303423488 ≤ b) : Calls Try.prog 3 #[.bool n, .int .u64 a, .bool m, .int .u64 b] w fun e w' => e = .returned (.bool true) ∧ Below w.heap.size w w' := by
  have HB := hide (Below.refl w.heap.size w)
  by_cases h1 : 576460752303423488 ≤ a
  · clear h
    go_enter Try.func3, Try.ntmps3
    go_wp2_with fail
    go_ret
    exact ⟨rfl, HB.out⟩
  · have h2 : 576460752303423488 ≤ b := by omega
    clear h
    go_enter Try.func3, Try.ntmps3
    go_wp2_with fail
    go_ret
    exact ⟨rfl, HB.out⟩
theorem unlikeLaw (w : World) (n m : Bool) (a b : Int) (p1 : 0 ≤ a) (p2 : 0 ≤ b) : Calls Try.prog 3 #[.bool n, .int .u64 a, .bool m, .int .u64 b] w fun e w' => e = .returned (.bool true) ∧ Below w.heap.size w w' := by
  by_cases h : 576460752303423488 ≤ a ∨ 576460752303423488 ≤ b
  · exact unlike_big w n m a b h
  · have h1 : a < 576460752303423488 := by omega
    have h2 : b < 576460752303423488 := by omega
    cases n <;> cases m
    · exact unlike_00 w a b p1 p2 h1 h2
    · exact unlike_01 w a b p1 p2 h1 h2
    · exact unlike_10 w a b p1 p2 h1 h2
    · exact unlike_11 w a b p1 p2 h1 h2
end Go.Proofs.Ytlmfdbimchhjjaa
