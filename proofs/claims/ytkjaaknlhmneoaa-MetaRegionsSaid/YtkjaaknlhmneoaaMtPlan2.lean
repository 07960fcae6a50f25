import Derived.Test.YtkjaaknlhmneoaaMtPlan
namespace Go.Proofs.Ytkjaaknlhmneoaa
open Go.RowKit
set_option linter.unusedVariables false
set_option maxRecDepth 20000

theorem plan_no (w : World) (b s k : Int) (h : okPlan b s k = false) : Calls Try.prog 11 #[.int .i64 b, .int .i64 s, .int .i64 k] w fun e w' => e = .returned (.tuple #[noPlan, .int .i64 1]) ∧ Below w.heap.size w w' := by
  have H1 := hide fun x => validBlocks_any x b
  have H2 := hide fun x => validSize_any x s
  have H3 := hide fun x => validSlots_any x k
  have HB := hide (Below.refl w.heap.size w)
  unfold okPlan at h
  unfold noPlan
  cases h1 : decide (1 ≤ b ∧ b ≤ 4096) with
  | false =>
    rw [h1] at H1
    clear h1 h
    go_enter Try.func11, Try.ntmps11
    go_wp2_with (first
      | (go_at_call 33; refine (H1.out _).mono ?_; rintro e w2 ⟨rfl, rfl⟩))
    exact bodyPost_ret (results_row_tmp rfl _ _ w.heap.size 27 _ (0, 0) _ rfl (Go.heap_alloc_new _ _) Try.underlying27 rfl (by kernel_rfl)) rfl ⟨rfl, HB.out.alloc (Nat.le_refl _) _⟩
  | true =>
    rw [h1] at H1 h
    clear h1
    cases h2 : okSz s with
    | false =>
      rw [h2] at H2
      clear h2 h
      go_enter Try.func11, Try.ntmps11
      go_wp2_with (first
        | (go_at_call 33; refine (H1.out _).mono ?_; rintro e w2 ⟨rfl, rfl⟩)
        | (go_at_call 30; refine (H2.out _).mono ?_; rintro e w2 ⟨rfl, rfl⟩))
      exact bodyPost_ret (results_row_tmp rfl _ _ w.heap.size 27 _ (0, 0) _ rfl (Go.heap_alloc_new _ _) Try.underlying27 rfl (by kernel_rfl)) rfl ⟨rfl, HB.out.alloc (Nat.le_refl _) _⟩
    | true =>
      rw [h2] at H2 h
      clear h2
      have h3 : decide (1 ≤ k ∧ k ≤ 16) = false := by simpa using h
      rw [h3] at H3
      clear h3 h
      go_enter Try.func11, Try.ntmps11
      go_wp2_with (first
        | (go_at_call 33; refine (H1.out _).mono ?_; rintro e w2 ⟨rfl, rfl⟩)
        | (go_at_call 30; refine (H2.out _).mono ?_; rintro e w2 ⟨rfl, rfl⟩)
        | (go_at_call 34; refine (H3.out _).mono ?_; rintro e w2 ⟨rfl, rfl⟩))
      exact bodyPost_ret (results_row_tmp rfl _ _ w.heap.size 27 _ (0, 0) _ rfl (Go.heap_alloc_new _ _) Try.underlying27 rfl (by kernel_rfl)) rfl ⟨rfl, HB.out.alloc (Nat.le_refl _) _⟩
set_option maxHeartbeats 2000000 in
theorem rplan_yes (w : World) (b s k : Int) (h : okPlan b s k = true) : Calls Try.prog 12 #[.int .i64 b, .int .i64 s, .int .i64 k] w fun e w' => e = .returned (.tuple #[planV b s k, .int .i64 0]) ∧ Below w.heap.size w w' := by
  simp only [okPlan, Bool.and_eq_true, decide_eq_true_eq] at h
  obtain ⟨⟨⟨h1, h2⟩, hs⟩, h3, h4⟩ := h
  have H2 := hide fun x => sizes_any x s
  rw [hs] at H2
  obtain ⟨hs1, hs2⟩ := okSz_pos hs
  have H4 := hide fun x => rup_any x b (8 * s) (by omega) (by omega) (by omega) (by omega)
  rw [up_area hs h1] at H4
  have hq := areaB_le hs h1
  unfold planV
  generalize areaB b s = q at *
  have HB := hide (Below.refl w.heap.size w)
  by_cases k8 : k ≤ 8
  · by_cases k4 : k ≤ 4
    · rw [show mring k = 1 by simp [mring, k4]]
      go_enter Try.func12, Try.ntmps12
      go_wp2_with (first
        | (go_at_call 32; refine (H2.out _).mono ?_; rintro e w2 ⟨rfl, rfl⟩)
        | (go_at_call 37; refine (H4.out _).mono ?_; rintro e w2 ⟨rfl, rfl⟩))
      exact bodyPost_ret (results_row_tmp rfl _ _ w.heap.size 27 _ (0, 0) _ rfl (heap_two' _ _ _) Try.underlying27 rfl (by kernel_rfl)) rfl ⟨rfl, (HB.out.alloc (Nat.le_refl _) _).alloc (by simp) _⟩
    · rw [show mring k = 2 by simp [mring, k4, k8]]
      go_enter Try.func12, Try.ntmps12
      go_wp2_with (first
        | (go_at_call 32; refine (H2.out _).mono ?_; rintro e w2 ⟨rfl, rfl⟩)
        | (go_at_call 37; refine (H4.out _).mono ?_; rintro e w2 ⟨rfl, rfl⟩))
      exact bodyPost_ret (results_row_tmp rfl _ _ w.heap.size 27 _ (0, 0) _ rfl (heap_two' _ _ _) Try.underlying27 rfl (by kernel_rfl)) rfl ⟨rfl, (HB.out.alloc (Nat.le_refl _) _).alloc (by simp) _⟩
  · have k4 : ¬ k ≤ 4 := by omega
    rw [show mring k = 4 by simp [mring, k4, k8]]
    go_enter Try.func12, Try.ntmps12
    go_wp2_with (first
      | (go_at_call 32; refine (H2.out _).mono ?_; rintro e w2 ⟨rfl, rfl⟩)
      | (go_at_call 37; refine (H4.out _).mono ?_; rintro e w2 ⟨rfl, rfl⟩))
    exact bodyPost_ret (results_row_tmp rfl _ _ w.heap.size 27 _ (0, 0) _ rfl (heap_two' _ _ _) Try.underlying27 rfl (by kernel_rfl)) rfl ⟨rfl, (HB.out.alloc (Nat.le_refl _) _).alloc (by simp) _⟩
theorem rplan_no (w : World) (b s k : Int) (h : okPlan b s k = false) : Calls Try.prog 12 #[.int .i64 b, .int .i64 s, .int .i64 k] w fun e w' => e = .returned (.tuple #[noPlan, .int .i64 1]) ∧ Below w.heap.size w w' := by
  have H2 := hide fun x => sizes_any x s
  have HB := hide (Below.refl w.heap.size w)
  unfold okPlan at h
  unfold noPlan
  cases h2 : okSz s with
  | false =>
    rw [h2] at H2
    clear h h2
    by_cases b1 : b < 1
    · go_enter Try.func12, Try.ntmps12
      go_wp2_with (first
        | (go_at_call 32; refine (H2.out _).mono ?_; rintro e w2 ⟨rfl, rfl⟩))
      exact bodyPost_ret (results_row_tmp rfl _ _ w.heap.size 27 _ (0, 0) _ rfl (Go.heap_alloc_new _ _) Try.underlying27 rfl (by kernel_rfl)) rfl ⟨rfl, HB.out.alloc (Nat.le_refl _) _⟩
    by_cases b2 : 4096 < b
    · go_enter Try.func12, Try.ntmps12
      go_wp2_with (first
        | (go_at_call 32; refine (H2.out _).mono ?_; rintro e w2 ⟨rfl, rfl⟩))
      exact bodyPost_ret (results_row_tmp rfl _ _ w.heap.size 27 _ (0, 0) _ rfl (Go.heap_alloc_new _ _) Try.underlying27 rfl (by kernel_rfl)) rfl ⟨rfl, HB.out.alloc (Nat.le_refl _) _⟩
    go_enter Try.func12, Try.ntmps12
    go_wp2_with (first
      | (go_at_call 32; refine (H2.out _).mono ?_; rintro e w2 ⟨rfl, rfl⟩))
    exact bodyPost_ret (results_row_tmp rfl _ _ w.heap.size 27 _ (0, 0) _ rfl (Go.heap_alloc_new _ _) Try.underlying27 rfl (by kernel_rfl)) rfl ⟨rfl, HB.out.alloc (Nat.le_refl _) _⟩
  | true =>
    rw [h2] at H2 h
    by_cases b1 : b < 1
    · clear h
      go_enter Try.func12, Try.ntmps12
      go_wp2_with (first
        | (go_at_call 32; refine (H2.out _).mono ?_; rintro e w2 ⟨rfl, rfl⟩))
      exact bodyPost_ret (results_row_tmp rfl _ _ w.heap.size 27 _ (0, 0) _ rfl (Go.heap_alloc_new _ _) Try.underlying27 rfl (by kernel_rfl)) rfl ⟨rfl, HB.out.alloc (Nat.le_refl _) _⟩
    by_cases b2 : 4096 < b
    · clear h
      go_enter Try.func12, Try.ntmps12
      go_wp2_with (first
        | (go_at_call 32; refine (H2.out _).mono ?_; rintro e w2 ⟨rfl, rfl⟩))
      exact bodyPost_ret (results_row_tmp rfl _ _ w.heap.size 27 _ (0, 0) _ rfl (Go.heap_alloc_new _ _) Try.underlying27 rfl (by kernel_rfl)) rfl ⟨rfl, HB.out.alloc (Nat.le_refl _) _⟩
    by_cases k1 : k < 1
    · clear h
      go_enter Try.func12, Try.ntmps12
      go_wp2_with (first
        | (go_at_call 32; refine (H2.out _).mono ?_; rintro e w2 ⟨rfl, rfl⟩))
      exact bodyPost_ret (results_row_tmp rfl _ _ w.heap.size 27 _ (0, 0) _ rfl (Go.heap_alloc_new _ _) Try.underlying27 rfl (by kernel_rfl)) rfl ⟨rfl, HB.out.alloc (Nat.le_refl _) _⟩
    by_cases k2 : 16 < k
    · clear h
      go_enter Try.func12, Try.ntmps12
      go_wp2_with (first
        | (go_at_call 32; refine (H2.out _).mono ?_; rintro e w2 ⟨rfl, rfl⟩))
      exact bodyPost_ret (results_row_tmp rfl _ _ w.heap.size 27 _ (0, 0) _ rfl (Go.heap_alloc_new _ _) Try.underlying27 rfl (by kernel_rfl)) rfl ⟨rfl, HB.out.alloc (Nat.le_refl _) _⟩
    exfalso
    rw [decide_eq_true (by omega), decide_eq_true (by omega)] at h
    cases h
end Go.Proofs.Ytkjaaknlhmneoaa
