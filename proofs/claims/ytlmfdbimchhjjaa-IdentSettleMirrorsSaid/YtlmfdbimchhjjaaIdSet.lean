import Derived.Test.YtlmfdbimchhjjaaIdVer
namespace Go.Proofs.Ytlmfdbimchhjjaa
open Go.RowKit
set_option linter.unusedVariables false
set_option linter.unusedSimpArgs false
set_option maxRecDepth 20000

theorem settle_bad (w : World) (k r o p : Int) (h : okK k = false ∨ okD o = false ∨ okD p = false) : Calls Try.prog 10 #[vd k r, .int .i64 o, .int .i64 p] w fun e w' => e = .returned (setV (setl k r o p)) ∧ Below w.heap.size w w' := by
  have H1 := hide fun w => validKind_any w k
  have H2 := hide fun w => validDisk_any w o
  have H3 := hide fun w => validDisk_any w p
  have HB := hide (Below.refl w.heap.size w)
  cases h1 : okK k with
  | false =>
    rw [h1] at H1
    rw [show setl k r o p = (0, 0, 1) by simp [setl, h1]]
    clear h h1
    unfold setV vd
    go_enter Try.func10, Try.ntmps10
    go_wp2_with (first
      | (go_at_call 29; refine (H1.out _).mono ?_; rintro e w2 ⟨rfl, rfl⟩))
    all_goals
      exact bodyPost_ret (results_row_tmp rfl _ _ (w.heap.size + 1) 26 _ (0, 0) _ rfl (by first | exact heap_snd _ _ _ | exact heap_snd4 _ _ _ _ _) Try.underlying26 rfl (by kernel_rfl)) rfl ⟨by first | rfl | simp, by first | exact ⟨_, _, rfl⟩ | exact bl2 HB.out _ _ | exact bl4 HB.out _ _ _ _⟩
  | true =>
    rw [h1] at H1
    cases h2 : okD o with
    | false =>
      rw [h2] at H2
      rw [show setl k r o p = (0, 0, 61) by simp [setl, h1, h2]]
      clear h h1 h2
      unfold setV vd
      go_enter Try.func10, Try.ntmps10
      go_wp2_with (first
        | (go_at_call 29; refine (H1.out _).mono ?_; rintro e w2 ⟨rfl, rfl⟩)
        | (go_at_call 30; refine (H2.out _).mono ?_; rintro e w2 ⟨rfl, rfl⟩)
        | (go_at_call 30; refine (H3.out _).mono ?_; rintro e w2 ⟨rfl, rfl⟩))
      all_goals
        exact bodyPost_ret (results_row_tmp rfl _ _ (w.heap.size + 1) 26 _ (0, 0) _ rfl (by first | exact heap_snd _ _ _ | exact heap_snd4 _ _ _ _ _) Try.underlying26 rfl (by kernel_rfl)) rfl ⟨by first | rfl | simp, by first | exact ⟨_, _, rfl⟩ | exact bl2 HB.out _ _ | exact bl4 HB.out _ _ _ _⟩
    | true =>
      rw [h2] at H2
      have h3 : okD p = false := by simpa [h1, h2] using h
      rw [h3] at H3
      rw [show setl k r o p = (0, 0, 61) by simp [setl, h1, h3]]
      clear h h1 h2 h3
      unfold setV vd
      go_enter Try.func10, Try.ntmps10
      go_wp2_with (first
        | (go_at_call 29; refine (H1.out _).mono ?_; rintro e w2 ⟨rfl, rfl⟩)
        | (go_at_call 30; (with_reducible refine (H2.out _).mono ?_); rintro e w2 ⟨rfl, rfl⟩)
        | (go_at_call 30; (with_reducible refine (H3.out _).mono ?_); rintro e w2 ⟨rfl, rfl⟩))
      all_goals
        exact bodyPost_ret (results_row_tmp rfl _ _ (w.heap.size + 1) 26 _ (0, 0) _ rfl (by first | exact heap_snd _ _ _ | exact heap_snd4 _ _ _ _ _) Try.underlying26 rfl (by kernel_rfl)) rfl ⟨by first | rfl | simp, by first | exact ⟨_, _, rfl⟩ | exact bl2 HB.out _ _ | exact bl4 HB.out _ _ _ _⟩
set_option maxHeartbeats 4000000 in
theorem settle_good (w : World) (k r o p : Int) (h1 : okK k = true) (h2 : okD o = true) (h3 : okD p = true) : Calls Try.prog 10 #[vd k r, .int .i64 o, .int .i64 p] w fun e w' => e = .returned (setV (setl k r o p)) ∧ Below w.heap.size w w' := by
  have H1 := hide validKind_any
  have H2 := hide validDisk_any
  have H3 := hide settleSource_any
  have H4 := hide fun w k r => settleW_yes w k r
  have H5 := hide fun w k r => settleW_no w k r
  have HB := hide (Below.refl w.heap.size w)
  unfold okK at H1
  unfold okD at H2
  rcases okK_cases h1 with rfl | rfl | rfl | rfl | rfl | rfl | rfl | rfl <;> rcases okD_cases h2 with rfl | rfl | rfl <;> rcases okD_cases h3 with rfl | rfl | rfl
  all_goals
    clear h1 h2 h3
    unfold vd at *
    go_enter Try.func10, Try.ntmps10
    go_wp2_with (first
      | (go_at_call 29; refine (H1.out _ _).mono ?_; rintro e w2 ⟨rfl, rfl⟩)
      | (go_at_call 30; refine (H2.out _ _).mono ?_; rintro e w2 ⟨rfl, rfl⟩)
      | (go_at_call 32; refine (H3.out _ _ _ _).mono ?_; rintro e w2 ⟨rfl, X, Y, rfl⟩)
      | (go_at_call 31; refine (H4.out _ _ _ rfl).mono ?_; rintro e w2 ⟨rfl, X, Y, rfl⟩)
      | (go_at_call 31; refine (H5.out _ _ _ rfl).mono ?_; rintro e w2 ⟨rfl, X, Y, rfl⟩))
    exact bodyPost_ret (results_row_tmp rfl _ _ (w.heap.size + 1) 26 _ (0, 0) _ rfl (by first | exact heap_snd _ _ _ | exact heap_snd4 _ _ _ _ _) Try.underlying26 rfl (by kernel_rfl)) rfl ⟨by first | rfl | simp, by first | exact ⟨_, _, rfl⟩ | exact bl2 HB.out _ _ | exact bl4 HB.out _ _ _ _⟩
end Go.Proofs.Ytlmfdbimchhjjaa
