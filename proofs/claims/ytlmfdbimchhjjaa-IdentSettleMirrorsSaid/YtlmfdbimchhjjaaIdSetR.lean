import Derived.Test.YtlmfdbimchhjjaaIdVer
namespace Go.Proofs.Ytlmfdbimchhjjaa
open Go.RowKit
set_option linter.unusedVariables false
set_option linter.unusedSimpArgs false
set_option maxRecDepth 20000

theorem rsettle_badK (w : World) (k r o p : Int) (h : okK k = false) : Calls Try.prog 11 #[vd k r, .int .i64 o, .int .i64 p] w fun e w' => e = .returned (setV (setl k r o p)) ∧ Below w.heap.size w w' := by
  have HB := hide (Below.refl w.heap.size w)
  have hn : ¬ (0 ≤ k ∧ k ≤ 7) := by simpa [okK] using h
  rw [show setl k r o p = (0, 0, 1) by simp [setl, h]]
  clear h
  unfold setV vd
  by_cases h1 : k < 0
  · clear hn
    go_enter Try.func11, Try.ntmps11
    go_wp2_with fail
    all_goals
      exact bodyPost_ret (results_row_tmp rfl _ _ (w.heap.size + 1) 26 _ (0, 0) _ rfl (by first | exact heap_snd _ _ _ | exact heap_snd4 _ _ _ _ _) Try.underlying26 rfl (by kernel_rfl)) rfl ⟨by first | rfl | simp, by first | exact ⟨_, _, rfl⟩ | exact bl2 HB.out _ _ | exact bl4 HB.out _ _ _ _⟩
  · have h2 : 7 < k := by omega
    clear hn
    go_enter Try.func11, Try.ntmps11
    go_wp2_with fail
    all_goals
      exact bodyPost_ret (results_row_tmp rfl _ _ (w.heap.size + 1) 26 _ (0, 0) _ rfl (by first | exact heap_snd _ _ _ | exact heap_snd4 _ _ _ _ _) Try.underlying26 rfl (by kernel_rfl)) rfl ⟨by first | rfl | simp, by first | exact ⟨_, _, rfl⟩ | exact bl2 HB.out _ _ | exact bl4 HB.out _ _ _ _⟩
theorem rsettle_badD (w : World) (k r o p : Int) (h1 : okK k = true) (h : okD o = false ∨ okD p = false) : Calls Try.prog 11 #[vd k r, .int .i64 o, .int .i64 p] w fun e w' => e = .returned (setV (setl k r o p)) ∧ Below w.heap.size w w' := by
  have HB := hide (Below.refl w.heap.size w)
  have hk : 0 ≤ k ∧ k ≤ 7 := by simpa [okK] using h1
  have hn : ¬ (0 ≤ o ∧ o ≤ 2) ∨ ¬ (0 ≤ p ∧ p ≤ 2) := by simpa [okD] using h
  rw [show setl k r o p = (0, 0, 61) by simp [setl, h1, h]]
  clear h h1
  obtain ⟨hk1, hk2⟩ := hk
  have n1 : ¬ k < 0 := by omega
  have n2 : ¬ 7 < k := by omega
  unfold setV vd
  by_cases c1 : o < 0
  · clear hn
    go_enter Try.func11, Try.ntmps11
    go_wp2_with fail
    all_goals
      exact bodyPost_ret (results_row_tmp rfl _ _ (w.heap.size + 1) 26 _ (0, 0) _ rfl (by first | exact heap_snd _ _ _ | exact heap_snd4 _ _ _ _ _) Try.underlying26 rfl (by kernel_rfl)) rfl ⟨by first | rfl | simp, by first | exact ⟨_, _, rfl⟩ | exact bl2 HB.out _ _ | exact bl4 HB.out _ _ _ _⟩
  by_cases c2 : 2 < o
  · clear hn
    go_enter Try.func11, Try.ntmps11
    go_wp2_with fail
    all_goals
      exact bodyPost_ret (results_row_tmp rfl _ _ (w.heap.size + 1) 26 _ (0, 0) _ rfl (by first | exact heap_snd _ _ _ | exact heap_snd4 _ _ _ _ _) Try.underlying26 rfl (by kernel_rfl)) rfl ⟨by first | rfl | simp, by first | exact ⟨_, _, rfl⟩ | exact bl2 HB.out _ _ | exact bl4 HB.out _ _ _ _⟩
  by_cases c3 : p < 0
  · clear hn
    go_enter Try.func11, Try.ntmps11
    go_wp2_with fail
    all_goals
      exact bodyPost_ret (results_row_tmp rfl _ _ (w.heap.size + 1) 26 _ (0, 0) _ rfl (by first | exact heap_snd _ _ _ | exact heap_snd4 _ _ _ _ _) Try.underlying26 rfl (by kernel_rfl)) rfl ⟨by first | rfl | simp, by first | exact ⟨_, _, rfl⟩ | exact bl2 HB.out _ _ | exact bl4 HB.out _ _ _ _⟩
  have c4 : 2 < p := by omega
  clear hn
  go_enter Try.func11, Try.ntmps11
  go_wp2_with fail
  all_goals
    exact bodyPost_ret (results_row_tmp rfl _ _ (w.heap.size + 1) 26 _ (0, 0) _ rfl (by first | exact heap_snd _ _ _ | exact heap_snd4 _ _ _ _ _) Try.underlying26 rfl (by kernel_rfl)) rfl ⟨by first | rfl | simp, by first | exact ⟨_, _, rfl⟩ | exact bl2 HB.out _ _ | exact bl4 HB.out _ _ _ _⟩
set_option maxHeartbeats 4000000 in
theorem rsettle_good (w : World) (k r o p : Int) (h1 : okK k = true) (h2 : okD o = true) (h3 : okD p = true) : Calls Try.prog 11 #[vd k r, .int .i64 o, .int .i64 p] w fun e w' => e = .returned (setV (setl k r o p)) ∧ Below w.heap.size w w' := by
  have HB := hide (Below.refl w.heap.size w)
  rcases okK_cases h1 with rfl | rfl | rfl | rfl | rfl | rfl | rfl | rfl <;> rcases okD_cases h2 with rfl | rfl | rfl <;> rcases okD_cases h3 with rfl | rfl | rfl
  all_goals
    clear h1 h2 h3
    unfold vd at *
    go_enter Try.func11, Try.ntmps11
    go_wp2_with fail
    exact bodyPost_ret (results_row_tmp rfl _ _ (w.heap.size + 1) 26 _ (0, 0) _ rfl (by first | exact heap_snd _ _ _ | exact heap_snd4 _ _ _ _ _) Try.underlying26 rfl (by kernel_rfl)) rfl ⟨by first | rfl | simp, by first | exact ⟨_, _, rfl⟩ | exact bl2 HB.out _ _ | exact bl4 HB.out _ _ _ _⟩
theorem rsettle_any (w : World) (k r o p : Int) : Calls Try.prog 11 #[vd k r, .int .i64 o, .int .i64 p] w fun e w' => e = .returned (setV (setl k r o p)) ∧ Below w.heap.size w w' := by
  cases h1 : okK k with
  | false => exact rsettle_badK w k r o p h1
  | true =>
    cases h2 : okD o with
    | false => exact rsettle_badD w k r o p h1 (Or.inl h2)
    | true =>
      cases h3 : okD p with
      | false => exact rsettle_badD w k r o p h1 (Or.inr h3)
      | true => exact rsettle_good w k r o p h1 h2 h3
end Go.Proofs.Ytlmfdbimchhjjaa
