import Derived.Test.YtlmfdbimchhjjaaIdRef
namespace Go.Proofs.Ytlmfdbimchhjjaa
open Go.RowKit
set_option linter.unusedVariables false
set_option linter.unusedSimpArgs false
set_option maxRecDepth 20000

theorem rres_1 (w : World) (k r n s0 s1 s2 ro rp mo mp fo fp : Int) (h : okK k = false ∨ ¬ (n = 0 ∨ n = 1) ∨ mo < 0 ∨ mp < 0) : Calls Try.prog 17 #[vd k r, .int .i64 n, .int .i64 s0, .int .i64 s1, .int .i64 s2, .int .i64 ro, .int .i64 rp, .int .i64 mo, .int .i64 mp, .int .u32 fo, .int .u32 fp] w fun e w' => e = .returned (setV (resv k r n s0 s1 s2 ro rp mo mp (fd fo) (fd fp))) ∧ Below w.heap.size w w' := by
  have H1 := hide fun w => wrong_1 w k r n s0 s1 s2 ro rp mo mp h
  rw [show resv k r n s0 s1 s2 ro rp mo mp (fd fo) (fd fp) = (0, 0, 1) by unfold resv; rw [if_pos h]]
  clear h
  unfold setV vd at *
  dsimp only at *
  go_enter Try.func17, Try.ntmps17
  go_wp2_with (first
    | (go_at_call 34; refine (H1.out _).mono ?_; rintro e w2 ⟨rfl, X, rfl⟩))
  all_goals
    exact bodyPost_ret (results_row_tmp rfl _ _ (w.heap.size + 1) 26 _ (0, 0) _ rfl (heap_snd3 _ _ _ _) Try.underlying26 rfl (by kernel_rfl)) rfl ⟨by first | rfl | simp, bl3 (Below.refl w.heap.size w) _ _ _⟩
theorem rres_61 (w : World) (k r n s0 s1 s2 ro rp mo mp fo fp : Int) (g1 : okK k = true) (g2 : n = 0 ∨ n = 1) (g3 : ¬ mo < 0) (g4 : ¬ mp < 0) (h : okP s0 s1 s2 = false ∨ okR ro = false ∨ okR rp = false) : Calls Try.prog 17 #[vd k r, .int .i64 n, .int .i64 s0, .int .i64 s1, .int .i64 s2, .int .i64 ro, .int .i64 rp, .int .i64 mo, .int .i64 mp, .int .u32 fo, .int .u32 fp] w fun e w' => e = .returned (setV (resv k r n s0 s1 s2 ro rp mo mp (fd fo) (fd fp))) ∧ Below w.heap.size w w' := by
  have q1 : 0 ≤ k ∧ k ≤ 7 := by simpa [okK] using g1
  have n1 : ¬ k < 0 := by omega
  have n2 : ¬ 7 < k := by omega
  have n3 : ¬ n < 0 := by omega
  have n4 : ¬ 1 < n := by omega
  have H1 := hide fun w => wrong_61 w k r n s0 s1 s2 ro rp mo mp n1 n2 n3 n4 g3 g4 h
  rw [show resv k r n s0 s1 s2 ro rp mo mp (fd fo) (fd fp) = (0, 0, 61) by unfold resv; rw [if_neg (by simp [g1, g2]; omega), if_pos h]]
  clear h g1 g2 g3 g4 q1 n1 n2 n3 n4
  unfold setV vd at *
  dsimp only at *
  go_enter Try.func17, Try.ntmps17
  go_wp2_with (first
    | (go_at_call 34; refine (H1.out _).mono ?_; rintro e w2 ⟨rfl, X, rfl⟩))
  all_goals
    exact bodyPost_ret (results_row_tmp rfl _ _ (w.heap.size + 1) 26 _ (0, 0) _ rfl (heap_snd3 _ _ _ _) Try.underlying26 rfl (by kernel_rfl)) rfl ⟨by first | rfl | simp, bl3 (Below.refl w.heap.size w) _ _ _⟩
theorem rres_C (w : World) (k r n s0 s1 s2 ro rp mo mp fo fp : Int) (g1 : okK k = true) (g2 : n = 0 ∨ n = 1) (g3 : ¬ mo < 0) (g4 : ¬ mp < 0) (g5 : okP s0 s1 s2 = true) (g6 : okR ro = true) (g7 : okR rp = true) (h : isSp k = false) : Calls Try.prog 17 #[vd k r, .int .i64 n, .int .i64 s0, .int .i64 s1, .int .i64 s2, .int .i64 ro, .int .i64 rp, .int .i64 mo, .int .i64 mp, .int .u32 fo, .int .u32 fp] w fun e w' => e = .returned (setV (resv k r n s0 s1 s2 ro rp mo mp (fd fo) (fd fp))) ∧ Below w.heap.size w w' := by
  have q1 : 0 ≤ k ∧ k ≤ 7 := by simpa [okK] using g1
  have n1 : ¬ k < 0 := by omega
  have n2 : ¬ 7 < k := by omega
  have n3 : ¬ n < 0 := by omega
  have n4 : ¬ 1 < n := by omega
  have H1 := hide fun w => wrong_0 w k r n s0 s1 s2 ro rp mo mp n1 n2 n3 n4 g3 g4 g5 g6 g7
  rw [show resv k r n s0 s1 s2 ro rp mo mp (fd fo) (fd fp) = (k, r, 0) by unfold resv; rw [if_neg (by simp [g1, g2]; omega), if_neg (by simp [g5, g6, g7]), if_pos h]]
  have h5 : (k != 5) = true := bne_iff_ne.2 fun e => by simp [isSp, e] at h
  have h6 : (k != 6) = true := bne_iff_ne.2 fun e => by simp [isSp, e] at h
  clear h g1 g2 g3 g4 g5 g6 g7 q1 n1 n2 n3 n4
  unfold setV vd at *
  dsimp only at *
  go_enter Try.func17, Try.ntmps17
  go_wp2_with (first
    | (go_at_call 34; refine (H1.out _).mono ?_; rintro e w2 ⟨rfl, X, rfl⟩))
  all_goals
    exact bodyPost_ret (results_row_tmp rfl _ _ (w.heap.size + 1) 26 _ (0, 0) _ rfl (heap_snd3 _ _ _ _) Try.underlying26 rfl (by kernel_rfl)) rfl ⟨by first | rfl | simp, bl3 (Below.refl w.heap.size w) _ _ _⟩
end Go.Proofs.Ytlmfdbimchhjjaa
