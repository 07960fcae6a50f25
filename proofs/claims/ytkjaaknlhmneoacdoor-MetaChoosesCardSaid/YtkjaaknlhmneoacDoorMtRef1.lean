import Derived.Test.YtkjaaknlhmneoacDoorMtRef0
namespace Go.Proofs.YtkjaaknlhmneoacDoor
open Go.RowKit Go.Lib
set_option linter.unusedVariables false
set_option linter.unusedSimpArgs false
set_option maxRecDepth 20000

set_option maxHeartbeats 2000000 in
theorem fit_any (w : World) (s : Sup) (hw : s.Wf) : Calls Tryd.prog 29 #[s.val] w fun e w' => e = .returned (.bool s.ok) ∧ Below w.heap.size w w' := by
  obtain ⟨q, b, z, k, g0, g1, g2, g3, f, m⟩ := s
  have hf := hw.2.2.2.2.2.1
  have hq := hw.1
  clear hw
  have H2 := hide fun x => sizes_any x z
  have HB := hide (Below.refl w.heap.size w)
  unfold Sup.val Sup.row Sup.ok
  dsimp only at *
  by_cases c1 : 1 ≤ q
  case neg =>
    rw [decide_eq_false (p := 1 ≤ q ∧ q ≤ 4611686018427387904) (by omega)]
    simp only [Bool.false_and]
    go_enter Tryd.func29, Tryd.ntmps29
    go_wp2_with (go_at_call 24; refine (H2.out _).mono ?_; rintro e w2 ⟨rfl, rfl⟩)
    go_ret
    exact ⟨by first | rfl | (show Ending.returned (.bool (decide (m ≤ b))) = _; rw [decide_eq_false (by omega)]), HB.out.alloc (Nat.le_refl _) _⟩
  by_cases c2 : q ≤ 4611686018427387904
  case neg =>
    rw [decide_eq_false (p := 1 ≤ q ∧ q ≤ 4611686018427387904) (by omega)]
    simp only [Bool.false_and]
    go_enter Tryd.func29, Tryd.ntmps29
    go_wp2_with (go_at_call 24; refine (H2.out _).mono ?_; rintro e w2 ⟨rfl, rfl⟩)
    go_ret
    exact ⟨by first | rfl | (show Ending.returned (.bool (decide (m ≤ b))) = _; rw [decide_eq_false (by omega)]), HB.out.alloc (Nat.le_refl _) _⟩
  rw [decide_eq_true (p := 1 ≤ q ∧ q ≤ 4611686018427387904) (by omega)]
  simp only [Bool.true_and]
  by_cases c3 : 1 ≤ b
  case neg =>
    rw [decide_eq_false (p := 1 ≤ b ∧ b ≤ 4096) (by omega)]
    simp only [Bool.false_and]
    go_enter Tryd.func29, Tryd.ntmps29
    go_wp2_with (go_at_call 24; refine (H2.out _).mono ?_; rintro e w2 ⟨rfl, rfl⟩)
    go_ret
    exact ⟨by first | rfl | (show Ending.returned (.bool (decide (m ≤ b))) = _; rw [decide_eq_false (by omega)]), HB.out.alloc (Nat.le_refl _) _⟩
  by_cases c5 : b ≤ 4096
  case neg =>
    rw [decide_eq_false (p := 1 ≤ b ∧ b ≤ 4096) (by omega)]
    simp only [Bool.false_and]
    go_enter Tryd.func29, Tryd.ntmps29
    go_wp2_with (go_at_call 24; refine (H2.out _).mono ?_; rintro e w2 ⟨rfl, rfl⟩)
    go_ret
    exact ⟨by first | rfl | (show Ending.returned (.bool (decide (m ≤ b))) = _; rw [decide_eq_false (by omega)]), HB.out.alloc (Nat.le_refl _) _⟩
  rw [decide_eq_true (p := 1 ≤ b ∧ b ≤ 4096) (by omega)]
  simp only [Bool.true_and]
  by_cases c6 : 1 ≤ k
  case neg =>
    rw [decide_eq_false (p := 1 ≤ k ∧ k ≤ 16) (by omega)]
    simp only [Bool.false_and, Bool.and_false]
    go_enter Tryd.func29, Tryd.ntmps29
    go_wp2_with (go_at_call 24; refine (H2.out _).mono ?_; rintro e w2 ⟨rfl, rfl⟩)
    go_ret
    exact ⟨by first | rfl | (show Ending.returned (.bool (decide (m ≤ b))) = _; rw [decide_eq_false (by omega)]), HB.out.alloc (Nat.le_refl _) _⟩
  by_cases c7 : k ≤ 16
  case neg =>
    rw [decide_eq_false (p := 1 ≤ k ∧ k ≤ 16) (by omega)]
    simp only [Bool.false_and, Bool.and_false]
    go_enter Tryd.func29, Tryd.ntmps29
    go_wp2_with (go_at_call 24; refine (H2.out _).mono ?_; rintro e w2 ⟨rfl, rfl⟩)
    go_ret
    exact ⟨by first | rfl | (show Ending.returned (.bool (decide (m ≤ b))) = _; rw [decide_eq_false (by omega)]), HB.out.alloc (Nat.le_refl _) _⟩
  rw [decide_eq_true (p := 1 ≤ k ∧ k ≤ 16) (by omega)]
  simp only [Bool.and_true]
  cases c4 : okSz z with
  | false =>
    rw [c4] at H2
    clear c4
    simp only [Bool.false_and]
    go_enter Tryd.func29, Tryd.ntmps29
    go_wp2_with (go_at_call 24; refine (H2.out _).mono ?_; rintro e w2 ⟨rfl, rfl⟩)
    go_ret
    exact ⟨by first | rfl | (show Ending.returned (.bool (decide (m ≤ b))) = _; rw [decide_eq_false (by omega)]), HB.out.alloc (Nat.le_refl _) _⟩
  | true =>
    rw [c4] at H2
    clear c4
    simp only [Bool.true_and]
    by_cases c8 : f ≤ 15
    case neg =>
      rw [decide_eq_false c8]
      simp only [Bool.false_and]
      go_enter Tryd.func29, Tryd.ntmps29
      go_wp2_with (go_at_call 24; refine (H2.out _).mono ?_; rintro e w2 ⟨rfl, rfl⟩)
      go_ret
      exact ⟨by first | rfl | (show Ending.returned (.bool (decide (m ≤ b))) = _; rw [decide_eq_false (by omega)]), HB.out.alloc (Nat.le_refl _) _⟩
    rw [decide_eq_true c8]
    simp only [Bool.true_and]
    by_cases c9 : 0 ≤ m
    · by_cases ca : m ≤ b
      · rw [decide_eq_true (p := 0 ≤ m ∧ m ≤ b) (by omega)]
        go_enter Tryd.func29, Tryd.ntmps29
        go_wp2_with (go_at_call 24; refine (H2.out _).mono ?_; rintro e w2 ⟨rfl, rfl⟩)
        go_ret
        exact ⟨by first | rfl | (show Ending.returned (.bool (decide (m ≤ b))) = _; rw [decide_eq_false (by omega)]), HB.out.alloc (Nat.le_refl _) _⟩
      · rw [decide_eq_false (p := 0 ≤ m ∧ m ≤ b) (by omega)]
        go_enter Tryd.func29, Tryd.ntmps29
        go_wp2_with (go_at_call 24; refine (H2.out _).mono ?_; rintro e w2 ⟨rfl, rfl⟩)
        go_ret
        exact ⟨by first | rfl | (show Ending.returned (.bool (decide (m ≤ b))) = _; rw [decide_eq_false (by omega)]), HB.out.alloc (Nat.le_refl _) _⟩
    · rw [decide_eq_false (p := 0 ≤ m ∧ m ≤ b) (by omega)]
      go_enter Tryd.func29, Tryd.ntmps29
      go_wp2_with (go_at_call 24; refine (H2.out _).mono ?_; rintro e w2 ⟨rfl, rfl⟩)
      go_ret
      exact ⟨by first | rfl | (show Ending.returned (.bool (decide (m ≤ b))) = _; rw [decide_eq_false (by omega)]), HB.out.alloc (Nat.le_refl _) _⟩
end Go.Proofs.YtkjaaknlhmneoacDoor
