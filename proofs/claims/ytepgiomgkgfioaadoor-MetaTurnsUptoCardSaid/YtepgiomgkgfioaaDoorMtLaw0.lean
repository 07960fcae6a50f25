import Derived.Test.YtepgiomgkgfioaaDoorMtMath
namespace Go.Proofs.YtepgiomgkgfioaaDoor
open Go.RowKit Go.Lib
set_option linter.unusedVariables false
set_option linter.unusedSimpArgs false
set_option maxRecDepth 20000

set_option maxHeartbeats 1000000 in
theorem eqlS (s : Sup) (w : World) : (binOp .eql 27 s.val s.val).run Tryd.prog w = .ok (.bool true) w := by
  have h1 := Tryd.underlying27
  have h2 := Tryd.underlying24
  have h3 := Tryd.underlying22
  have h4 := Tryd.underlying25
  have h5 := Tryd.underlying3
  unfold Sup.val Sup.row
  go_simp
theorem unseal_any (w : World) (v : Value) (l : List Nat) (hv : BSl w v l) (hT : Tabs w) : Calls Tryd.prog 27 #[v] w fun e w' => UnsPost w l e w' := by
  cases hs : okSz l.length with
  | false => exact unseal_size w v l hv hs
  | true =>
    have hp := okSz_pos hs
    have hv' := hv
    obtain ⟨a, cap, rfl, h1, h2, h3, h4, h5⟩ := hv'
    obtain ⟨b, off, rfl, hd⟩ := h5 (by omega)
    have hm : l.length = (l.length - 32) + 32 := by omega
    generalize hk : l.length - 32 = m at hm
    rw [hm] at hv hs ⊢
    exact unseal_ok w b off m cap l hv hm hd hs hT
set_option maxHeartbeats 2000000 in
theorem lawful_any (w : World) (s : Sup) (hw : s.Wf) : Calls Tryd.prog 4 #[s.val] w fun e w' => e = .returned (.bool s.ok) ∧ Below w.heap.size w w' := by
  obtain ⟨q, b, z, k, g0, g1, g2, g3, f, m⟩ := s
  have hf := hw.2.2.2.2.2.1
  have hq := hw.1
  clear hw
  have H2 := hide fun x => sized_any x z
  have HB := hide (Below.refl w.heap.size w)
  unfold Sup.val Sup.row Sup.ok
  dsimp only at *
  cases c4 : okSz z with
  | false =>
    rw [c4] at H2
    clear c4
    simp only [Bool.and_false, Bool.false_and]
    go_enter Tryd.func4, Tryd.ntmps4
    go_wp2_with (go_at_call 13; refine (H2.out _).mono ?_; rintro e w2 ⟨rfl, rfl⟩)
    go_ret
    exact ⟨by first | rfl | (show Ending.returned (.bool (decide (m ≤ b))) = _; rw [decide_eq_false (by omega)]), HB.out.alloc (Nat.le_refl _) _⟩
  | true =>
    rw [c4] at H2
    clear c4
    by_cases c1 : 1 ≤ q
    case neg =>
      rw [decide_eq_false (p := 1 ≤ q ∧ q ≤ 4611686018427387904) (by omega)]
      simp only [Bool.false_and]
      go_enter Tryd.func4, Tryd.ntmps4
      go_wp2_with (go_at_call 13; refine (H2.out _).mono ?_; rintro e w2 ⟨rfl, rfl⟩)
      go_ret
      exact ⟨by first | rfl | (show Ending.returned (.bool (decide (m ≤ b))) = _; rw [decide_eq_false (by omega)]), HB.out.alloc (Nat.le_refl _) _⟩
    by_cases c2 : q ≤ 4611686018427387904
    case neg =>
      rw [decide_eq_false (p := 1 ≤ q ∧ q ≤ 4611686018427387904) (by omega)]
      simp only [Bool.false_and]
      go_enter Tryd.func4, Tryd.ntmps4
      go_wp2_with (go_at_call 13; refine (H2.out _).mono ?_; rintro e w2 ⟨rfl, rfl⟩)
      go_ret
      exact ⟨by first | rfl | (show Ending.returned (.bool (decide (m ≤ b))) = _; rw [decide_eq_false (by omega)]), HB.out.alloc (Nat.le_refl _) _⟩
    rw [decide_eq_true (p := 1 ≤ q ∧ q ≤ 4611686018427387904) (by omega)]
    simp only [Bool.true_and]
    by_cases c3 : 1 ≤ b
    case neg =>
      rw [decide_eq_false (p := 1 ≤ b ∧ b ≤ 4096) (by omega)]
      simp only [Bool.false_and]
      go_enter Tryd.func4, Tryd.ntmps4
      go_wp2_with (go_at_call 13; refine (H2.out _).mono ?_; rintro e w2 ⟨rfl, rfl⟩)
      go_ret
      exact ⟨by first | rfl | (show Ending.returned (.bool (decide (m ≤ b))) = _; rw [decide_eq_false (by omega)]), HB.out.alloc (Nat.le_refl _) _⟩
    by_cases c5 : b ≤ 4096
    case neg =>
      rw [decide_eq_false (p := 1 ≤ b ∧ b ≤ 4096) (by omega)]
      simp only [Bool.false_and]
      go_enter Tryd.func4, Tryd.ntmps4
      go_wp2_with (go_at_call 13; refine (H2.out _).mono ?_; rintro e w2 ⟨rfl, rfl⟩)
      go_ret
      exact ⟨by first | rfl | (show Ending.returned (.bool (decide (m ≤ b))) = _; rw [decide_eq_false (by omega)]), HB.out.alloc (Nat.le_refl _) _⟩
    rw [decide_eq_true (p := 1 ≤ b ∧ b ≤ 4096) (by omega)]
    simp only [Bool.true_and]
    by_cases c6 : 1 ≤ k
    case neg =>
      rw [decide_eq_false (p := 1 ≤ k ∧ k ≤ 16) (by omega)]
      simp only [Bool.false_and]
      go_enter Tryd.func4, Tryd.ntmps4
      go_wp2_with (go_at_call 13; refine (H2.out _).mono ?_; rintro e w2 ⟨rfl, rfl⟩)
      go_ret
      exact ⟨by first | rfl | (show Ending.returned (.bool (decide (m ≤ b))) = _; rw [decide_eq_false (by omega)]), HB.out.alloc (Nat.le_refl _) _⟩
    by_cases c7 : k ≤ 16
    case neg =>
      rw [decide_eq_false (p := 1 ≤ k ∧ k ≤ 16) (by omega)]
      simp only [Bool.false_and]
      go_enter Tryd.func4, Tryd.ntmps4
      go_wp2_with (go_at_call 13; refine (H2.out _).mono ?_; rintro e w2 ⟨rfl, rfl⟩)
      go_ret
      exact ⟨by first | rfl | (show Ending.returned (.bool (decide (m ≤ b))) = _; rw [decide_eq_false (by omega)]), HB.out.alloc (Nat.le_refl _) _⟩
    rw [decide_eq_true (p := 1 ≤ k ∧ k ≤ 16) (by omega)]
    simp only [Bool.true_and]
    by_cases c8 : f ≤ 15
    case neg =>
      rw [decide_eq_false c8]
      simp only [Bool.false_and]
      go_enter Tryd.func4, Tryd.ntmps4
      go_wp2_with (go_at_call 13; refine (H2.out _).mono ?_; rintro e w2 ⟨rfl, rfl⟩)
      go_ret
      exact ⟨by first | rfl | (show Ending.returned (.bool (decide (m ≤ b))) = _; rw [decide_eq_false (by omega)]), HB.out.alloc (Nat.le_refl _) _⟩
    rw [decide_eq_true c8]
    simp only [Bool.true_and]
    by_cases c9 : 0 ≤ m
    · by_cases ca : m ≤ b
      · rw [decide_eq_true (p := 0 ≤ m ∧ m ≤ b) (by omega)]
        go_enter Tryd.func4, Tryd.ntmps4
        go_wp2_with (go_at_call 13; refine (H2.out _).mono ?_; rintro e w2 ⟨rfl, rfl⟩)
        go_ret
        exact ⟨by first | rfl | (show Ending.returned (.bool (decide (m ≤ b))) = _; rw [decide_eq_false (by omega)]), HB.out.alloc (Nat.le_refl _) _⟩
      · rw [decide_eq_false (p := 0 ≤ m ∧ m ≤ b) (by omega)]
        go_enter Tryd.func4, Tryd.ntmps4
        go_wp2_with (go_at_call 13; refine (H2.out _).mono ?_; rintro e w2 ⟨rfl, rfl⟩)
        go_ret
        exact ⟨by first | rfl | (show Ending.returned (.bool (decide (m ≤ b))) = _; rw [decide_eq_false (by omega)]), HB.out.alloc (Nat.le_refl _) _⟩
    · rw [decide_eq_false (p := 0 ≤ m ∧ m ≤ b) (by omega)]
      go_enter Tryd.func4, Tryd.ntmps4
      go_wp2_with (go_at_call 13; refine (H2.out _).mono ?_; rintro e w2 ⟨rfl, rfl⟩)
      go_ret
      exact ⟨by first | rfl | (show Ending.returned (.bool (decide (m ≤ b))) = _; rw [decide_eq_false (by omega)]), HB.out.alloc (Nat.le_refl _) _⟩
end Go.Proofs.YtepgiomgkgfioaaDoor
