import Derived.Test.YtepgiomgkgfioaaDoorMtValid
namespace Go.Proofs.YtepgiomgkgfioaaDoor
open Go.RowKit
set_option linter.unusedVariables false
set_option maxRecDepth 20000

/-- a superblock -/
structure Sup where
  seq : Nat
  blocks : Int
  size : Int
  slots : Int
  g0 : Nat
  g1 : Nat
  g2 : Nat
  g3 : Nat
  flags : Nat
  mark : Int
def Sup.row (s : Sup) : Array Value := #[.int .u64 (s.seq : Int), .int .i64 s.blocks, .int .i64 s.size, .int .i64 s.slots, .int .u64 (s.g0 : Int), .int .u64 (s.g1 : Int), .int .u64 (s.g2 : Int), .int .u64 (s.g3 : Int), .int .u32 (s.flags : Int), .int .i64 s.mark]
def Sup.val (s : Sup) : Value := .agg s.row
def Sup.Wf (s : Sup) : Prop := s.seq < 18446744073709551616 ∧ s.g0 < 18446744073709551616 ∧ s.g1 < 18446744073709551616 ∧ s.g2 < 18446744073709551616 ∧ s.g3 < 18446744073709551616 ∧ s.flags < 4294967296 ∧ (-9223372036854775808 ≤ s.blocks ∧ s.blocks ≤ 9223372036854775807) ∧ (-9223372036854775808 ≤ s.size ∧ s.size ≤ 9223372036854775807) ∧ (-9223372036854775808 ≤ s.slots ∧ s.slots ≤ 9223372036854775807) ∧ (-9223372036854775808 ≤ s.mark ∧ s.mark ≤ 9223372036854775807)
def Sup.ok (s : Sup) : Bool := decide (1 ≤ s.seq ∧ s.seq ≤ 4611686018427387904) && decide (1 ≤ s.blocks ∧ s.blocks ≤ 4096) && okSz s.size && decide (1 ≤ s.slots ∧ s.slots ≤ 16) && decide (s.flags ≤ 15) && decide (0 ≤ s.mark ∧ s.mark ≤ s.blocks)
theorem flags_and (n : Nat) (h : n < 4294967296) : (bits BinOp.andNot IntKind.u32 (n : Int) 15 == 0) = decide (n ≤ 15) := by
  have e := u32_andNot_nat n 15 h (by decide)
  rw [show ((15 : Nat) : Int) = 15 from rfl] at e
  rw [e]
  have hx : (n &&& 4294967280) / 16 = n / 16 := by
    have h1 := Nat.shiftRight_and_distrib (i := 4) (a := n) (b := 4294967280)
    rw [Nat.shiftRight_eq_div_pow, Nat.shiftRight_eq_div_pow, Nat.shiftRight_eq_div_pow] at h1
    rw [show (4294967280 : Nat) / 2 ^ 4 = 2 ^ 28 - 1 by decide, Nat.and_two_pow_sub_one_eq_mod] at h1
    rw [show (16 : Nat) = 2 ^ 4 by decide, h1]
    omega
  by_cases hn : n ≤ 15
  · rw [decide_eq_true hn]
    have hz : n &&& 4294967280 = 0 := by
      have : ∀ m, m < 16 → m &&& 4294967280 = 0 := by decide
      exact this n (by omega)
    simp [hz]
  · rw [decide_eq_false hn]
    have hz : n &&& 4294967280 ≠ 0 := fun e => by rw [e] at hx; omega
    simpa using hz
set_option maxHeartbeats 2000000 in
theorem validSuper_any (w : World) (s : Sup) (hw : s.Wf) : Calls Tryd.prog 17 #[s.val] w fun e w' => e = .returned (.bool s.ok) ∧ Below w.heap.size w w' := by
  obtain ⟨q, b, z, k, g0, g1, g2, g3, f, m⟩ := s
  have hf := flags_and f hw.2.2.2.2.2.1
  have hq := hw.1
  clear hw
  have H1 := hide fun x => validBlocks_any x b
  have H2 := hide fun x => validSize_any x z
  have H3 := hide fun x => validSlots_any x k
  have HB := hide (Below.refl w.heap.size w)
  unfold Sup.val Sup.row Sup.ok
  dsimp only
  by_cases c1 : 1 ≤ q
  case neg =>
    rw [decide_eq_false (p := 1 ≤ q ∧ q ≤ 4611686018427387904) (by omega)]
    clear hf
    simp only [Bool.false_and]
    go_enter Tryd.func17, Tryd.ntmps17
    go_wp2_with (first
      | (go_at_call 28; refine (H1.out _).mono ?_; rintro e w2 ⟨rfl, rfl⟩)
      | (go_at_call 29; refine (H2.out _).mono ?_; rintro e w2 ⟨rfl, rfl⟩)
      | (go_at_call 30; refine (H3.out _).mono ?_; rintro e w2 ⟨rfl, rfl⟩))
    go_ret
    exact ⟨by first | rfl | (show Ending.returned (.bool (decide (m ≤ b))) = _; rw [decide_eq_false (by omega)]), HB.out.alloc (Nat.le_refl _) _⟩
  by_cases c2 : q ≤ 4611686018427387904
  case neg =>
    rw [decide_eq_false (p := 1 ≤ q ∧ q ≤ 4611686018427387904) (by omega)]
    clear hf
    simp only [Bool.false_and]
    go_enter Tryd.func17, Tryd.ntmps17
    go_wp2_with (first
      | (go_at_call 28; refine (H1.out _).mono ?_; rintro e w2 ⟨rfl, rfl⟩)
      | (go_at_call 29; refine (H2.out _).mono ?_; rintro e w2 ⟨rfl, rfl⟩)
      | (go_at_call 30; refine (H3.out _).mono ?_; rintro e w2 ⟨rfl, rfl⟩))
    go_ret
    exact ⟨by first | rfl | (show Ending.returned (.bool (decide (m ≤ b))) = _; rw [decide_eq_false (by omega)]), HB.out.alloc (Nat.le_refl _) _⟩
  rw [decide_eq_true (p := 1 ≤ q ∧ q ≤ 4611686018427387904) (by omega)]
  simp only [Bool.true_and]
  cases c3 : decide (1 ≤ b ∧ b ≤ 4096) with
  | false =>
    rw [c3] at H1
    clear hf c3
    simp only [Bool.false_and]
    go_enter Tryd.func17, Tryd.ntmps17
    go_wp2_with (first
      | (go_at_call 28; refine (H1.out _).mono ?_; rintro e w2 ⟨rfl, rfl⟩)
      | (go_at_call 29; refine (H2.out _).mono ?_; rintro e w2 ⟨rfl, rfl⟩)
      | (go_at_call 30; refine (H3.out _).mono ?_; rintro e w2 ⟨rfl, rfl⟩))
    go_ret
    exact ⟨by first | rfl | (show Ending.returned (.bool (decide (m ≤ b))) = _; rw [decide_eq_false (by omega)]), HB.out.alloc (Nat.le_refl _) _⟩
  | true =>
    rw [c3] at H1
    clear c3
    simp only [Bool.true_and]
    cases c4 : okSz z with
    | false =>
      rw [c4] at H2
      clear hf c4
      simp only [Bool.false_and]
      go_enter Tryd.func17, Tryd.ntmps17
      go_wp2_with (first
        | (go_at_call 28; refine (H1.out _).mono ?_; rintro e w2 ⟨rfl, rfl⟩)
        | (go_at_call 29; refine (H2.out _).mono ?_; rintro e w2 ⟨rfl, rfl⟩)
        | (go_at_call 30; refine (H3.out _).mono ?_; rintro e w2 ⟨rfl, rfl⟩))
      go_ret
      exact ⟨by first | rfl | (show Ending.returned (.bool (decide (m ≤ b))) = _; rw [decide_eq_false (by omega)]), HB.out.alloc (Nat.le_refl _) _⟩
    | true =>
      rw [c4] at H2
      clear c4
      simp only [Bool.true_and]
      cases c5 : decide (1 ≤ k ∧ k ≤ 16) with
      | false =>
        rw [c5] at H3
        clear hf c5
        simp only [Bool.false_and]
        go_enter Tryd.func17, Tryd.ntmps17
        go_wp2_with (first
          | (go_at_call 28; refine (H1.out _).mono ?_; rintro e w2 ⟨rfl, rfl⟩)
          | (go_at_call 29; refine (H2.out _).mono ?_; rintro e w2 ⟨rfl, rfl⟩)
          | (go_at_call 30; refine (H3.out _).mono ?_; rintro e w2 ⟨rfl, rfl⟩))
        go_ret
        exact ⟨by first | rfl | (show Ending.returned (.bool (decide (m ≤ b))) = _; rw [decide_eq_false (by omega)]), HB.out.alloc (Nat.le_refl _) _⟩
      | true =>
        rw [c5] at H3
        clear c5
        simp only [Bool.true_and]
        cases c6 : decide (f ≤ 15) with
        | false =>
          rw [c6] at hf
          simp only [Bool.false_and]
          go_enter Tryd.func17, Tryd.ntmps17
          go_wp2_with (first
            | (go_at_call 28; refine (H1.out _).mono ?_; rintro e w2 ⟨rfl, rfl⟩)
            | (go_at_call 29; refine (H2.out _).mono ?_; rintro e w2 ⟨rfl, rfl⟩)
            | (go_at_call 30; refine (H3.out _).mono ?_; rintro e w2 ⟨rfl, rfl⟩))
          go_ret
          exact ⟨by first | rfl | (show Ending.returned (.bool (decide (m ≤ b))) = _; rw [decide_eq_false (by omega)]), HB.out.alloc (Nat.le_refl _) _⟩
        | true =>
          rw [c6] at hf
          simp only [Bool.true_and]
          by_cases c7 : 0 ≤ m
          · by_cases c8 : m ≤ b
            · rw [decide_eq_true (p := 0 ≤ m ∧ m ≤ b) (by omega)]
              go_enter Tryd.func17, Tryd.ntmps17
              go_wp2_with (first
                | (go_at_call 28; refine (H1.out _).mono ?_; rintro e w2 ⟨rfl, rfl⟩)
                | (go_at_call 29; refine (H2.out _).mono ?_; rintro e w2 ⟨rfl, rfl⟩)
                | (go_at_call 30; refine (H3.out _).mono ?_; rintro e w2 ⟨rfl, rfl⟩))
              go_ret
              exact ⟨by first | rfl | (show Ending.returned (.bool (decide (m ≤ b))) = _; rw [decide_eq_false (by omega)]), HB.out.alloc (Nat.le_refl _) _⟩
            · rw [decide_eq_false (p := 0 ≤ m ∧ m ≤ b) (by omega)]
              go_enter Tryd.func17, Tryd.ntmps17
              go_wp2_with (first
                | (go_at_call 28; refine (H1.out _).mono ?_; rintro e w2 ⟨rfl, rfl⟩)
                | (go_at_call 29; refine (H2.out _).mono ?_; rintro e w2 ⟨rfl, rfl⟩)
                | (go_at_call 30; refine (H3.out _).mono ?_; rintro e w2 ⟨rfl, rfl⟩))
              go_ret
              exact ⟨by first | rfl | (show Ending.returned (.bool (decide (m ≤ b))) = _; rw [decide_eq_false (by omega)]), HB.out.alloc (Nat.le_refl _) _⟩
          · rw [decide_eq_false (p := 0 ≤ m ∧ m ≤ b) (by omega)]
            go_enter Tryd.func17, Tryd.ntmps17
            go_wp2_with (first
              | (go_at_call 28; refine (H1.out _).mono ?_; rintro e w2 ⟨rfl, rfl⟩)
              | (go_at_call 29; refine (H2.out _).mono ?_; rintro e w2 ⟨rfl, rfl⟩)
              | (go_at_call 30; refine (H3.out _).mono ?_; rintro e w2 ⟨rfl, rfl⟩))
            go_ret
            exact ⟨by first | rfl | (show Ending.returned (.bool (decide (m ≤ b))) = _; rw [decide_eq_false (by omega)]), HB.out.alloc (Nat.le_refl _) _⟩
end Go.Proofs.YtepgiomgkgfioaaDoor
