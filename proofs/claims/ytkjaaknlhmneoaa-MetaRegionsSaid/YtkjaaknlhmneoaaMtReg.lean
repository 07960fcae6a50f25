import Derived.Test.YtkjaaknlhmneoaaMtPlan3
import Derived.Test.YtkjaaknlhmneoaaDNewT
namespace Go.Proofs.Ytkjaaknlhmneoaa
open Go.RowKit
set_option linter.unusedVariables false
set_option maxRecDepth 20000

def NewOk (w : World) (e : Ending) (w' : World) : Prop := ∃ p : Addr, e = .returned (.tuple #[.pointer (some p), .int .i64 0]) ∧ Below w.heap.size w w'
theorem knew_any (w : World) (n s : Int) (hs : okSz s = true) (h1 : 1 ≤ n) (h2 : n ≤ 8192) : Calls Try.prog 14 #[.int .i64 n, .int .i64 s] w fun e w' => NewOk w e w' := by
  obtain ⟨m, rfl⟩ : ∃ m : Nat, n = m := ⟨n.toNat, by omega⟩
  obtain ⟨z, rfl⟩ : ∃ z : Nat, s = z := ⟨s.toNat, by have := okSz_pos hs; omega⟩
  refine (K.New_any w m z (by omega) (by omega) (by have := okSz_cases hs; omega)).mono ?_
  rintro e w' ⟨L, rfl, -, hb, -⟩
  exact ⟨_, rfl, hb⟩
set_option maxHeartbeats 2000000 in
theorem regions_yes (w : World) (b s k : Int) (h : okPlan b s k = true) : Calls Try.prog 5 #[.int .i64 b, .int .i64 s, .int .i64 k] w fun e w' => e = .returned (.bool true) ∧ Below w.heap.size w w' := by
  have H1 := hide fun x => plan_yes x b s k h
  simp only [okPlan, Bool.and_eq_true, decide_eq_true_eq] at h
  obtain ⟨⟨⟨h1, h2⟩, hs⟩, h3, h4⟩ := h
  have H2 := hide fun x => sized_any x s
  rw [hs] at H2
  have H3 := hide fun x => area_any x (b - 1) s
  rw [show areaN (b - 1) s = areaB b s - 1 by unfold areaN areaB; rw [if_pos ⟨hs, by omega, by omega⟩]; omega, show areaE (b - 1) s = 0 by unfold areaE; rw [if_neg (by simp [hs]), if_pos ⟨by omega, by omega⟩]] at H3
  have hq := areaB_le hs h1
  have hr := mring_le k
  have hk := mring_room h4
  have hq2 : areaB b s ≤ 4 := by
    have := okSz_pos hs
    unfold areaB
    have := Int.ediv_le_ediv (a := b - 1) (b := 4095) (c := 8 * s) (by omega) (by omega)
    have h9 : (4095 : Int) / (8 * s) ≤ 4095 / 1024 := by
      rcases okSz_cases hs with rfl | rfl | rfl | rfl <;> decide
    omega
  have H4 := hide fun x => knew_any x (b + areaB b s + mring k + 2) s hs (by omega) (by omega)
  unfold planV at H1
  generalize areaB b s = q at *
  generalize mring k = r at *
  have HB := hide (Below.refl w.heap.size w)
  have hsz := hide hs
  clear hs
  go_enter Try.func5, Try.ntmps5
  go_wp2_with (first
    | (go_at_call 11; refine (H1.out _).mono ?_; rintro e w2 ⟨rfl, hb2⟩; have HB2 := hide hb2; clear hb2)
    | (go_at_call 13; refine (H2.out _).mono ?_; rintro e w5 ⟨rfl, rfl⟩)
    | (go_at_call 9; refine (H3.out _).mono ?_; rintro e w5 ⟨rfl, rfl⟩)
    | (go_at_call 14; refine (H4.out _).mono ?_; rintro e w3 ⟨p, rfl, hb3⟩; have HB3 := hide hb3; clear hb3))
  have hz2 := HB2.out.size
  have hb4 := (HB2.out.alloc hz2 _).trans (HB3.out.mono (by rw [World.size_alloc]; omega))
  go_ret
  exact ⟨rfl, hb4⟩
set_option maxHeartbeats 2000000 in
theorem regions_no (w : World) (b s k : Int) (h : okPlan b s k = false) : Calls Try.prog 5 #[.int .i64 b, .int .i64 s, .int .i64 k] w fun e w' => e = .returned (.bool true) ∧ Below w.heap.size w w' := by
  have H1 := hide fun x => plan_no x b s k h
  unfold noPlan at H1
  have H2 := hide fun x => sized_any x s
  unfold okPlan at h
  cases h2 : okSz s with
  | false =>
    rw [h2] at H2
    clear h h2
    go_enter Try.func5, Try.ntmps5
    go_wp2_with (first
      | (go_at_call 11; refine (H1.out _).mono ?_; rintro e w2 ⟨rfl, hb2⟩; have HB2 := hide hb2; clear hb2)
      | (go_at_call 13; refine (H2.out _).mono ?_; rintro e w5 ⟨rfl, rfl⟩))
    go_ret
    exact ⟨rfl, HB2.out.alloc HB2.out.size _⟩
  | true =>
    rw [h2] at H2 h
    by_cases b1 : b < 1
    · clear h
      go_enter Try.func5, Try.ntmps5
      go_wp2_with (first
        | (go_at_call 11; refine (H1.out _).mono ?_; rintro e w2 ⟨rfl, hb2⟩; have HB2 := hide hb2; clear hb2)
        | (go_at_call 13; refine (H2.out _).mono ?_; rintro e w5 ⟨rfl, rfl⟩))
      go_ret
      exact ⟨rfl, HB2.out.alloc HB2.out.size _⟩
    by_cases b2 : 4096 < b
    · clear h
      go_enter Try.func5, Try.ntmps5
      go_wp2_with (first
        | (go_at_call 11; refine (H1.out _).mono ?_; rintro e w2 ⟨rfl, hb2⟩; have HB2 := hide hb2; clear hb2)
        | (go_at_call 13; refine (H2.out _).mono ?_; rintro e w5 ⟨rfl, rfl⟩))
      go_ret
      exact ⟨rfl, HB2.out.alloc HB2.out.size _⟩
    by_cases k1 : k < 1
    · clear h
      go_enter Try.func5, Try.ntmps5
      go_wp2_with (first
        | (go_at_call 11; refine (H1.out _).mono ?_; rintro e w2 ⟨rfl, hb2⟩; have HB2 := hide hb2; clear hb2)
        | (go_at_call 13; refine (H2.out _).mono ?_; rintro e w5 ⟨rfl, rfl⟩))
      go_ret
      exact ⟨rfl, HB2.out.alloc HB2.out.size _⟩
    by_cases k2 : 16 < k
    · clear h
      go_enter Try.func5, Try.ntmps5
      go_wp2_with (first
        | (go_at_call 11; refine (H1.out _).mono ?_; rintro e w2 ⟨rfl, hb2⟩; have HB2 := hide hb2; clear hb2)
        | (go_at_call 13; refine (H2.out _).mono ?_; rintro e w5 ⟨rfl, rfl⟩))
      go_ret
      exact ⟨rfl, HB2.out.alloc HB2.out.size _⟩
    exfalso
    rw [decide_eq_true (by omega), decide_eq_true (by omega)] at h
    cases h
theorem regionsLaw (w : World) (b s k : Int) : Calls Try.prog 5 #[.int .i64 b, .int .i64 s, .int .i64 k] w fun e w' => e = .returned (.bool true) ∧ Below w.heap.size w w' := by
  cases h : okPlan b s k with
  | true => exact regions_yes w b s k h
  | false => exact regions_no w b s k h
end Go.Proofs.Ytkjaaknlhmneoaa
