import Derived.Test.YtkjaaknlhmneoaaMtArea
import Derived.Deep.RegionWith
namespace Go.Proofs.Ytkjaaknlhmneoaa
open Go.RowKit
set_option linter.unusedVariables false
set_option maxRecDepth 20000

theorem validBlocks_any (w : World) (n : Int) : Calls Try.prog 33 #[.int .i64 n] w fun e w' => e = .returned (.bool (decide (1 ≤ n ∧ n ≤ 4096))) ∧ w' = w := by
  by_cases h1 : 1 ≤ n
  · by_cases h2 : n ≤ 4096
    · rw [decide_eq_true ⟨h1, h2⟩]
      go_enter Try.func33, Try.ntmps33
      go_wp2_with fail
      go_ret
      exact ⟨rfl, rfl⟩
    · rw [decide_eq_false (by omega)]
      go_enter Try.func33, Try.ntmps33
      go_wp2_with fail
      go_ret
      exact ⟨rfl, rfl⟩
  · rw [decide_eq_false (by omega)]
    go_enter Try.func33, Try.ntmps33
    go_wp2_with fail
    go_ret
    exact ⟨rfl, rfl⟩
theorem validSlots_any (w : World) (n : Int) : Calls Try.prog 34 #[.int .i64 n] w fun e w' => e = .returned (.bool (decide (1 ≤ n ∧ n ≤ 16))) ∧ w' = w := by
  by_cases h1 : 1 ≤ n
  · by_cases h2 : n ≤ 16
    · rw [decide_eq_true ⟨h1, h2⟩]
      go_enter Try.func34, Try.ntmps34
      go_wp2_with fail
      go_ret
      exact ⟨rfl, rfl⟩
    · rw [decide_eq_false (by omega)]
      go_enter Try.func34, Try.ntmps34
      go_wp2_with fail
      go_ret
      exact ⟨rfl, rfl⟩
  · rw [decide_eq_false (by omega)]
    go_enter Try.func34, Try.ntmps34
    go_wp2_with fail
    go_ret
    exact ⟨rfl, rfl⟩
def mring (n : Int) : Int := if n ≤ 4 then 1 else if n ≤ 8 then 2 else 4
theorem mring_le (n : Int) : 1 ≤ mring n ∧ mring n ≤ 4 := by unfold mring; (repeat' split) <;> omega
theorem mring_room {n : Int} (h : n ≤ 16) : n ≤ 4 * mring n := by unfold mring; (repeat' split) <;> omega
theorem ringBlocks_any (w : World) (n : Int) : Calls Try.prog 36 #[.int .i64 n] w fun e w' => e = .returned (.int .i64 (mring n)) ∧ w' = w := by
  unfold mring
  by_cases h4 : n ≤ 4
  · rw [if_pos h4]
    go_enter Try.func36, Try.ntmps36
    go_wp2_with fail
    go_ret
    exact ⟨rfl, rfl⟩
  · rw [if_neg h4]
    by_cases h8 : n ≤ 8
    · rw [if_pos h8]
      go_enter Try.func36, Try.ntmps36
      go_wp2_with fail
      go_ret
      exact ⟨rfl, rfl⟩
    · rw [if_neg h8]
      go_enter Try.func36, Try.ntmps36
      go_wp2_with fail
      go_ret
      exact ⟨rfl, rfl⟩
def areaB (n s : Int) : Int := (n - 1) / (8 * s) + 1
theorem areaB_le {n s : Int} (hs : okSz s = true) (h1 : 1 ≤ n) : 1 ≤ areaB n s ∧ areaB n s ≤ n := by
  obtain ⟨a, b⟩ := okSz_pos hs
  have hd : 0 ≤ (n - 1) / (8 * s) := Int.ediv_nonneg (by omega) (by omega)
  have hd2 : (n - 1) / (8 * s) ≤ n - 1 := Int.ediv_le_self _ (by omega)
  unfold areaB
  omega
theorem areaBlocks_any (w : World) (n s : Int) (hs : okSz s = true) (h1 : 1 ≤ n) (h2 : n ≤ 65536) : Calls Try.prog 35 #[.int .i64 n, .int .i64 s] w fun e w' => e = .returned (.int .i64 (areaB n s)) ∧ w' = w := by
  have HB := hide (blockOfBit_any w (n - 1) s hs (by omega) (by omega))
  have hd := areaB_le hs h1
  unfold areaB at *
  generalize (n - 1) / (8 * s) = q at *
  go_enter Try.func35, Try.ntmps35
  go_wp2_with (first
    | (go_at_call 31; refine HB.out.mono ?_; rintro e w2 ⟨rfl, rfl⟩))
  go_ret
  exact ⟨rfl, rfl⟩
theorem up_area {n s : Int} (hs : okSz s = true) (h1 : 1 ≤ n) : (n + 8 * s - 1) / (8 * s) = areaB n s := by
  obtain ⟨a, b⟩ := okSz_pos hs
  unfold areaB
  rw [show n + 8 * s - 1 = n - 1 + 8 * s by omega, Int.add_ediv_of_dvd_right (Int.dvd_refl _), Int.ediv_self (by omega)]
theorem rup_any (w : World) (a b : Int) (ha : 0 ≤ a) (hb : 1 ≤ b) (ha2 : a ≤ 65536) (hb2 : b ≤ 8192) : Calls Try.prog 37 #[.int .i64 a, .int .i64 b] w fun e w' => e = .returned (.int .i64 ((a + b - 1) / b)) ∧ w' = w := by
  have hd : 0 ≤ (a + b - 1) / b := Int.ediv_nonneg (by omega) (by omega)
  have hd2 : (a + b - 1) / b ≤ a + b - 1 := Int.ediv_le_self _ (by omega)
  have hz : ¬ b = 0 := by omega
  have ht : (a + b - 1).tdiv b = (a + b - 1) / b := Int.tdiv_eq_ediv_of_nonneg (by omega)
  go_enter Try.func37, Try.ntmps37
  go_wp2_with fail
  go_ret
  exact ⟨by simp, rfl⟩
def planV (b s k : Int) : Value := .agg #[.int .i64 b, .int .i64 s, .int .i64 k, .int .i64 b, .int .i64 (areaB b s), .int .i64 (b + areaB b s), .int .i64 (mring k), .int .i64 (b + areaB b s + mring k), .int .i64 (b + areaB b s + mring k + 2)]
def noPlan : Value := .agg #[.int .i64 0, .int .i64 0, .int .i64 0, .int .i64 0, .int .i64 0, .int .i64 0, .int .i64 0, .int .i64 0, .int .i64 0]
def okPlan (b s k : Int) : Bool := decide (1 ≤ b ∧ b ≤ 4096) && okSz s && decide (1 ≤ k ∧ k ≤ 16)
set_option maxHeartbeats 2000000 in
theorem plan_yes (w : World) (b s k : Int) (h : okPlan b s k = true) : Calls Try.prog 11 #[.int .i64 b, .int .i64 s, .int .i64 k] w fun e w' => e = .returned (.tuple #[planV b s k, .int .i64 0]) ∧ Below w.heap.size w w' := by
  simp only [okPlan, Bool.and_eq_true, decide_eq_true_eq] at h
  obtain ⟨⟨⟨h1, h2⟩, hs⟩, h3, h4⟩ := h
  have H1 := hide fun x => validBlocks_any x b
  have H2 := hide fun x => validSize_any x s
  have H3 := hide fun x => validSlots_any x k
  rw [decide_eq_true ⟨h1, h2⟩] at H1
  rw [hs] at H2
  rw [decide_eq_true ⟨h3, h4⟩] at H3
  have H4 := hide fun x => areaBlocks_any x b s hs h1 (by omega)
  have H5 := hide fun x => ringBlocks_any x k
  have hq := areaB_le hs h1
  have hr := mring_le k
  unfold planV
  generalize areaB b s = q at *
  generalize mring k = r at *
  have HB := hide (Below.refl w.heap.size w)
  go_enter Try.func11, Try.ntmps11
  go_wp2_with (first
    | (go_at_call 33; refine (H1.out _).mono ?_; rintro e w2 ⟨rfl, rfl⟩)
    | (go_at_call 30; refine (H2.out _).mono ?_; rintro e w2 ⟨rfl, rfl⟩)
    | (go_at_call 34; refine (H3.out _).mono ?_; rintro e w2 ⟨rfl, rfl⟩)
    | (go_at_call 35; refine (H4.out _).mono ?_; rintro e w2 ⟨rfl, rfl⟩)
    | (go_at_call 36; refine (H5.out _).mono ?_; rintro e w2 ⟨rfl, rfl⟩))
  go_region_with (go_at_call 36; refine (H5.out _).mono ?_; rintro e w2 ⟨rfl, rfl⟩)
  all_goals go_wp2_with fail
  all_goals exact bodyPost_ret (results_row_tmp rfl _ _ w.heap.size 27 _ (0, 0) _ rfl (heap_two _ _ _) Try.underlying27 rfl (by kernel_rfl)) rfl ⟨rfl, ((HB.out.alloc (Nat.le_refl _) _).alloc (by simp) _).drew⟩
end Go.Proofs.Ytkjaaknlhmneoaa
