import Derived.Test.YtkjaaknlhmneoaaMtRb
import Derived.Test.YtkjaaknlhmneoaaMtPlan
namespace Go.Proofs.Ytkjaaknlhmneoaa
open Go.RowKit
open Num
set_option linter.unusedVariables false
set_option linter.unusedSimpArgs false
set_option maxRecDepth 20000

theorem rpack_bad (w : World) (n s : Int) (v : Value) (h : (okSz s && (decide (1 ≤ n) && decide (n ≤ 65536))) = false) : Calls Try.prog 22 #[.int .i64 n, v, .int .i64 s] w fun e w' => e = .returned (.tuple #[.slice none 0 0, .int .i64 1]) ∧ w' = w := by
  have HD := hide fun x => domain_any x n s
  rw [h] at HD
  clear h
  go_enter Try.func22, Try.ntmps22
  go_wp2_with (go_at_call 46; refine (HD.out _).mono ?_; rintro e w1 ⟨rfl, hw1⟩; have hws := hw1.symm; clear hw1; subst hws)
  (try simp only [Exit.inBlock, Exit.then]); refine bodyPost_ret (results_tmp2 rfl _ _ _) rfl ?_
  exact ⟨rfl, rfl⟩
theorem rpack_size (w : World) (n s : Nat) (v : Value) (ws : List Nat) (hv : USl w v ws) (hs : okSz (s : Int) = true) (h1 : 1 ≤ n) (h2 : n ≤ 65536) (hl : ¬ ws.length = (n + 63) / 64) : Calls Try.prog 22 #[.int .i64 (n : Int), v, .int .i64 (s : Int)] w fun e w' => e = .returned (.tuple #[.slice none 0 0, .int .i64 3]) ∧ w' = w := by
  have HD := hide fun x => domain_any x (n : Int) (s : Int)
  rw [hs, decide_eq_true (by omega), decide_eq_true (by omega)] at HD
  have HU := hide fun x => rup_any x (n : Int) 64 (by omega) (by omega) (by omega) (by omega)
  rw [show ((n : Int) + 64 - 1) / 64 = (((n + 63) / 64 : Nat) : Int) by omega] at HU
  obtain ⟨a, cap, rfl, q1, q2, q3, q4⟩ := hv
  clear q3 q4
  unfold maxLen at q2
  generalize (n + 63) / 64 = L at *
  generalize ws.length = K at *
  have hne : ((K : Int) != (L : Int)) = true := by simp; omega
  go_enter Try.func22, Try.ntmps22
  go_wp2_with (first
    | (go_at_call 46; refine (HD.out _).mono ?_; rintro e w1 ⟨rfl, hw1⟩; have hws := hw1.symm; clear hw1; subst hws)
    | (go_at_call 37; refine (HU.out _).mono ?_; rintro e w1 ⟨rfl, hw1⟩; have hws := hw1.symm; clear hw1; subst hws))
  (try simp only [Exit.inBlock, Exit.then]); refine bodyPost_ret (results_tmp2 rfl _ _ _) rfl ?_
  exact ⟨rfl, rfl⟩
/-- a last word at or above the mask has a bit there -/
theorem over_bit {n : Nat} {ws : List Nat} (hl : ws.length = (n + 63) / 64) (h1 : 1 ≤ n) (hb : ∀ i, i < ws.length → ws.getD i 0 < 18446744073709551616) (h : ¬ ws.getD ((n + 63) / 64 - 1) 0 < 2 ^ lr n) : ∃ j, n ≤ j ∧ j < 64 * ws.length ∧ wbit ws j = true := by
  have h6 := hb ((n + 63) / 64 - 1) (by omega)
  have hex : ∃ k, lr n ≤ k ∧ (ws.getD ((n + 63) / 64 - 1) 0).testBit k = true := Classical.byContradiction fun hn => h (Nat.lt_pow_two_of_testBit _ fun i hi => by
    cases e : (ws.getD ((n + 63) / 64 - 1) 0).testBit i with
    | false => rfl
    | true => exact absurd ⟨i, hi, e⟩ hn)
  obtain ⟨k, hk, hkb⟩ := hex
  have hk6 : k < 64 := Classical.byContradiction fun hn => by
    have := Nat.testBit_lt_two_pow (x := ws.getD ((n + 63) / 64 - 1) 0) (i := k) (Nat.lt_of_lt_of_le h6 (show 18446744073709551616 ≤ 2 ^ k from Nat.pow_le_pow_right (n := 2) (i := 64) (by decide) (by omega)))
    rw [this] at hkb
    cases hkb
  have hlr : n ≤ 64 * ((n + 63) / 64 - 1) + lr n := by unfold lr lmS; omega
  refine ⟨64 * ((n + 63) / 64 - 1) + k, by omega, by omega, ?_⟩
  unfold wbit
  rw [show (64 * ((n + 63) / 64 - 1) + k) / 64 = (n + 63) / 64 - 1 by omega, show (64 * ((n + 63) / 64 - 1) + k) % 64 = k by omega]
  exact hkb
set_option maxHeartbeats 1000000 in
theorem rpack_range (w : World) (n s : Nat) (v : Value) (ws : List Nat) (hv : USl w v ws) (hs : okSz (s : Int) = true) (h1 : 1 ≤ n) (h2 : n ≤ 65536) (hl : ws.length = (n + 63) / 64) (hx : ∃ j, n ≤ j ∧ j < 64 * ws.length ∧ wbit ws j = true) : Calls Try.prog 22 #[.int .i64 (n : Int), v, .int .i64 (s : Int)] w fun e w' => e = .returned (.tuple #[.slice none 0 0, .int .i64 2]) ∧ w' = w := by
  have HD := hide fun x => domain_any x (n : Int) (s : Int)
  rw [hs, decide_eq_true (by omega), decide_eq_true (by omega)] at HD
  have HU := hide fun x => rup_any x (n : Int) 64 (by omega) (by omega) (by omega) (by omega)
  rw [show ((n : Int) + 64 - 1) / 64 = (((n + 63) / 64 : Nat) : Int) by omega] at HU
  have HBT : Hid (∀ i, i < 64 * ws.length → Calls Try.prog 47 #[v, .int .i64 (i : Int)] w fun e w' => e = .returned (.bool (wbit ws i)) ∧ w' = w) := hide fun i hi => bit_any w v ws hv i (by omega) (by omega)
  obtain ⟨j, hj1, hj2, hj3⟩ := hx
  have HJ : Hid (∀ i, i ≤ 64 * ws.length → (∀ k, n ≤ k → k < i → wbit ws k = false) → i < 64 * ws.length) := hide fun i hi h => Classical.byContradiction fun hn => by
    rw [h j hj1 (by omega)] at hj3
    cases hj3
  have hnl : n ≤ 64 * ws.length := by omega
  have hLb : ws.length ≤ 1024 := by omega
  clear hj1 hj2 hj3
  obtain ⟨a, cap, rfl, q1, q2, q3, q4⟩ := hv
  clear q3 q4
  unfold maxLen at q2
  rw [← hl] at HU
  clear hl
  generalize ws.length = L at *
  have hne : ((L : Int) != (L : Int)) = false := by simp
  go_enter Try.func22, Try.ntmps22
  go_wp2_with (first
    | (go_at_call 46; refine (HD.out _).mono ?_; rintro e w1 ⟨rfl, hw1⟩; have hws := hw1.symm; clear hw1; subst hws)
    | (go_at_call 37; refine (HU.out _).mono ?_; rintro e w1 ⟨rfl, hw1⟩; have hws := hw1.symm; clear hw1; subst hws))
  go_loopw [9] (fun x wr => ∃ i : Nat, n ≤ i ∧ i ≤ 64 * L ∧ x = .int .i64 (i : Int) ∧ wr = w ∧ ∀ k, n ≤ k → k < i → wbit ws k = false) (fun x _ => 64 * L - (intOf x).toNat)
  case atStart => exact ⟨n, Nat.le_refl _, hnl, rfl, rfl, fun k _ _ => by omega⟩
  case round =>
    obtain ⟨i, hi1, hi2, rfl, hwr, hz⟩ := hrel
    have hws := hwr.symm
    subst hws
    clear hwr
    have hlt := HJ.out i hi2 hz
    have HZ := hide hz
    clear hz
    have HB := hide (HBT.out i hlt)
    cases hbb : wbit ws i with
    | true =>
      rw [hbb] at HB
      clear HZ HJ HBT
      go_wp2_with (go_at_call 47; refine HB.out.mono ?_; rintro e w1 ⟨rfl, hw1⟩; have hws := hw1.symm; clear hw1; subst hws)
      (try simp only [Exit.inBlock, Exit.then]); refine bodyPost_ret (results_tmp2 rfl _ _ _) rfl ?_
      exact ⟨rfl, rfl⟩
    | false =>
      rw [hbb] at HB
      have HZ2 : Hid (∀ k, n ≤ k → k < i + 1 → wbit ws k = false) := hide fun k hk1 hk2 => by
        by_cases e : k = i
        · rw [e]; exact hbb
        · exact HZ.out k hk1 (by omega)
      clear HZ HJ HBT hbb
      go_wp2_with (go_at_call 47; refine HB.out.mono ?_; rintro e w1 ⟨rfl, hw1⟩; have hws := hw1.symm; clear hw1; subst hws)
      go_roundw
      case rel => exact ⟨i + 1, by omega, by omega, by go_num, by trivial, HZ2.out⟩
      case measure => simp [intOf]; omega
end Go.Proofs.Ytkjaaknlhmneoaa
