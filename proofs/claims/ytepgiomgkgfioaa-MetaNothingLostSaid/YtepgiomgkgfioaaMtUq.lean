import Derived.Test.YtepgiomgkgfioaaMtSb
namespace Go.Proofs.Ytepgiomgkgfioaa
open Go.RowKit
open Num
set_option linter.unusedVariables false
set_option linter.unusedSimpArgs false
set_option maxRecDepth 20000

theorem areaB_nat {n s : Nat} (h1 : 1 ≤ n) : areaB (n : Int) (s : Int) = (((n - 1) / (8 * s) + 1 : Nat) : Int) := by
  unfold areaB
  rw [Int.natCast_add, Int.natCast_ediv, Int.natCast_mul]
  congr 2
  omega
theorem unpack_bad (w : World) (n s : Int) (v : Value) (h : (decide (1 ≤ n) && decide (n ≤ 65536)) = false ∨ okSz s = false) : Calls Try.prog 14 #[.int .i64 n, v, .int .i64 s] w fun e w' => e = .returned (.tuple #[.slice none 0 0, .bool false, .int .i64 1]) ∧ w' = w := by
  have HVB := hide fun x => validBits_any x n
  have HVS := hide fun x => validSize_any x s
  cases hb : (decide (1 ≤ n) && decide (n ≤ 65536)) with
  | false =>
    rw [hb] at HVB
    clear h hb
    go_enter Try.func14, Try.ntmps14
    go_wp2_with (first
      | (go_at_call 22; refine (HVB.out _).mono ?_; rintro e w1 ⟨rfl, hw1⟩; have hws := hw1.symm; clear hw1; subst hws))
    (try simp only [Exit.inBlock, Exit.then]); refine bodyPost_ret (results_tmp3 rfl _ _ _) rfl ?_
    exact ⟨rfl, rfl⟩
  | true =>
    rw [hb] at HVB
    have hs : okSz s = false := h.resolve_left (by rw [hb]; simp)
    rw [hs] at HVS
    clear h hb
    go_enter Try.func14, Try.ntmps14
    go_wp2_with (first
      | (go_at_call 22; refine (HVB.out _).mono ?_; rintro e w1 ⟨rfl, hw1⟩; have hws := hw1.symm; clear hw1; subst hws)
      | (go_at_call 23; refine (HVS.out _).mono ?_; rintro e w1 ⟨rfl, hw1⟩; have hws := hw1.symm; clear hw1; subst hws))
    (try simp only [Exit.inBlock, Exit.then]); refine bodyPost_ret (results_tmp3 rfl _ _ _) rfl ?_
    exact ⟨rfl, rfl⟩
/-- Unpack of a wrong count of blocks -/
theorem unpack_size (w : World) (n s K cap : Nat) (a : Option Addr) (hK : K ≤ 9223372036854775807) (hs : okSz (s : Int) = true) (h1 : 1 ≤ n) (h2 : n ≤ 65536) (hl : ¬ K = (n - 1) / (8 * s) + 1) : Calls Try.prog 14 #[.int .i64 (n : Int), .slice a K cap, .int .i64 (s : Int)] w fun e w' => e = .returned (.tuple #[.slice none 0 0, .bool false, .int .i64 3]) ∧ w' = w := by
  have HVB := hide fun x => validBits_any x (n : Int)
  rw [decide_eq_true (by omega), decide_eq_true (by omega)] at HVB
  have HVS := hide fun x => validSize_any x (s : Int)
  rw [hs] at HVS
  have HAB := hide fun x => areaBlocks_any x (n : Int) (s : Int) hs (by omega) (by omega)
  rw [areaB_nat h1] at HAB
  generalize (n - 1) / (8 * s) + 1 = m at *
  have hne : ((K : Int) != (m : Int)) = true := by simp; omega
  go_enter Try.func14, Try.ntmps14
  go_wp2_with (first
    | (go_at_call 22; refine (HVB.out _).mono ?_; rintro e w1 ⟨rfl, hw1⟩; have hws := hw1.symm; clear hw1; subst hws)
    | (go_at_call 23; refine (HVS.out _).mono ?_; rintro e w1 ⟨rfl, hw1⟩; have hws := hw1.symm; clear hw1; subst hws)
    | (go_at_call 26; refine (HAB.out _).mono ?_; rintro e w1 ⟨rfl, hw1⟩; have hws := hw1.symm; clear hw1; subst hws))
  (try simp only [Exit.inBlock, Exit.then]); refine bodyPost_ret (results_tmp3 rfl _ _ _) rfl ?_
  exact ⟨rfl, rfl⟩
end Go.Proofs.Ytepgiomgkgfioaa
