import Derived.Test.YtepgiomgkgfioaaMtArea
import Derived.Test.YtepgiomgkgfioaaMtPlan
import Derived.Laws.Bits128
namespace Go.Proofs.Ytepgiomgkgfioaa
open Go.RowKit
set_option linter.unusedVariables false
set_option linter.unusedSimpArgs false
set_option maxRecDepth 20000

theorem and_63 (n : Int) : bits .and .i64 n 63 = n % 64 := by
  have h1 : (BitVec.ofInt 64 63).toNat = 2 ^ 6 - 1 := by decide
  have key : (BitVec.ofInt 64 n &&& BitVec.ofInt 64 63).toNat = (n % ((2 ^ 64 : Nat) : Int)).toNat % 2 ^ 6 := by
    rw [BitVec.toNat_and, BitVec.toNat_ofInt, h1, Nat.and_two_pow_sub_one_eq_mod]
  show IntKind.i64.wrap ((BitVec.ofInt 64 n &&& BitVec.ofInt 64 63).toNat : Nat) = n % 64
  rw [key, IntKind.wrap_i64]
  omega
/-- the bits of the last word that lie below n -/
def lmS (n : Nat) : Nat := (64 - n % 64) % 64
def lm (n : Nat) : Nat := 18446744073709551615 / 2 ^ lmS n
theorem validBits_any (w : World) (n : Int) : Calls Try.prog 22 #[.int .i64 n] w fun e w' => e = .returned (.bool (decide (1 ≤ n) && decide (n ≤ 65536))) ∧ w' = w := by
  by_cases h1 : 1 ≤ n
  · by_cases h2 : n ≤ 65536
    · rw [decide_eq_true h1, decide_eq_true h2]
      go_enter Try.func22, Try.ntmps22
      go_wp2_with fail
      go_ret
      exact ⟨rfl, rfl⟩
    · rw [decide_eq_true h1, decide_eq_false h2]
      go_enter Try.func22, Try.ntmps22
      go_wp2_with fail
      go_ret
      exact ⟨rfl, rfl⟩
  · rw [decide_eq_false h1, Bool.false_and]
    go_enter Try.func22, Try.ntmps22
    go_wp2_with fail
    go_ret
    exact ⟨rfl, rfl⟩
theorem wordCount_any (w : World) (n : Nat) (h : n ≤ 65536) : Calls Try.prog 24 #[.int .i64 (n : Int)] w fun e w' => e = .returned (.int .i64 (((n + 63) / 64 : Nat) : Int)) ∧ w' = w := by
  go_enter Try.func24, Try.ntmps24
  go_wp2_with fail
  go_ret
  refine ⟨?_, rfl⟩
  show Ending.returned (Value.int .i64 (((n : Int) + 64 - 1) / 64)) = _
  congr 2
  omega
theorem lastMask_any (w : World) (n : Nat) (h : n ≤ 65536) : Calls Try.prog 25 #[.int .i64 (n : Int)] w fun e w' => e = .returned (.int .u64 (lm n : Nat)) ∧ w' = w := by
  have he : bits BinOp.and IntKind.i64 (-(n : Int)) 63 = (lmS n : Nat) := by rw [and_63]; unfold lmS; omega
  have hm : min (lmS n) 64 = lmS n := by unfold lmS; omega
  unfold lm
  go_enter Try.func25, Try.ntmps25
  go_wp2_with fail
  go_ret
  refine ⟨?_, rfl⟩
  show Ending.returned (Value.int .u64 (18446744073709551615 / 2 ^ lmS n)) = _
  congr 2
theorem wordPlace_any (w : World) (i s : Nat) (h1 : 1 ≤ s) (h2 : s ≤ 1024) (h3 : i ≤ 65536) : Calls Try.prog 27 #[.int .i64 (i : Int), .int .i64 (s : Int)] w fun e w' => e = .returned (.tuple #[.int .i64 ((i * 8 / s : Nat) : Int), .int .i64 ((i * 8 % s : Nat) : Int)]) ∧ ∃ m, w' = w.drewN m := by
  go_enter Try.func27, Try.ntmps27
  go_wp2_with fail
  go_quiet (fail)
  go_wp2_with fail
  (try simp only [Exit.inBlock, Exit.then]); refine bodyPost_ret (results_tmp2 rfl _ _ _) rfl ⟨?_, _, rfl⟩
  show Ending.returned (Value.tuple #[.int .i64 ((i : Int) * 8 / (s : Int)), .int .i64 ((i : Int) * 8 % (s : Int))]) = _
  rw [show ((i * 8 / s : Nat) : Int) = (i : Int) * 8 / (s : Int) by simp, show ((i * 8 % s : Nat) : Int) = (i : Int) * 8 % (s : Int) by simp]
end Go.Proofs.Ytepgiomgkgfioaa
