import Derived.Test.YtophcdfaflehcaaDoorWRnd2
namespace Go.Proofs.YtophcdfaflehcaaDoor
open Go.RowKit
set_option linter.unusedVariables false

theorem nErr_zero {n s : Int} {l : List Nat} (h : nErr n s l = 0) : ∃ m t : Nat, n = (m : Int) ∧ s = (t : Int) ∧ 1 ≤ m ∧ m ≤ 65536 ∧ t ≤ m ∧ cwErr m l = 0 := by
  unfold nErr at h
  by_cases h1 : n < 1 ∨ 65536 < n
  · rw [if_pos h1] at h; cases h
  · rw [if_neg h1] at h
    by_cases h2 : s < 0 ∨ n < s
    · rw [if_pos h2] at h; cases h
    · rw [if_neg h2] at h
      refine ⟨n.toNat, s.toNat, by omega, by omega, by omega, by omega, by omega, h⟩
theorem round_law {w : World} {v : Value} {l : List Nat} (n s : Int) (hT : TabAt w) (hv : WSl w v l) (hr : l.length ≤ 17592186044416) :
    Calls Tryd.prog 3 #[.int .i64 n, v, .int .i64 s] w fun e w' => e = .returned (.bool true) ∧ Below w.heap.size w w' := by
  by_cases he : nErr n s l = 0
  · obtain ⟨m, t, rfl, rfl, h1, h2, h3, h4⟩ := nErr_zero he
    exact round_good m t hT hv hr h1 h2 h3 h4
  · exact round_bad n s hv hr he
end Go.Proofs.YtophcdfaflehcaaDoor
