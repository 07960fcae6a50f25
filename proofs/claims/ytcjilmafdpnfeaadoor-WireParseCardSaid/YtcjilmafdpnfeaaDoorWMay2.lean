import Derived.Test.YtcjilmafdpnfeaaDoorWMay
namespace Go.Proofs.YtcjilmafdpnfeaaDoor
open Go.RowKit
set_option linter.unusedVariables false
set_option linter.unusedSimpArgs false
set_option maxRecDepth 20000

/-- what each byte of a digest can be -/
def smayL (tied : Bool) (e : Nat) : List (Nat × Nat) := if tied = true ∧ e ≠ 0 then [(0, 0)] else [(0, 255)]
/-- what a length can be -/
def dmayL (lo hi : Nat) (tied : Bool) (e : Nat) : List (Nat × Nat) := if tied = true ∧ e ≠ 0 then [(0, 0)] else [(lo, hi)]
theorem sp3 {w : World} {A B : Obj} (lo hi : Nat) (h1 : lo < 18446744073709551616) (h2 : hi < 18446744073709551616) : SpL (((w.alloc A).alloc B).alloc (.cells #[.int .u64 (lo : Int), .int .u64 (hi : Int)] 44)) (.slice (some ⟨w.heap.size + 1 + 1, 0, none⟩) 1 1) [(lo, hi)] ∧ Below w.heap.size w (((w.alloc A).alloc B).alloc (.cells #[.int .u64 (lo : Int), .int .u64 (hi : Int)] 44)) := by
  refine ⟨?_, (((Below.refl _ _).alloc (Nat.le_refl _) _).alloc (by simp) _).alloc (by simp; omega) _⟩
  have := SpL.one (w := (w.alloc A).alloc B) lo hi h1 h2 44
  rw [show ((w.alloc A).alloc B).heap.size = w.heap.size + 1 + 1 by simp] at this
  exact this

set_option maxHeartbeats 1000000 in
theorem smay_any (w : World) (tied : Bool) (a b c d e : Nat) : Calls Tryd.prog 22 #[.agg #[.bool tied], aheadV a b c d e] w fun e' w' => ∃ v, e' = .returned v ∧ SpL w' v (smayL tied e) ∧ Below w.heap.size w w' := by
  unfold aheadV
  cases tied with
  | true =>
    by_cases h : e = 0
    · subst h
      rw [show smayL true 0 = [(0, 255)] from rfl]
      go_enter Tryd.func22, Tryd.ntmps22
      go_wp2
      go_ret
      exact ⟨_, rfl, (sp3 0 255 (by omega) (by omega)).1, (sp3 0 255 (by omega) (by omega)).2⟩
    · rw [show smayL true e = [(0, 0)] from if_pos ⟨rfl, h⟩]
      have hb : ((e : Int) == 0) = false := by simp only [beq_eq_false_iff_ne]; omega
      go_enter Tryd.func22, Tryd.ntmps22
      go_wp2
      go_ret
      exact ⟨_, rfl, (sp3 0 0 (by omega) (by omega)).1, (sp3 0 0 (by omega) (by omega)).2⟩
  | false =>
    rw [show smayL false e = [(0, 255)] from if_neg (by simp)]
    go_enter Tryd.func22, Tryd.ntmps22
    go_wp2
    go_ret
    exact ⟨_, rfl, (sp3 0 255 (by omega) (by omega)).1, (sp3 0 255 (by omega) (by omega)).2⟩
set_option maxHeartbeats 1000000 in
theorem dmay_any (w : World) (lo hi : Nat) (tied : Bool) (a b c d e : Nat) (hlo : lo < 18446744073709551616) (hhi : hi < 18446744073709551616) : Calls Tryd.prog 24 #[.agg #[.int .u64 (lo : Int), .int .u64 (hi : Int), .bool tied], aheadV a b c d e] w fun e' w' => ∃ v, e' = .returned v ∧ SpL w' v (dmayL lo hi tied e) ∧ Below w.heap.size w w' := by
  unfold aheadV
  cases tied with
  | true =>
    by_cases h : e = 0
    · subst h
      rw [show dmayL lo hi true 0 = [(lo, hi)] from rfl]
      go_enter Tryd.func24, Tryd.ntmps24
      go_wp2
      go_ret
      exact ⟨_, rfl, (sp3 lo hi (by omega) (by omega)).1, (sp3 lo hi (by omega) (by omega)).2⟩
    · rw [show dmayL lo hi true e = [(0, 0)] from if_pos ⟨rfl, h⟩]
      have hb : ((e : Int) == 0) = false := by simp only [beq_eq_false_iff_ne]; omega
      go_enter Tryd.func24, Tryd.ntmps24
      go_wp2
      go_ret
      exact ⟨_, rfl, (sp3 0 0 (by omega) (by omega)).1, (sp3 0 0 (by omega) (by omega)).2⟩
  | false =>
    rw [show dmayL lo hi false e = [(lo, hi)] from if_neg (by simp)]
    go_enter Tryd.func24, Tryd.ntmps24
    go_wp2
    go_ret
    exact ⟨_, rfl, (sp3 lo hi (by omega) (by omega)).1, (sp3 lo hi (by omega) (by omega)).2⟩
end Go.Proofs.YtcjilmafdpnfeaaDoor
