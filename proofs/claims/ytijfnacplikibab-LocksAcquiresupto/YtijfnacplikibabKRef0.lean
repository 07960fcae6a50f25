import Derived.Test.YtijfnacplikibabKTab
namespace Go.Proofs.Ytijfnacplikibab
open Go.RowKit
set_option linter.unusedVariables false
set_option linter.unusedSimpArgs false
set_option maxRecDepth 20000

/-- the document's table, new -/
def rRow (n ws : Int) : Array Value := #[.int .i64 n, .int .i64 ws, .slice none 0 0, .int .i64 0]
section
variable (w : World) (rb : Nat) (n ws : Int)
theorem there_any (e : Int) (h : w.cell? ⟨rb, 0, none⟩ = some (.int .i64 n)) : Calls Try.prog 33 #[.pointer (some ⟨rb, 0, none⟩), .int .i64 e] w fun e' w' => e' = .returned (.bool (decide (0 ≤ e) && decide (e < n))) ∧ w' = w := by
  by_cases h1 : 0 ≤ e
  · by_cases h2 : e < n
    · go_enter Try.func33, Try.ntmps33
      go_wp2_with fail
      go_ret
      exact ⟨by simp [h1, h2], rfl⟩
    · go_enter Try.func33, Try.ntmps33
      go_wp2_with fail
      go_ret
      exact ⟨by simp [h1, h2], rfl⟩
  · have h3 : (0 ≤ e) = False := by simp; omega
    go_enter Try.func33, Try.ntmps33
    go_wp2_with fail
    go_ret
    exact ⟨by simp [h3], rfl⟩
set_option maxHeartbeats 1000000 in
theorem rWaiting_new (h : w.heap[rb]? = some (.cells (rRow n ws) 73 (0, 0))) : Calls Try.prog 30 #[.pointer (some ⟨rb, 0, none⟩)] w fun e' w' => e' = .returned (.int .i64 0) ∧ w' = w := by
  have c2 : w.cell? ⟨rb, 2, none⟩ = some (.slice none 0 0) := by rw [cell_of_row _ _ _ _ _ _ h]; rfl
  clear h
  go_enter Try.func30, Try.ntmps30
  go_wp2_with fail
  refine wp_loop_rounds 1 ?_
  rw [rounds_succ]
  go_wp2_with fail
  go_ret
  exact ⟨rfl, rfl⟩
set_option maxHeartbeats 1000000 in
theorem rWaiters_new (e : Int) (h : w.heap[rb]? = some (.cells (rRow n ws) 73 (0, 0))) : Calls Try.prog 28 #[.pointer (some ⟨rb, 0, none⟩), .int .i64 e] w fun e' w' => e' = .returned (.tuple #[.slice none 0 0, .int .i64 (if 0 ≤ e ∧ e < n then 0 else 2)]) ∧ w' = w := by
  have c0 : w.cell? ⟨rb, 0, none⟩ = some (.int .i64 n) := by rw [cell_of_row _ _ _ _ _ _ h]; rfl
  have c2 : w.cell? ⟨rb, 2, none⟩ = some (.slice none 0 0) := by rw [cell_of_row _ _ _ _ _ _ h]; rfl
  have HT := hide (there_any w rb n e c0)
  clear h
  by_cases he : 0 ≤ e ∧ e < n
  · rw [if_pos he]
    rw [show (decide (0 ≤ e) && decide (e < n)) = true by simp [he.1, he.2]] at HT
    go_enter Try.func28, Try.ntmps28
    go_wp2_with (go_at_call 33; refine HT.out.mono ?_; rintro e' w2 ⟨rfl, rfl⟩; clear HT)
    refine wp_loop_rounds 1 ?_
    rw [rounds_succ]
    go_wp2_with fail
    go_ret2
    exact ⟨rfl, rfl⟩
  · rw [if_neg he]
    have hf : (decide (0 ≤ e) && decide (e < n)) = false := by
      by_cases h1 : 0 ≤ e <;> by_cases h2 : e < n <;> simp [h1, h2] <;> omega
    rw [hf] at HT
    clear he hf
    go_enter Try.func28, Try.ntmps28
    go_wp2_with (go_at_call 33; refine HT.out.mono ?_; rintro e' w2 ⟨rfl, rfl⟩; clear HT)
    go_ret2
    exact ⟨rfl, rfl⟩
set_option maxHeartbeats 1000000 in
theorem rHolders_new (e : Int) (h : w.heap[rb]? = some (.cells (rRow n ws) 73 (0, 0))) : Calls Try.prog 26 #[.pointer (some ⟨rb, 0, none⟩), .int .i64 e] w fun e' w' => e' = .returned (.tuple #[.slice none 0 0, .int .i64 0, .int .i64 (if 0 ≤ e ∧ e < n then 0 else 2)]) ∧ w' = w := by
  have c0 : w.cell? ⟨rb, 0, none⟩ = some (.int .i64 n) := by rw [cell_of_row _ _ _ _ _ _ h]; rfl
  have c2 : w.cell? ⟨rb, 2, none⟩ = some (.slice none 0 0) := by rw [cell_of_row _ _ _ _ _ _ h]; rfl
  have HT := hide (there_any w rb n e c0)
  clear h
  by_cases he : 0 ≤ e ∧ e < n
  · rw [if_pos he]
    rw [show (decide (0 ≤ e) && decide (e < n)) = true by simp [he.1, he.2]] at HT
    go_enter Try.func26, Try.ntmps26
    go_wp2_with (go_at_call 33; refine HT.out.mono ?_; rintro e' w2 ⟨rfl, rfl⟩; clear HT)
    refine wp_loop_rounds 1 ?_
    rw [rounds_succ]
    go_wp2_with fail
    refine wp_loop_rounds 1 ?_
    rw [rounds_succ]
    go_wp2_with fail
    go_ret3
    exact ⟨rfl, rfl⟩
  · rw [if_neg he]
    have hf : (decide (0 ≤ e) && decide (e < n)) = false := by
      by_cases h1 : 0 ≤ e <;> by_cases h2 : e < n <;> simp [h1, h2] <;> omega
    rw [hf] at HT
    clear he hf
    go_enter Try.func26, Try.ntmps26
    go_wp2_with (go_at_call 33; refine HT.out.mono ?_; rintro e' w2 ⟨rfl, rfl⟩; clear HT)
    go_ret3
    exact ⟨rfl, rfl⟩
end
end Go.Proofs.Ytijfnacplikibab
