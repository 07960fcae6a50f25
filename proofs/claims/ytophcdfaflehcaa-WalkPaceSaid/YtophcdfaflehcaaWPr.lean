import Derived.Test.YtophcdfaflehcaaWPc
namespace Go.Proofs.Ytophcdfaflehcaa
open Go.RowKit
set_option linter.unusedVariables false
set_option linter.unusedSimpArgs false
set_option maxRecDepth 20000

section
variable {w : World} {p : Nat} {r b t : Int}
theorem rTick_any (h : w.heap[p]? = some (.cells (pRow r b t) 40 (0, 0))) (hr : 1 ≤ r ∧ r ≤ 1024) (hb : 1 ≤ b ∧ b ≤ 1024) (ht : 0 ≤ t ∧ t ≤ 1024) :
    Calls Try.prog 11 #[PV p] w fun e w' => e = .returned (.tuple #[]) ∧ w'.heap[p]? = some (.cells (pRow r b (tck r b t)) 40 (0, 0)) ∧ Chg (fun k => k = p) w w' := by
  have c0 : w.cell? ⟨p, 0, none⟩ = some (.int .i64 r) := cell_of_row _ _ _ _ _ _ h
  have c1 : w.cell? ⟨p, 1, none⟩ = some (.int .i64 b) := cell_of_row _ _ _ _ _ _ h
  have c2 : w.cell? ⟨p, 2, none⟩ = some (.int .i64 t) := cell_of_row _ _ _ _ _ _ h
  have f2 : w.frozen? ⟨p, 2, none⟩ = false := frozen_of_row _ _ _ _ _ h
  have HS := hide (fun v => Go.heap_setCell_same w.drew p 2 _ 40 v h)
  clear h
  unfold PV tck
  obtain ⟨h1, h2⟩ := hr
  obtain ⟨h3, h4⟩ := hb
  obtain ⟨h5, h6⟩ := ht
  by_cases hc : b < t + r
  · rw [if_pos hc]
    go_enter Try.func11, Try.ntmps11
    go_wp2_with fail
    refine wp_still_tail 12 (by kernel_rfl) (by kernel_rfl) ?_
    simp only [List.take_succ_cons, List.take_zero, List.drop_succ_cons, List.drop_zero]
    repeat still_step
    refine wpStill_nil ?_
    go_wp2_with fail
    have HC := hide (Chg.set (w := w) (p := p) (j := 2) (.int .i64 (t + r))).drew
    have hw1 : (w.setCell ⟨p, 2, none⟩ (.int .i64 (t + r))).drew.heap[p]? = some (.cells (pRow r b (t + r)) 40 (0, 0)) := HS.out _
    clear HS
    generalize (w.setCell ⟨p, 2, none⟩ (.int .i64 (t + r))).drew = w1 at *
    have HR := hide hw1
    have d1 : w1.cell? ⟨p, 1, none⟩ = some (.int .i64 b) := cell_of_row _ _ _ _ _ _ hw1
    have d2 : w1.cell? ⟨p, 2, none⟩ = some (.int .i64 (t + r)) := cell_of_row _ _ _ _ _ _ hw1
    have g2 : w1.frozen? ⟨p, 2, none⟩ = false := frozen_of_row _ _ _ _ _ hw1
    clear hw1 c0 c1 c2 f2
    go_quiet (fail)
    go_wp2_with fail
    go_end0
    exact ⟨rfl, Go.heap_setCell_same (w1.drewN nq) p 2 _ 40 _ HR.out, (HC.out.drewN nq).trans (Chg.set _)⟩
  · rw [if_neg hc]
    go_enter Try.func11, Try.ntmps11
    go_wp2_with fail
    refine wp_still_tail 12 (by kernel_rfl) (by kernel_rfl) ?_
    simp only [List.take_succ_cons, List.take_zero, List.drop_succ_cons, List.drop_zero]
    repeat still_step
    refine wpStill_nil ?_
    go_wp2_with fail
    have HC := hide (Chg.set (w := w) (p := p) (j := 2) (.int .i64 (t + r))).drew
    have hw1 : (w.setCell ⟨p, 2, none⟩ (.int .i64 (t + r))).drew.heap[p]? = some (.cells (pRow r b (t + r)) 40 (0, 0)) := HS.out _
    clear HS
    generalize (w.setCell ⟨p, 2, none⟩ (.int .i64 (t + r))).drew = w1 at *
    have HR := hide hw1
    have d1 : w1.cell? ⟨p, 1, none⟩ = some (.int .i64 b) := cell_of_row _ _ _ _ _ _ hw1
    have d2 : w1.cell? ⟨p, 2, none⟩ = some (.int .i64 (t + r)) := cell_of_row _ _ _ _ _ _ hw1
    have g2 : w1.frozen? ⟨p, 2, none⟩ = false := frozen_of_row _ _ _ _ _ hw1
    clear hw1 c0 c1 c2 f2
    go_quiet (fail)
    go_wp2_with fail
    go_end0
    exact ⟨rfl, HR.out, HC.out.drewN _⟩
theorem rTake_yes (n : Int) (h : w.heap[p]? = some (.cells (pRow r b t) 40 (0, 0))) (ht : 0 ≤ t ∧ t ≤ 1024) (h1 : 1 ≤ n) (h2 : n ≤ t) :
    Calls Try.prog 12 #[PV p, .int .i64 n] w fun e w' => e = .returned (.bool true) ∧ w'.heap[p]? = some (.cells (pRow r b (t - n)) 40 (0, 0)) ∧ Chg (fun k => k = p) w w' := by
  have c2 : w.cell? ⟨p, 2, none⟩ = some (.int .i64 t) := cell_of_row _ _ _ _ _ _ h
  have f2 : w.frozen? ⟨p, 2, none⟩ = false := frozen_of_row _ _ _ _ _ h
  have HS := hide (fun v => Go.heap_setCell_same w p 2 _ 40 v h)
  clear h
  unfold PV
  obtain ⟨h5, h6⟩ := ht
  go_enter Try.func12, Try.ntmps12
  go_wp2_with fail
  go_ret
  exact ⟨rfl, HS.out _, Chg.set _⟩
theorem rTake_no (n : Int) (h : w.heap[p]? = some (.cells (pRow r b t) 40 (0, 0))) (h1 : n < 1 ∨ t < n) :
    Calls Try.prog 12 #[PV p, .int .i64 n] w fun e w' => e = .returned (.bool false) ∧ w' = w := by
  have c2 : w.cell? ⟨p, 2, none⟩ = some (.int .i64 t) := cell_of_row _ _ _ _ _ _ h
  clear h
  unfold PV
  by_cases h2 : n < 1
  · clear h1
    go_enter Try.func12, Try.ntmps12
    go_wp2_with fail
    go_ret
    exact ⟨rfl, rfl⟩
  · have h3 : t < n := by omega
    clear h1
    go_enter Try.func12, Try.ntmps12
    go_wp2_with fail
    go_ret
    exact ⟨rfl, rfl⟩
theorem rLevel_any (h : w.heap[p]? = some (.cells (pRow r b t) 40 (0, 0))) : Calls Try.prog 13 #[PV p] w fun e w' => e = .returned (.int .i64 t) ∧ w' = w := by
  have c2 : w.cell? ⟨p, 2, none⟩ = some (.int .i64 t) := cell_of_row _ _ _ _ _ _ h
  clear h
  unfold PV
  go_enter Try.func13, Try.ntmps13
  go_wp2_with fail
  go_ret
  exact ⟨rfl, rfl⟩
end
end Go.Proofs.Ytophcdfaflehcaa
