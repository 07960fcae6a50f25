import Derived.Test.YtophcdfaflehcaaARow
namespace Go.Proofs.Ytophcdfaflehcaa
open Go.RowKit
set_option linter.unusedVariables false
set_option linter.unusedSimpArgs false
set_option maxRecDepth 20000

/-- may a bucket have these numbers? -/
def okP (r b : Int) : Prop := 1 ≤ r ∧ r ≤ 1024 ∧ 1 ≤ b ∧ b ≤ 1024
instance (r b : Int) : Decidable (okP r b) := by unfold okP; infer_instance
theorem okP_no {r b : Int} (h : ¬ okP r b) : r < 1 ∨ (1 ≤ r ∧ 1024 < r) ∨ (1 ≤ r ∧ r ≤ 1024 ∧ b < 1) ∨ (1 ≤ r ∧ r ≤ 1024 ∧ 1 ≤ b ∧ 1024 < b) := by
  unfold okP at h; omega
/-- a bucket's cells -/
def pRow (r b t : Int) : Array Value := #[.int .i64 r, .int .i64 b, .int .i64 t]
def PV (p : Nat) : Value := .pointer (some ⟨p, 0, none⟩)
theorem num_any (w : World) (e : Int) : Calls Try.prog 6 #[.int .i64 e] w fun r w' => r = .returned (.int .i64 e) ∧ w' = w := by
  go_enter Try.func6, Try.ntmps6
  go_wp2
  go_ret
  exact ⟨rfl, rfl⟩
theorem newPace_yes (w : World) (r b : Int) (h : okP r b) : Calls Try.prog 5 #[.int .i64 r, .int .i64 b] w fun e w' => e = .returned (.tuple #[PV w.heap.size, .int .i64 0]) ∧ w' = w.alloc (.cells (pRow r b b) 38) := by
  obtain ⟨h1, h2, h3, h4⟩ := h
  go_enter Try.func5, Try.ntmps5
  go_wp2_with fail
  go_ret2
  exact ⟨rfl, rfl⟩
theorem newPace_no (w : World) (r b : Int) (h : ¬ okP r b) : Calls Try.prog 5 #[.int .i64 r, .int .i64 b] w fun e w' => e = .returned (.tuple #[.pointer none, .int .i64 1]) ∧ w' = w := by
  rcases okP_no h with h1 | ⟨h1, h2⟩ | ⟨h1, h2, h3⟩ | ⟨h1, h2, h3, h4⟩
  all_goals
    clear h
    go_enter Try.func5, Try.ntmps5
    go_wp2_with fail
    go_ret2
    exact ⟨rfl, rfl⟩
theorem rNewPace_yes (w : World) (r b : Int) (h : okP r b) : Calls Try.prog 10 #[.int .i64 r, .int .i64 b] w fun e w' => e = .returned (.tuple #[PV w.heap.size, .int .i64 0]) ∧ w' = w.alloc (.cells (pRow r b b) 40) := by
  obtain ⟨h1, h2, h3, h4⟩ := h
  go_enter Try.func10, Try.ntmps10
  go_wp2_with fail
  go_ret2
  exact ⟨rfl, rfl⟩
theorem rNewPace_no (w : World) (r b : Int) (h : ¬ okP r b) : Calls Try.prog 10 #[.int .i64 r, .int .i64 b] w fun e w' => e = .returned (.tuple #[.pointer none, .int .i64 1]) ∧ w' = w := by
  rcases okP_no h with h1 | ⟨h1, h2⟩ | ⟨h1, h2, h3⟩ | ⟨h1, h2, h3, h4⟩
  all_goals
    clear h
    go_enter Try.func10, Try.ntmps10
    go_wp2_with fail
    go_ret2
    exact ⟨rfl, rfl⟩
theorem Chg.set {w : World} {p j : Nat} (v : Value) : Chg (fun b => b = p) w (w.setCell ⟨p, j, none⟩ v) :=
  ⟨rfl, rfl, rfl, by simp [World.setCell], fun b hb hne => Go.heap_setCell_other _ _ _ _ hne⟩
theorem Chg.drew {U : Nat → Prop} {w w' : World} (h : Chg U w w') : Chg U w w'.drew := ⟨h.os, h.tape, h.output, h.size, h.keep⟩
theorem Chg.drewN {U : Nat → Prop} {w w' : World} (h : Chg U w w') (n : Nat) : Chg U w (w'.drewN n) := ⟨h.os, h.tape, h.output, h.size, h.keep⟩
/-- behind a tick -/
def tck (r b t : Int) : Int := if b < t + r then b else t + r
theorem tck_le {r b t : Int} (h0 : 0 ≤ t) (hr : 1 ≤ r) (hb : 0 ≤ b) : 0 ≤ tck r b t ∧ tck r b t ≤ b := by unfold tck; split <;> omega
theorem wp_still_tail {P : Program} {id : Nat} {Q : Exit → Act → World → Prop} {a : Act} {w : World} {l : List Oper} (n : Nat) (hm : P.follows .mixedOrders = true) (hB : Region.lexTailB .any l.toArray n = true)
    (h : wpStill P l.toArray w.drew (fun a' => wpList P l.toArray Q (l.drop n) a' w.drew) (l.take n) a) : (Code.region id l.toArray true).wp P Q a w :=
  wp_region_still_tail n hm hB h
section
variable {w : World} {p : Nat} {r b t : Int}
theorem tick_any (h : w.heap[p]? = some (.cells (pRow r b t) 38 (0, 0))) (hr : 1 ≤ r ∧ r ≤ 1024) (hb : 1 ≤ b ∧ b ≤ 1024) (ht : 0 ≤ t ∧ t ≤ 1024) :
    Calls Try.prog 9 #[PV p] w fun e w' => e = .returned (.tuple #[]) ∧ w'.heap[p]? = some (.cells (pRow r b (tck r b t)) 38 (0, 0)) ∧ Chg (fun k => k = p) w w' := by
  have c0 : w.cell? ⟨p, 0, none⟩ = some (.int .i64 r) := cell_of_row _ _ _ _ _ _ h
  have c1 : w.cell? ⟨p, 1, none⟩ = some (.int .i64 b) := cell_of_row _ _ _ _ _ _ h
  have c2 : w.cell? ⟨p, 2, none⟩ = some (.int .i64 t) := cell_of_row _ _ _ _ _ _ h
  have f2 : w.frozen? ⟨p, 2, none⟩ = false := frozen_of_row _ _ _ _ _ h
  have HS := hide (fun v => Go.heap_setCell_same w.drew p 2 _ 38 v h)
  clear h
  unfold PV tck
  obtain ⟨h1, h2⟩ := hr
  obtain ⟨h3, h4⟩ := hb
  obtain ⟨h5, h6⟩ := ht
  by_cases hc : b < t + r
  · rw [if_pos hc]
    have hm : min (t + r) b = b := by omega
    have hm2 : ¬ t + r ≤ b := by omega
    go_enter Try.func9, Try.ntmps9
    go_wp2_with fail
    refine wp_still_tail 17 (by kernel_rfl) (by kernel_rfl) ?_
    simp only [List.take_succ_cons, List.take_zero, List.drop_succ_cons, List.drop_zero]
    repeat still_step
    refine wpStill_nil ?_
    go_wp2_with fail
    all_goals
      go_end0
      exact ⟨rfl, HS.out _, (Chg.set _).drew⟩
  · rw [if_neg hc]
    have hm : min (t + r) b = t + r := by omega
    have hm2 : t + r ≤ b := by omega
    go_enter Try.func9, Try.ntmps9
    go_wp2_with fail
    refine wp_still_tail 17 (by kernel_rfl) (by kernel_rfl) ?_
    simp only [List.take_succ_cons, List.take_zero, List.drop_succ_cons, List.drop_zero]
    repeat still_step
    refine wpStill_nil ?_
    go_wp2_with fail
    all_goals
      go_end0
      exact ⟨rfl, HS.out _, (Chg.set _).drew⟩
theorem take_yes (n : Int) (h : w.heap[p]? = some (.cells (pRow r b t) 38 (0, 0))) (ht : 0 ≤ t ∧ t ≤ 1024) (h1 : 1 ≤ n) (h2 : n ≤ t) :
    Calls Try.prog 8 #[PV p, .int .i64 n] w fun e w' => e = .returned (.bool true) ∧ w'.heap[p]? = some (.cells (pRow r b (t - n)) 38 (0, 0)) ∧ Chg (fun k => k = p) w w' := by
  have c2 : w.cell? ⟨p, 2, none⟩ = some (.int .i64 t) := cell_of_row _ _ _ _ _ _ h
  have f2 : w.frozen? ⟨p, 2, none⟩ = false := frozen_of_row _ _ _ _ _ h
  have HS := hide (fun v => Go.heap_setCell_same w p 2 _ 38 v h)
  clear h
  unfold PV
  obtain ⟨h5, h6⟩ := ht
  go_enter Try.func8, Try.ntmps8
  go_wp2_with fail
  go_ret
  exact ⟨rfl, HS.out _, Chg.set _⟩
theorem take_no (n : Int) (h : w.heap[p]? = some (.cells (pRow r b t) 38 (0, 0))) (h1 : n < 1 ∨ t < n) :
    Calls Try.prog 8 #[PV p, .int .i64 n] w fun e w' => e = .returned (.bool false) ∧ w' = w := by
  have c2 : w.cell? ⟨p, 2, none⟩ = some (.int .i64 t) := cell_of_row _ _ _ _ _ _ h
  clear h
  unfold PV
  by_cases h2 : n < 1
  · clear h1
    go_enter Try.func8, Try.ntmps8
    go_wp2_with fail
    go_ret
    exact ⟨rfl, rfl⟩
  · have h3 : t < n := by omega
    clear h1
    go_enter Try.func8, Try.ntmps8
    go_wp2_with fail
    go_ret
    exact ⟨rfl, rfl⟩
theorem level_any (h : w.heap[p]? = some (.cells (pRow r b t) 38 (0, 0))) : Calls Try.prog 7 #[PV p] w fun e w' => e = .returned (.int .i64 t) ∧ w' = w := by
  have c2 : w.cell? ⟨p, 2, none⟩ = some (.int .i64 t) := cell_of_row _ _ _ _ _ _ h
  clear h
  unfold PV
  go_enter Try.func7, Try.ntmps7
  go_wp2_with fail
  go_ret
  exact ⟨rfl, rfl⟩
end
end Go.Proofs.Ytophcdfaflehcaa
