import Derived.Test.YtijfnacplikibabKTab
namespace Go.Proofs.Ytijfnacplikibab
open Go.RowKit
set_option linter.unusedVariables false
set_option linter.unusedSimpArgs false
set_option maxRecDepth 20000

/-- may a table have these numbers? -/
def okN (e ws : Int) : Bool := decide (1 ≤ e) && decide (e ≤ 4096) && decide (0 ≤ ws) && decide (ws ≤ 512)
theorem okN_yes {a b : Int} (h : okN a b = true) : 1 ≤ a ∧ a ≤ 4096 ∧ 0 ≤ b ∧ b ≤ 512 := by
  unfold okN at h
  simp only [Bool.and_eq_true, decide_eq_true_eq] at h
  omega
theorem okN_no {a b : Int} (h : okN a b = false) : a < 1 ∨ (1 ≤ a ∧ 4096 < a) ∨ (1 ≤ a ∧ a ≤ 4096 ∧ b < 0) ∨ (1 ≤ a ∧ a ≤ 4096 ∧ 0 ≤ b ∧ 512 < b) := by
  have h' : ¬ (1 ≤ a ∧ a ≤ 4096 ∧ 0 ≤ b ∧ b ≤ 512) := fun hh => by
    obtain ⟨h1, h2, h3, h4⟩ := hh
    simp [okN, h1, h2, h3, h4] at h
  omega
set_option maxHeartbeats 1000000 in
theorem kNew_no (w : World) (a b : Int) (h : okN a b = false) : Calls Try.prog 13 #[.int .i64 a, .int .i64 b] w fun e w' => e = .returned (.tuple #[.pointer none, .int .i64 1]) ∧ w' = w := by
  rcases okN_no h with h1 | ⟨h1, h2⟩ | ⟨h1, h2, h3⟩ | ⟨h1, h2, h3, h4⟩
  all_goals
    clear h
    go_enter Try.func13, Try.ntmps13
    go_wp2_with fail
    go_ret2
    exact ⟨rfl, rfl⟩
set_option maxHeartbeats 1000000 in
theorem rNew_no (w : World) (a b : Int) (h : okN a b = false) : Calls Try.prog 14 #[.int .i64 a, .int .i64 b] w fun e w' => e = .returned (.tuple #[.pointer none, .int .i64 1]) ∧ w' = w := by
  rcases okN_no h with h1 | ⟨h1, h2⟩ | ⟨h1, h2, h3⟩ | ⟨h1, h2, h3, h4⟩
  all_goals
    clear h
    go_enter Try.func14, Try.ntmps14
    go_wp2_with fail
    go_ret2
    exact ⟨rfl, rfl⟩
set_option maxHeartbeats 1000000 in
theorem rNew_yes (w : World) (a b : Int) (h : okN a b = true) : Calls Try.prog 14 #[.int .i64 a, .int .i64 b] w fun e w' => e = .returned (.tuple #[.pointer (some ⟨w.heap.size, 0, none⟩), .int .i64 0]) ∧ w' = w.alloc (.cells #[.int .i64 a, .int .i64 b, .slice none 0 0, .int .i64 0] 73) := by
  obtain ⟨h1, h2, h3, h4⟩ := okN_yes h
  clear h
  go_enter Try.func14, Try.ntmps14
  go_wp2_with fail
  go_ret2
  exact ⟨rfl, rfl⟩
theorem Try.infoL : (Try.prog.info? 89).map (fun i => (i.zero, i.size, i.bytes)) = some (some (.agg #[.slice none 0 0, .slice none 0 0]), 2, 48) := by kernel_rfl
theorem infoLk : ∃ i, Try.prog.info? 89 = some i ∧ i.zero = some (.agg #[.slice none 0 0, .slice none 0 0]) ∧ i.size = 2 ∧ i.bytes = 48 := by
  have h := Try.infoL
  cases hi : Try.prog.info? 89 with
  | none => rw [hi] at h; simp at h
  | some i => rw [hi] at h; simp at h; exact ⟨i, rfl, h.1, h.2.1, h.2.2⟩
theorem run_locks (n : Nat) (hn : n ≤ 4096) : ∃ Z : Array Value, (∀ w : World, (Instr.makeSlice 61 (.int .i64 (n : Int)) (.int .i64 (n : Int))).run Try.prog w = .ok (.slice (some ⟨w.heap.size, 0, none⟩) n n) (w.alloc (.cells Z 89))) ∧ Z.size = n * 2 ∧ ∀ k, k < n * 2 → Z[k]? = some (.slice none 0 0) := by
  obtain ⟨i0, hi, hz0, hz1, hz2⟩ := infoLk
  obtain ⟨Z, z1, z2, z3⟩ : ∃ Z : Array Value, madeCells (Value.agg #[.slice none 0 0, .slice none 0 0]).cells (n * 2) = Z ∧ Z.size = n * 2 ∧ ∀ k, k < n * 2 → Z[k]? = some (.slice none 0 0) := by
    refine ⟨_, rfl, by simp [madeCells, Value.cells], fun k hk => ?_⟩
    have h2 : k % 2 = 0 ∨ k % 2 = 1 := by omega
    rcases h2 with h2 | h2 <;> simp [madeCells, Value.cells, hk, h2]
  refine ⟨Z, fun w => ?_, z2, z3⟩
  have hr := run_make (P := Try.prog) w 61 89 i0 (.agg #[.slice none 0 0, .slice none 0 0]) Try.underlying61 hi hz0 .i64 .i64 (n : Int) (n : Int) (by omega) (Int.le_refl _) (by rw [hz2]; omega) (by omega)
  simp only [Int.toNat_natCast] at hr
  rw [hz1, z1] at hr
  exact hr
set_option maxHeartbeats 1000000 in
theorem kNew_yes (w : World) (n : Nat) (b : Int) (h : okN n b = true) : Calls Try.prog 13 #[.int .i64 (n : Int), .int .i64 b] w fun e w' => ∃ p b', e = .returned (.tuple #[.pointer (some ⟨p, 0, none⟩), .int .i64 0]) ∧ TRep w' p b' 0 n (fun _ => .slice none 0 0) (fun _ => []) b 0 ∧ Below w.heap.size w w' ∧ w.heap.size ≤ p ∧ w.heap.size ≤ b' := by
  obtain ⟨h1, h2, h3, h4⟩ := okN_yes h
  clear h
  obtain ⟨Z, hz, z2, z3⟩ := run_locks n (by omega)
  have HZ : Hid (Z.size = n * 2 ∧ ∀ k, k < n * 2 → Z[k]? = some (.slice none 0 0)) := hide ⟨z2, z3⟩
  clear z2 z3
  go_enter Try.func13, Try.ntmps13
  go_wp2_with fail
  go_ret2
  have hs : (w.alloc (.cells Z 89)).heap.size = w.heap.size + 1 := by simp
  refine ⟨w.heap.size + 1, w.heap.size, rfl, ⟨?_, ⟨Z, ?_, HZ.out.1, HZ.out.2⟩, fun k hk => CRow.nil _, fun k j g hk hj e => by simp [Value.ownBlock] at e, by omega⟩, ((Below.refl _ w).alloc (Nat.le_refl _) _).alloc (by simp) _, by omega, by omega⟩
  · rw [← hs]; exact Go.heap_alloc_new _ _
  · rw [Below.heap_alloc _ _ _ (by omega)]; exact Go.heap_alloc_new _ _
end Go.Proofs.Ytijfnacplikibab
