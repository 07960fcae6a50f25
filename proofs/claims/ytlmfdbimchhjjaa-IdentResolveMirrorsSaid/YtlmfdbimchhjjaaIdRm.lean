import Derived.Test.YtlmfdbimchhjjaaIdRes2
namespace Go.Proofs.Ytlmfdbimchhjjaa
open Go.RowKit
set_option linter.unusedVariables false
set_option linter.unusedSimpArgs false
set_option maxRecDepth 20000

theorem hp_cells12 {w : World} {g : Nat} {x0 x1 x2 x3 x4 x5 x6 x7 x8 x9 x10 x11 : Value} {t : TypeId} {fr : Nat × Nat} (h : w.heap[g]? = some (.cells #[x0, x1, x2, x3, x4, x5, x6, x7, x8, x9, x10, x11] t fr)) : w.cell? ⟨g, 0, none⟩ = some x0 ∧ w.cell? ⟨g, 1, none⟩ = some x1 ∧ w.cell? ⟨g, 2, none⟩ = some x2 ∧ w.cell? ⟨g, 3, none⟩ = some x3 ∧ w.cell? ⟨g, 4, none⟩ = some x4 ∧ w.cell? ⟨g, 5, none⟩ = some x5 ∧ w.cell? ⟨g, 6, none⟩ = some x6 ∧ w.cell? ⟨g, 7, none⟩ = some x7 ∧ w.cell? ⟨g, 8, none⟩ = some x8 ∧ w.cell? ⟨g, 9, none⟩ = some x9 ∧ w.cell? ⟨g, 10, none⟩ = some x10 ∧ w.cell? ⟨g, 11, none⟩ = some x11 ∧ g < w.heap.size :=
  ⟨cell_of_row _ _ _ _ _ _ h, cell_of_row _ _ _ _ _ _ h, cell_of_row _ _ _ _ _ _ h, cell_of_row _ _ _ _ _ _ h, cell_of_row _ _ _ _ _ _ h, cell_of_row _ _ _ _ _ _ h, cell_of_row _ _ _ _ _ _ h, cell_of_row _ _ _ _ _ _ h, cell_of_row _ _ _ _ _ _ h, cell_of_row _ _ _ _ _ _ h, cell_of_row _ _ _ _ _ _ h, cell_of_row _ _ _ _ _ _ h, (Array.getElem?_eq_some_iff.1 h).1⟩
theorem resolveM_any (w : World) (k r n s0 s1 s2 ro rp mo mp fo fp : Int) : Calls Try.prog 16 #[.agg #[.int .i64 k, .int .i64 r, .int .i64 n, .int .i64 s0, .int .i64 s1, .int .i64 s2, .int .i64 ro, .int .i64 rp, .int .i64 mo, .int .i64 mp, .int .u32 fo, .int .u32 fp]] w fun e w' => e = .returned (setV (resv k r n s0 s1 s2 ro rp mo mp (fd fo) (fd fp))) ∧ Below w.heap.size w w' := by
  have H1 := hide fun w => resolve_any w k r n s0 s1 s2 ro rp mo mp fo fp
  generalize resv k r n s0 s1 s2 ro rp mo mp (fd fo) (fd fp) = x at *
  obtain ⟨ak, ar, ae⟩ := x
  unfold setV vd at *
  dsimp only at *
  go_enter Try.func16, Try.ntmps16
  go_wp2_with (first
    | (go_at_call 33; refine (H1.out _).mono ?_; rintro e w2 ⟨rfl, hb⟩; have HPr := hide (hp_below (heap_snd w _ _) hb); have HBW := hide (bel_to (bl2 (Below.refl w.heap.size w) _ _) hb); obtain ⟨d0, d1, d2⟩ := hp_cells2 HPr.out; have f0 := frozen_of_row _ _ 0 _ _ HPr.out; have f1 := frozen_of_row _ _ 1 _ _ HPr.out; clear hb))
  exact bodyPost_ret (results_row_tmp rfl _ _ (w.heap.size + 1) 26 _ (0, 0) _ rfl (set2 HPr.out _ _) Try.underlying26 rfl (by kernel_rfl)) rfl ⟨by first | rfl | simp, ((HBW.out.setCell (p := ⟨w.heap.size + 1, 0, none⟩) (Nat.le_succ _) _).setCell (p := ⟨w.heap.size + 1, 1, none⟩) (Nat.le_succ _) _)⟩
end Go.Proofs.Ytlmfdbimchhjjaa
