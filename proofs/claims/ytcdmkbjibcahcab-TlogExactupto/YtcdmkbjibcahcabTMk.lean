import Derived.Test.YtcdmkbjibcahcabTPx
import Derived.Test.YtcdmkbjibcahcabTNew
namespace Go.Proofs.Ytcdmkbjibcahcab
open Go.RowKit
set_option linter.unusedVariables false
set_option linter.unusedSimpArgs false
set_option maxRecDepth 20000

theorem set2 {w : World} {g : Nat} {x0 x1 : Value} {t : TypeId} (h : w.heap[g]? = some (.cells #[x0, x1] t (0, 0))) (a b : Value) : ((w.setCell ⟨g, 0, none⟩ a).setCell ⟨g, 1, none⟩ b).heap[g]? = some (.cells #[a, b] t (0, 0)) := by
  have h1 := Go.heap_setCell_same w g 0 _ t a h
  exact Go.heap_setCell_same _ g 1 _ t b h1
/-- two logs of the law's making -/
def MkP (w : World) (lim ep : Nat) (e : Ending) (w' : World) : Prop := ∃ p bm q, e = .returned (.tuple #[.agg #[.pointer (some ⟨p, 0, none⟩), .pointer (some ⟨q, 0, none⟩)], .bool true]) ∧ LRep w' p bm (.slice none 0 0) (newS lim ep) ∧ DL w' q (.slice none 0 0) (newS lim ep) ∧ Below w.heap.size w w' ∧ w.heap.size ≤ p ∧ w.heap.size ≤ bm ∧ w.heap.size ≤ q
set_option maxHeartbeats 2000000 in
theorem makes_ok (w : World) (lim ep : Nat) (h1 : 1 ≤ lim) (h2 : lim ≤ 1024) (h3 : 1 ≤ ep) (h4 : ep ≤ 64) : Calls Try.prog 4 #[.int .i64 (lim : Int), .int .i64 (ep : Int)] w (MkP w lim ep) := by
  have HA := hide fun x => New_ok x lim ep h1 h2 h3 h4
  have HR := hide fun x => rnew_ok x lim ep h1 h2 h3 h4
  have HB0 : Hid ((w.alloc (.cells #[.pointer none, .pointer none] 26)).heap[w.heap.size]? = some (.cells #[.pointer none, .pointer none] 26 (0, 0))) := hide (Go.heap_alloc_new w _)
  have HS0 : Hid ((w.alloc (.cells #[.pointer none, .pointer none] 26)).heap.size = w.heap.size + 1) := hide (by simp)
  have HW0 := hide (below_alloc w (.cells #[.pointer none, .pointer none] 26))
  go_enter Try.func4, Try.ntmps4
  go_wp2_with (first
    | (go_at_call 8; refine (HA.out _).mono ?_; rintro e y1 ⟨p, bm, rfl, k1, k2, k3, k4⟩; have HB1 := hide ((k2.block w.heap.size (by rw [HS0.out]; omega)).trans HB0.out); have K1 := hide k1; have K2 := hide (HW0.out.trans (k2.mono HW0.out.size)); have hs0 := HS0.out; have K3 := hide (show w.heap.size < p by omega); have K4 := hide (show w.heap.size < bm by omega); have K5 := hide k2.size; clear k1 k2 k3 k4 hs0)
    | (go_at_call 9; refine (HR.out _).mono ?_; rintro e y2 ⟨q, rfl, k1, k2, k3⟩; have hs0 := HS0.out; have hs5 := K5.out; have HB2 := hide ((k2.block w.heap.size (by omega)).trans HB1.out); have D1 := hide k1; have D0 := hide (K1.out.below k2); have D2 := hide (K2.out.trans (k2.mono K2.out.size)); have D3 := hide (show w.heap.size < q by omega); have b0 : y2.cell? ⟨w.heap.size, 0, none⟩ = some (.pointer none) := (by rw [cell_of_row _ _ _ _ _ _ HB2.out]; rfl); have b1 : y2.cell? ⟨w.heap.size, 1, none⟩ = some (.pointer none) := (by rw [cell_of_row _ _ _ _ _ _ HB2.out]; rfl); have f0 := frozen_of_row _ _ 0 _ 26 HB2.out; have f1 := frozen_of_row _ _ 1 _ 26 HB2.out; clear k1 k2 k3 hs0 hs5)
    | (go_at_call 10; refine (num_any _ _).mono ?_; rintro e y3 ⟨rfl, h9⟩; have h9s := h9.symm; clear h9; subst h9s))
  have k3 := K3.out
  have k4 := K4.out
  have k5 := D3.out
  refine bodyPost_ret (results_row_tmp (p := 4) (u := 5) rfl _ _ w.heap.size 26 #[.pointer (some ⟨p, 0, none⟩), .pointer (some ⟨q, 0, none⟩)] (0, 0) _ (by kernel_rfl) (set2 HB2.out _ _) Try.underlying26 rfl (by kernel_rfl)) rfl ?_
  have ko : ∀ g, w.heap.size < g → ((y2.setCell ⟨w.heap.size, 0, none⟩ (.pointer (some ⟨p, 0, none⟩))).setCell ⟨w.heap.size, 1, none⟩ (.pointer (some ⟨q, 0, none⟩))).heap[g]? = y2.heap[g]? := fun g hg => by
    rw [Go.heap_setCell_other _ _ _ _ (show g ≠ w.heap.size by omega), Go.heap_setCell_other _ _ _ _ (show g ≠ w.heap.size by omega)]
  refine ⟨p, bm, q, rfl, D0.out.kept fun g e => ?_, D1.out.kept fun g e => ?_, Chg.below (U := fun _ => False) (chg_set (chg_set (Chg.ofBelow D2.out) _ _ _ (.inr (Nat.le_refl _))) _ _ _ (.inr (Nat.le_refl _))) (Nat.le_refl _) (fun _ e => e.elim), by omega, by omega, by omega⟩
  · rcases e with rfl | rfl | e
    · exact ko _ k3
    · exact ko _ k4
    · simp [Value.ownBlock] at e
  · rcases e with rfl | e
    · exact ko _ k5
    · simp [Value.ownBlock] at e
set_option maxHeartbeats 2000000 in
theorem makes_bad (w : World) (lim ep : Int) (h : ¬ (1 ≤ lim ∧ lim ≤ 1024 ∧ 1 ≤ ep ∧ ep ≤ 64)) : Calls Try.prog 4 #[.int .i64 lim, .int .i64 ep] w fun e w' => e = .returned (.tuple #[.agg #[.pointer none, .pointer none], .bool true]) ∧ Below w.heap.size w w' := by
  have HA := hide fun x => New_bad x lim ep h
  have HR := hide fun x => rnew_bad x lim ep h
  have HB0 : Hid ((w.alloc (.cells #[.pointer none, .pointer none] 26)).heap[w.heap.size]? = some (.cells #[.pointer none, .pointer none] 26 (0, 0))) := hide (Go.heap_alloc_new w _)
  have HS0 : Hid ((w.alloc (.cells #[.pointer none, .pointer none] 26)).heap.size = w.heap.size + 1) := hide (by simp)
  have HW0 := hide (below_alloc w (.cells #[.pointer none, .pointer none] 26))
  clear h
  go_enter Try.func4, Try.ntmps4
  go_wp2_with (first
    | (go_at_call 8; refine (HA.out _).mono ?_; rintro e y1 ⟨rfl, k2⟩; have HB1 := hide ((k2.block w.heap.size (by rw [HS0.out]; omega)).trans HB0.out); have K2 := hide (HW0.out.trans (k2.mono HW0.out.size)); have K5 := hide k2.size; clear k2)
    | (go_at_call 9; refine (HR.out _).mono ?_; rintro e y2 ⟨rfl, k2⟩; have hs0 := HS0.out; have hs5 := K5.out; have HB2 := hide ((k2.block w.heap.size (by omega)).trans HB1.out); have D2 := hide (K2.out.trans (k2.mono K2.out.size)); have b0 : y2.cell? ⟨w.heap.size, 0, none⟩ = some (.pointer none) := (by rw [cell_of_row _ _ _ _ _ _ HB2.out]; rfl); have b1 : y2.cell? ⟨w.heap.size, 1, none⟩ = some (.pointer none) := (by rw [cell_of_row _ _ _ _ _ _ HB2.out]; rfl); have f0 := frozen_of_row _ _ 0 _ 26 HB2.out; have f1 := frozen_of_row _ _ 1 _ 26 HB2.out; clear k2 hs0 hs5)
    | (go_at_call 10; refine (num_any _ _).mono ?_; rintro e y3 ⟨rfl, h9⟩; have h9s := h9.symm; clear h9; subst h9s))
  refine bodyPost_ret (results_row_tmp (p := 4) (u := 5) rfl _ _ w.heap.size 26 #[.pointer none, .pointer none] (0, 0) _ (by kernel_rfl) (set2 HB2.out _ _) Try.underlying26 rfl (by kernel_rfl)) rfl ?_
  exact ⟨rfl, Chg.below (U := fun _ => False) (chg_set (chg_set (Chg.ofBelow D2.out) _ _ _ (.inr (Nat.le_refl _))) _ _ _ (.inr (Nat.le_refl _))) (Nat.le_refl _) (fun _ e => e.elim)⟩
end Go.Proofs.Ytcdmkbjibcahcab
