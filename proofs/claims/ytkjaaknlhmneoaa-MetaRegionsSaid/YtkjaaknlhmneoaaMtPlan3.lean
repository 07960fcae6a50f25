import Derived.Test.YtkjaaknlhmneoaaMtPlan2
namespace Go.Proofs.Ytkjaaknlhmneoaa
open Go.RowKit
set_option linter.unusedVariables false
set_option maxRecDepth 20000

theorem row9 {x w3 : World} {cs : Array Value} {t : TypeId} (hb : Below (x.alloc (.cells cs t)).heap.size (x.alloc (.cells cs t)) w3) (o : Obj) (j : Nat) : (w3.alloc o).cell? ⟨x.heap.size, j, none⟩ = cs[j]? := by
  have h1 : w3.heap[x.heap.size]? = some (.cells cs t) := (hb.block _ (by simp)).trans (Go.heap_alloc_new _ _)
  have h2 : x.heap.size < w3.heap.size := by have := hb.size; rw [World.size_alloc] at this; omega
  exact cell_of_row _ _ _ _ _ _ ((Below.heap_alloc _ _ _ h2).trans h1)
set_option maxHeartbeats 2000000 in
theorem plansLaw (w : World) (b s k : Int) : Calls Try.prog 4 #[.int .i64 b, .int .i64 s, .int .i64 k] w fun e w' => e = .returned (.bool true) ∧ Below w.heap.size w w' := by
  have HB := hide (Below.refl w.heap.size w)
  cases h : okPlan b s k with
  | true =>
    have H1 := hide fun x => plan_yes x b s k h
    have H2 := hide fun x => rplan_yes x b s k h
    clear h
    unfold planV at H1 H2
    generalize areaB b s = q at *
    generalize mring k = r at *
    go_enter Try.func4, Try.ntmps4
    go_wp2_with (first
      | (go_at_call 11; refine (H1.out _).mono ?_; rintro e w2 ⟨rfl, hb2⟩; have HB2 := hide hb2; clear hb2)
      | (go_at_call 12; refine (H2.out _).mono ?_; rintro e w3 ⟨rfl, hb3⟩; have c0 : ∀ o, (w3.alloc o).cell? ⟨w2.heap.size, 0, none⟩ = some (.int .i64 b) := fun o => row9 hb3 o 0; have c1 : ∀ o, (w3.alloc o).cell? ⟨w2.heap.size, 1, none⟩ = some (.int .i64 s) := fun o => row9 hb3 o 1; have c2 : ∀ o, (w3.alloc o).cell? ⟨w2.heap.size, 2, none⟩ = some (.int .i64 k) := fun o => row9 hb3 o 2; have c3 : ∀ o, (w3.alloc o).cell? ⟨w2.heap.size, 3, none⟩ = some (.int .i64 b) := fun o => row9 hb3 o 3; have c4 : ∀ o, (w3.alloc o).cell? ⟨w2.heap.size, 4, none⟩ = some (.int .i64 q) := fun o => row9 hb3 o 4; have c5 : ∀ o, (w3.alloc o).cell? ⟨w2.heap.size, 5, none⟩ = some (.int .i64 (b + q)) := fun o => row9 hb3 o 5; have c6 : ∀ o, (w3.alloc o).cell? ⟨w2.heap.size, 6, none⟩ = some (.int .i64 r) := fun o => row9 hb3 o 6; have c7 : ∀ o, (w3.alloc o).cell? ⟨w2.heap.size, 7, none⟩ = some (.int .i64 (b + q + r)) := fun o => row9 hb3 o 7; have c8 : ∀ o, (w3.alloc o).cell? ⟨w2.heap.size, 8, none⟩ = some (.int .i64 (b + q + r + 2)) := fun o => row9 hb3 o 8; have HB3 := hide hb3; clear hb3))
    have hz2 := HB2.out.size
    have hz3 := HB3.out.size
    rw [World.size_alloc] at hz3
    have hb4 := (HB2.out.alloc hz2 _).trans (HB3.out.mono (by rw [World.size_alloc]; omega))
    go_ret
    exact ⟨rfl, hb4.alloc (by omega) _⟩
  | false =>
    have H1 := hide fun x => plan_no x b s k h
    have H2 := hide fun x => rplan_no x b s k h
    clear h
    unfold noPlan at H1 H2
    go_enter Try.func4, Try.ntmps4
    go_wp2_with (first
      | (go_at_call 11; refine (H1.out _).mono ?_; rintro e w2 ⟨rfl, hb2⟩; have HB2 := hide hb2; clear hb2)
      | (go_at_call 12; refine (H2.out _).mono ?_; rintro e w3 ⟨rfl, hb3⟩; have c0 : ∀ o, (w3.alloc o).cell? ⟨w2.heap.size, 0, none⟩ = some (.int .i64 0) := fun o => row9 hb3 o 0; have c1 : ∀ o, (w3.alloc o).cell? ⟨w2.heap.size, 1, none⟩ = some (.int .i64 0) := fun o => row9 hb3 o 1; have c2 : ∀ o, (w3.alloc o).cell? ⟨w2.heap.size, 2, none⟩ = some (.int .i64 0) := fun o => row9 hb3 o 2; have c3 : ∀ o, (w3.alloc o).cell? ⟨w2.heap.size, 3, none⟩ = some (.int .i64 0) := fun o => row9 hb3 o 3; have c4 : ∀ o, (w3.alloc o).cell? ⟨w2.heap.size, 4, none⟩ = some (.int .i64 0) := fun o => row9 hb3 o 4; have c5 : ∀ o, (w3.alloc o).cell? ⟨w2.heap.size, 5, none⟩ = some (.int .i64 0) := fun o => row9 hb3 o 5; have c6 : ∀ o, (w3.alloc o).cell? ⟨w2.heap.size, 6, none⟩ = some (.int .i64 0) := fun o => row9 hb3 o 6; have c7 : ∀ o, (w3.alloc o).cell? ⟨w2.heap.size, 7, none⟩ = some (.int .i64 0) := fun o => row9 hb3 o 7; have c8 : ∀ o, (w3.alloc o).cell? ⟨w2.heap.size, 8, none⟩ = some (.int .i64 0) := fun o => row9 hb3 o 8; have HB3 := hide hb3; clear hb3))
    have hz2 := HB2.out.size
    have hz3 := HB3.out.size
    rw [World.size_alloc] at hz3
    have hb4 := (HB2.out.alloc hz2 _).trans (HB3.out.mono (by rw [World.size_alloc]; omega))
    go_ret
    exact ⟨rfl, hb4.alloc (by omega) _⟩
end Go.Proofs.Ytkjaaknlhmneoaa
