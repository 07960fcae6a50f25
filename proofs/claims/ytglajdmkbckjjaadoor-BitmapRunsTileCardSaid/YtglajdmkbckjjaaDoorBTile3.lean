import Derived.Test.YtglajdmkbckjjaaDoorBTile2
import Derived.Test.YtglajdmkbckjjaaDoorBTwo2
namespace Go.Proofs.YtglajdmkbckjjaaDoor
open Go.RowKit Go.Shelf
attribute [local go_sem] Oper.semAt_some
set_option linter.unusedVariables false
set_option linter.unusedSimpArgs false
set_option maxRecDepth 20000

set_option maxHeartbeats 1000000 in
theorem tile_walk {w : World} {v ov : Value} {l : List Nat} {os : List OpV} (n : Int) (hT : TabAt w) (hv : WSl w v l) (hr : l.length ≤ 17592186044416) (ho : OSl w ov os) :
    Calls Tryd.prog 3 #[.int .i64 n, v, ov] w fun e w' => e = .returned (.bool true) ∧ Below w.heap.size w w' := by
  by_cases hc : canB n l = true
  · obtain ⟨m, rfl, h1, h2, he⟩ := canB_true hc
    exact tile_main m hT hv hr ho h1 h2 he
  · have hc' : canB n l = false := by simpa using hc
    refine (callsIn_wide (n := 5)).1 ?_
    obtain ⟨w0, hw0⟩ : ∃ w0, (w.alloc (Obj.cells #[Value.int IntKind.i64 n] 3)).alloc (Obj.cells #[Value.bool false] 4) = w0 := ⟨_, rfl⟩
    have hb0 : Below w.heap.size w w0 := by rw [← hw0]; exact ((Below.refl _ _).alloc (Nat.le_refl _) _).alloc (by simp) _
    have q0 : w0.heap[w.heap.size]? = some (.cells #[.int .i64 n] 3 (0, 0)) := by rw [← hw0, Below.heap_alloc _ _ _ (by simp)]; exact Go.heap_alloc_new w _
    have q1 : w0.heap[w.heap.size + 1]? = some (.cells #[.bool false] 4 (0, 0)) := by rw [← hw0]; have := Go.heap_alloc_new (w.alloc (Obj.cells #[Value.int IntKind.i64 n] 3)) (Obj.cells #[Value.bool false] 4); rwa [World.size_alloc] at this
    have HL := hide (listed_any n (hv.below hb0))
    rw [hc'] at HL
    have k1 : w0.cell? ⟨w.heap.size + 1, 0, none⟩ = some (.bool false) := by rw [cell_of_row _ _ _ _ _ _ q1]; rfl
    have f1 : w0.frozen? ⟨w.heap.size + 1, 0, none⟩ = false := frozen_of_row _ _ _ _ 4 q1
    have HCELL : Hid ((w0.setCell ⟨w.heap.size + 1, 0, none⟩ (.bool true)).cell? ⟨w.heap.size + 1, 0, none⟩ = some (.bool true)) := hide (World.cell?_setCell_same' _ _ _ (by rw [k1]; rfl))
    have HBEL : Hid (Below w.heap.size w (w0.setCell ⟨w.heap.size + 1, 0, none⟩ (.bool true))) := hide (hb0.setCell (p := ⟨w.heap.size + 1, 0, none⟩) (by show w.heap.size ≤ w.heap.size + 1; omega) _)
    have HW0 := hide hw0
    obtain ⟨va, vcap, rfl, -⟩ := hv
    obtain ⟨oa, ocap, rfl, -⟩ := ho
    clear hc hc' hT hr q0 q1 hb0 hw0
    generalize l.length = llen at *
    generalize os.length = olen at *
    refine callsIn_of_wp_marks Tryd.func3 rfl trivial ?_ rfl
    simp only [Tryd.ntmps3, List.size_toArray, List.length_cons, List.length_nil, Nat.reduceAdd, Nat.reduceSub, Array.replicate_succ, Array.replicate_zero, List.push_toArray, List.append_toArray, List.nil_append, List.cons_append]
    gi_wp2_with (refine ⟨trivial, ?_⟩; gi_at_call 9; rw [HW0.out]; refine (callsIn_wide.2 HL.out).mono ?_; clear HL; rintro e w' ⟨rfl, rfl⟩)
    refine ⟨.bool true, ?_, rfl, ?_⟩
    · simp [results, Tryd.results3, go_sem, HCELL.out]
    · exact HBEL.out
end Go.Proofs.YtglajdmkbckjjaaDoor
