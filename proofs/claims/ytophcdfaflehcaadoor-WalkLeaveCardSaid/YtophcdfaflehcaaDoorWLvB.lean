import Derived.Test.YtophcdfaflehcaaDoorWLvN
namespace Go.Proofs.YtophcdfaflehcaaDoor
open Go.RowKit Go.Shelf
attribute [local go_sem] Oper.semAt_some
set_option linter.unusedVariables false
set_option linter.unusedSimpArgs false
set_option maxRecDepth 20000

set_option maxHeartbeats 2000000 in
theorem leave_bad {w : World} {v : Value} {l : List Nat} (n s k : Int) (hT : TabAt w) (hv : WSl w v l) (hr : l.length ≤ 17592186044416) (he : nErr n s l ≠ 0) :
    Calls Tryd.prog 4 #[.int .i64 n, v, .int .i64 s, .int .i64 k] w fun e w' => e = .returned (.bool true) ∧ Below w.heap.size w w' := by
  refine (callsIn_wide (n := 5)).1 ?_
  have HLT := hide hv.lt
  have HO : Hid (∀ W, Below w.heap.size w W → Calls Tryd.prog 8 #[v] W fun e w' => ∃ v', e = .returned v' ∧ URow w' v' l ∧ Below W.heap.size W w') := hide fun W hW => (ownWords_any (hv.below hW) hr).mono fun e w' ⟨v', h1, h2, h3, _⟩ => ⟨v', h1, h2, h3⟩
  have HNW : Hid (∀ w1 v1, URow w1 v1 l → Calls Tryd.prog 7 #[.int .i64 n, v1, .int .i64 s] w1 fun e w' => e = .returned (.tuple #[.pointer none, .int .i64 ((nErr n s l : Nat) : Int)]) ∧ Below w1.heap.size w1 w') := hide fun w1 v1 h => new_bad n s (h.wsl HLT.out) he
  have HW1 : Hid (∀ w1 b, Below w.heap.size w w1 → w1.heap[b]? = some (.cells #[.int .u64 1] 28 (0, 0)) → Calls Tryd.prog 7 #[.int .i64 1, .slice (some ⟨b, 0, none⟩) 1 1, .int .i64 0] w1 fun e w' => ∃ p, e = .returned (.tuple #[.pointer (some ⟨p, 0, none⟩), .int .i64 0]) ∧ RS w1 w' p [0]) := hide fun w1 b hb hc => by
    have hw : WSl w1 (.slice (some ⟨b, 0, none⟩) 1 1) [1] := ⟨_, _, rfl, by simp, by unfold maxLen; simp, by simp, by simp, fun _ => ⟨b, 0, rfl, fun i hi => by
      have : i = 0 := by simpa using hi
      subst this
      rw [cell_of_row _ _ _ _ _ _ hc]; rfl⟩⟩
    exact new_rs 1 0 (hT.below hb) hw (by decide) (by decide) (by decide) (by decide)
  have hne : (((nErr n s l : Nat) : Int) != 0) = true := by simpa using he
  generalize nErr n s l = ee at *
  obtain ⟨a, cap, rfl, q1, q2, q3, q4, q5⟩ := hv
  clear q3 q4 q5 he hT HLT
  unfold maxLen at q2
  generalize l.length = len at *
  have hpe := pEqNil
  obtain ⟨w0, hw0⟩ : ∃ w0, (w.alloc (Obj.cells #[Value.int IntKind.i64 k] 3)).alloc (Obj.cells #[Value.bool false] 4) = w0 := ⟨_, rfl⟩
  have HB0 : Hid (Below w.heap.size w w0) := hide (by rw [← hw0]; exact ((Below.refl _ _).alloc (Nat.le_refl _) _).alloc (by simp) _)
  have hs0 : w0.heap.size = w.heap.size + 2 := by rw [← hw0]; simp
  have r1 : w0.heap[w.heap.size + 1]? = some (.cells #[.bool false] 4 (0, 0)) := by rw [← hw0]; have := Go.heap_alloc_new (w.alloc (Obj.cells #[Value.int IntKind.i64 k] 3)) (Obj.cells #[Value.bool false] 4); rwa [World.size_alloc] at this
  have HR1 := hide r1
  have HS0 := hide hs0
  have HW0 := hide hw0
  clear hw0 r1 hs0
  refine callsIn_of_wp_marks Tryd.func4 rfl trivial ?_ rfl
  simp only [Tryd.ntmps4, List.size_toArray, List.length_cons, List.length_nil, Nat.reduceAdd, Nat.reduceSub, Array.replicate_succ, Array.replicate_zero, List.push_toArray, List.append_toArray, List.nil_append, List.cons_append]
  gi_wp2_with (first
    | (refine ⟨trivial, ?_⟩; gi_at_call 8; refine (callsIn_wide.2 (HO.out _ (HB0.out.trans (HB02.out.mono HB0.out.size)))).mono ?_; rintro e w3 ⟨v3, rfl, hU3, hB3⟩; have HU3 := hide hU3; have HB03 := hide (HB02.out.trans (hB3.mono HB02.out.size)); clear hU3 hB3 HO HB02)
    | (refine ⟨trivial, ?_⟩; gi_at_call 8; rw [HW0.out]; refine (callsIn_wide.2 (HO.out _ HB0.out)).mono ?_; rintro e w1 ⟨v1, rfl, hU1, hB1⟩; have HU1 := hide hU1; have HB01 := hide hB1; clear hU1 hB1)
    | (refine ⟨trivial, ?_⟩; gi_at_call 7; refine (callsIn_wide.2 (HNW.out _ _ HU3.out)).mono ?_; rintro e w4 ⟨rfl, hR4⟩; have HB04 := hide (HB03.out.trans (hR4.mono HB03.out.size)); clear hR4 HNW HU3 HB03)
    | (refine ⟨trivial, ?_⟩; gi_at_call 7; refine (callsIn_wide.2 (HNW.out _ _ HU1.out)).mono ?_; rintro e w2 ⟨rfl, hR2⟩; have HB02 := hide (HB01.out.trans (hR2.mono HB01.out.size)); clear hR2 HU1 HB01))
  have h5 : ((w4.alloc (.cells #[.pointer none] 23)).alloc (.cells #[.int .u64 1] 28)).heap[w4.heap.size + 1]? = some (.cells #[.int .u64 1] 28 (0, 0)) := by have := Go.heap_alloc_new (w4.alloc (.cells #[.pointer none] 23)) (.cells #[.int .u64 1] 28); rwa [World.size_alloc] at this
  have hb5 : Below w0.heap.size w0 ((w4.alloc (.cells #[.pointer none] 23)).alloc (.cells #[.int .u64 1] 28)) := (HB04.out.alloc HB04.out.size _).alloc (by have := HB04.out.size; simp; omega) _
  have hv5 : ((w4.alloc (.cells #[.pointer none] 23)).alloc (.cells #[.int .u64 1] 28)).heap[w4.heap.size]? = some (.cells #[.pointer none] 23 (0, 0)) := by rw [Below.heap_alloc _ _ _ (by simp)]; exact Go.heap_alloc_new w4 _
  have HWN := hide (HW1.out _ _ (HB0.out.trans (hb5.mono HB0.out.size)) h5)
  have HB5 := hide hb5
  have HV5 := hide hv5
  clear h5 hb5 hv5 HW1
  generalize (w4.alloc (.cells #[.pointer none] 23)).alloc (.cells #[.int .u64 1] 28) = w5 at *
  generalize w4.heap.size = M at *
  gi_wp2_with (first
    | (refine ⟨trivial, ?_⟩; gi_at_call 7; refine (callsIn_wide.2 HWN.out).mono ?_; rintro e w6 ⟨x6, rfl, hR6⟩; have HB6 := hide (HB5.out.trans (hR6.bel.mono HB5.out.size)); have HX6 := hide hR6.left; have cv : w6.cell? ⟨M, 0, none⟩ = some (.pointer none) := (by rw [cell_of_row _ _ _ _ _ _ ((hR6.bel.block M (Array.getElem?_eq_some_iff.1 HV5.out).1).trans HV5.out)]; rfl); have kr : w6.heap[w.heap.size + 1]? = some (.cells #[.bool false] 4 (0, 0)) := (HB6.out.block _ (by rw [HS0.out]; omega)).trans HR1.out; have k1 : w6.cell? ⟨w.heap.size + 1, 0, none⟩ = some (.bool false) := (by rw [cell_of_row _ _ _ _ _ _ kr]; rfl); have f1 : w6.frozen? ⟨w.heap.size + 1, 0, none⟩ = false := frozen_of_row _ _ _ _ _ kr; clear hR6 HWN kr)
    | (refine ⟨trivial, ?_⟩; gi_at_call 11; refine (callsIn_wide.2 HX6.out).mono ?_; rintro e w' ⟨rfl, rfl⟩; clear HX6)
    | (refine ⟨trivial, ?_⟩; gi_at_call 9; refine (callsIn_wide.2 (num_any _ _)).mono ?_; rintro e w' ⟨rfl, rfl⟩))
  all_goals
    refine ⟨.bool true, ?_, rfl, ?_⟩
    · simp [results, Tryd.results4, go_sem, World.cell?_setCell_same', k1]
    · exact (HB0.out.trans (HB6.out.mono HB0.out.size)).setCell (p := ⟨w.heap.size + 1, 0, none⟩) (by show w.heap.size ≤ w.heap.size + 1; omega) _
end Go.Proofs.YtophcdfaflehcaaDoor
