import Derived.Test.YtijfnacplikibabKNewsS
namespace Go.Proofs.Ytijfnacplikibab
open Go.RowKit
set_option linter.unusedVariables false
set_option linter.unusedSimpArgs false
set_option maxRecDepth 20000

set_option maxHeartbeats 1000000 in
theorem step_waiting (w x : World) (pp p b rb k n : Nat) (ws : Int) (bv : Value) (nl : Nat) (ys : List Value) (h : NS w x pp p b rb k n ws bv nl ys) : Calls Try.prog 10 #[.pointer (some ⟨pp, 0, none⟩), opV 7 0] x fun e' y => e' = .returned (.bool true) ∧ Below w.heap.size w y := by
  unfold opV
  have HN := hide (h.below ((Below.refl x.heap.size x).alloc (Nat.le_refl _) (.cells #[.int .i64 7, .bool false, .int .i64 0, .int .i64 0, .int .i64 0] 36)))
  have HT := hide fun z (hz : NS w z pp p b rb k n ws bv nl ys) => Waiting_any z p b n nilV nilL ws 0 hz.t
  have HR := hide fun z (hz : NS w z pp p b rb k n ws bv nl ys) => rWaiting_new z rb n ws hz.r
  obtain ⟨c0, c1, c2⟩ := HN.out.cells
  clear h
  go_enter Try.func10, Try.ntmps10
  go_wp2_with fail
  have HND := hide HN.out.drew
  go_region_held3 (fun z => z.cell? ⟨pp, 0, none⟩ = some (.pointer (some ⟨p, 0, none⟩)) ∧ z.cell? ⟨pp, 1, none⟩ = some (.pointer (some ⟨rb, 0, none⟩))) (first | exact ⟨c0, c1⟩ | exact ⟨d0, d1⟩ | assumption)
    (first
      | (go_at_call 29; refine (HT.out _ HND.out).mono ?_; rintro e' w2 ⟨rfl, ht, hc⟩; have HN2 := hide (HND.out.asked ht hc); obtain ⟨d0, d1, d2⟩ := HN2.out.cells; clear ht hc HT)
      | (go_at_call 30; refine (HR.out _ HN2.out).mono ?_; rintro e' w3 ⟨rfl, rfl⟩; clear HR))
  go_wp2_with fail
  go_ret
  exact ⟨rfl, HN2.out.bel⟩
set_option maxHeartbeats 1000000 in
theorem made_no (w : World) (kb : Nat) (a b : Int) (h : okN a b = false) : Calls Try.prog 9 #[.agg #[.int .i64 a, .int .i64 b], .pointer (some ⟨kb, 0, none⟩)] w fun e w' => ∃ pp, e = .returned (.tuple #[.pointer (some ⟨pp, 0, none⟩), .bool true]) ∧ w'.cell? ⟨pp, 0, none⟩ = some (.pointer none) ∧ Below w.heap.size w w' := by
  have HK := hide fun y => kNew_no y a b h
  have HR := hide fun y => rNew_no y a b h
  clear h
  go_enter Try.func9, Try.ntmps9
  go_wp2_with (first
    | (go_at_call 13; refine (HK.out _).mono ?_; rintro e' w2 ⟨rfl, hw2⟩; subst hw2; clear HK)
    | (go_at_call 14; refine (HR.out _).mono ?_; rintro e' w2 ⟨rfl, hw2⟩; subst hw2; clear HR))
  go_quiet (fail)
  go_wp2_with fail
  go_ret2
  exact ⟨_, rfl, by simp [go_sem], (((Below.refl _ w).alloc (Nat.le_refl _) _).alloc (by simp) _).trans ⟨rfl, rfl, rfl, Nat.le_refl _, fun _ _ => rfl⟩⟩
/-- made's two boxes behind a call -/
theorem two_boxes (w y : World) (M P : Array Value) (tM tP : TypeId) (h : Below ((w.alloc (.cells M tM)).alloc (.cells P tP)).heap.size ((w.alloc (.cells M tM)).alloc (.cells P tP)) y) : y.heap[w.heap.size]? = some (.cells M tM (0, 0)) ∧ y.heap[w.heap.size + 1]? = some (.cells P tP (0, 0)) := by
  have s1 : (w.alloc (.cells M tM)).heap.size = w.heap.size + 1 := by simp
  refine ⟨(h.block _ (by simp; omega)).trans ?_, (h.block _ (by simp)).trans ?_⟩
  · rw [RowKit.Below.heap_alloc _ _ _ (by omega)]; exact Go.heap_alloc_new _ _
  · rw [← s1]; exact Go.heap_alloc_new _ _
theorem made_tail {w w2 w3 : World} {M : Array Value} {k p b n : Nat} {ws : Int} (hw : w3 = (w2.setCell ⟨w.heap.size + 1, 0, none⟩ (.pointer (some ⟨p, 0, none⟩))).alloc (.cells #[.int .i64 (n : Int), .int .i64 ws, .slice none 0 0, .int .i64 0] 73))
    (hX : w2.heap[w.heap.size]? = some (.cells M 23 (0, 0)) ∧ w2.heap[w.heap.size + 1]? = some (.cells #[.pointer none, .pointer none, .pointer (some ⟨k, 0, none⟩)] 40 (0, 0))) (hT : TRep w2 p b 0 n nilV nilL ws 0) {P : Array Value} (hB : Below ((w.alloc (.cells M 23)).alloc (.cells P 40)).heap.size ((w.alloc (.cells M 23)).alloc (.cells P 40)) w2) (hlo : ((w.alloc (.cells M 23)).alloc (.cells P 40)).heap.size ≤ p) :
    w3.heap[w.heap.size + 1]? = some (.cells #[.pointer (some ⟨p, 0, none⟩), .pointer none, .pointer (some ⟨k, 0, none⟩)] 40 (0, 0)) ∧
    (w3.setCell ⟨w.heap.size + 1, 1, none⟩ (.pointer (some ⟨w2.heap.size, 0, none⟩))).heap[w.heap.size + 1]? = some (.cells #[.pointer (some ⟨p, 0, none⟩), .pointer (some ⟨w2.heap.size, 0, none⟩), .pointer (some ⟨k, 0, none⟩)] 40 (0, 0)) ∧
    TRep (w3.setCell ⟨w.heap.size + 1, 1, none⟩ (.pointer (some ⟨w2.heap.size, 0, none⟩))) p b 0 n nilV nilL ws 0 ∧
    (w3.setCell ⟨w.heap.size + 1, 1, none⟩ (.pointer (some ⟨w2.heap.size, 0, none⟩))).heap[w2.heap.size]? = some (.cells (rRow n ws) 73 (0, 0)) ∧
    Below w.heap.size w (w3.setCell ⟨w.heap.size + 1, 1, none⟩ (.pointer (some ⟨w2.heap.size, 0, none⟩))) ∧ w.heap.size ≤ p := by
  have hlt := (Array.getElem?_eq_some_iff.1 hX.2).1
  have hs2 : (w2.setCell ⟨w.heap.size + 1, 0, none⟩ (.pointer (some ⟨p, 0, none⟩))).heap.size = w2.heap.size := World.size_setCell ..
  have h1 : w3.heap[w.heap.size + 1]? = some (.cells #[.pointer (some ⟨p, 0, none⟩), .pointer none, .pointer (some ⟨k, 0, none⟩)] 40 (0, 0)) := by
    rw [hw, RowKit.Below.heap_alloc _ _ _ (by rw [hs2]; exact hlt)]
    exact Go.heap_setCell_same w2 _ 0 _ 40 _ hX.2
  have hk : ∀ g, g < w2.heap.size → g ≠ w.heap.size + 1 → w3.heap[g]? = w2.heap[g]? := fun g hg hne => by
    rw [hw, RowKit.Below.heap_alloc _ _ _ (by rw [hs2]; exact hg), Go.heap_setCell_other _ _ _ _ (by exact hne)]
  obtain ⟨A, hA, -, -⟩ := hT.arr
  have hpp : ∀ g, TU p b n nilV g → g ≠ w.heap.size + 1 := by
    rintro g (rfl | rfl | ⟨j, hj, e⟩)
    · exact neType hT.row hX.2 (by decide)
    · exact neType hA hX.2 (by decide)
    · simp [nilV, Value.ownBlock] at e
  have hrb : w3.heap[w2.heap.size]? = some (.cells (rRow n ws) 73 (0, 0)) := by
    rw [hw, ← hs2]; exact Go.heap_alloc_new _ _
  have hs3 : w3.heap.size = w2.heap.size + 1 := by rw [hw, World.size_alloc, hs2]
  refine ⟨h1, Go.heap_setCell_same w3 _ 1 _ 40 _ h1, hT.kept fun g hg => ?_, ?_, ?_, ?_⟩
  · rw [Go.heap_setCell_other _ _ _ _ (by exact hpp g hg)]
    exact hk g (hT.lt g hg) (hpp g hg)
  · rw [Go.heap_setCell_other _ _ _ _ (show w2.heap.size ≠ w.heap.size + 1 by omega)]
    exact hrb
  · have hb1 : Below w.heap.size w ((w.alloc (.cells M 23)).alloc (.cells P 40)) := ((Below.refl _ w).alloc (Nat.le_refl _) _).alloc (by simp) _
    have hb2 := hb1.trans (hB.mono (by simp; omega))
    have hb3 : Below w.heap.size w w3 := by
      rw [hw]
      exact (hb2.setCell (show w.heap.size ≤ w.heap.size + 1 by omega) _).alloc (by rw [hs2]; omega) _
    exact hb3.setCell (show w.heap.size ≤ w.heap.size + 1 by omega) _
  · simp at hlo; omega
set_option maxHeartbeats 1000000 in
theorem made_yes (w : World) (k n : Nat) (ws : Int) (h : okN n ws = true) : Calls Try.prog 9 #[.agg #[.int .i64 (n : Int), .int .i64 ws], .pointer (some ⟨k, 0, none⟩)] w fun e w' => ∃ pp p b rb, e = .returned (.tuple #[.pointer (some ⟨pp, 0, none⟩), .bool true]) ∧ w'.heap[pp]? = some (.cells #[.pointer (some ⟨p, 0, none⟩), .pointer (some ⟨rb, 0, none⟩), .pointer (some ⟨k, 0, none⟩)] 40 (0, 0)) ∧ TRep w' p b 0 n nilV nilL ws 0 ∧ w'.heap[rb]? = some (.cells (rRow n ws) 73 (0, 0)) ∧ Below w.heap.size w w' ∧ w.heap.size ≤ p := by
  have HK := hide fun y => kNew_yes y n ws h
  have HR := hide fun y => rNew_yes y n ws h
  clear h
  go_enter Try.func9, Try.ntmps9
  go_wp2_with (first
    | (go_at_call 13; refine (HK.out _).mono ?_; rintro e' w2 ⟨p, b, rfl, hT, hB, hlo, -⟩; have HT := hide hT; have HB := hide hB; have HLO := hide hlo; have HX := hide (two_boxes w w2 _ _ _ _ hB); have m0 : w2.cell? ⟨w.heap.size, 0, none⟩ = some (.int .i64 (n : Int)) := (by rw [cell_of_row _ _ _ _ _ _ HX.out.1]; rfl); have m1 : w2.cell? ⟨w.heap.size, 1, none⟩ = some (.int .i64 ws) := (by rw [cell_of_row _ _ _ _ _ _ HX.out.1]; rfl); have q0 : w2.cell? ⟨w.heap.size + 1, 0, none⟩ = some (.pointer none) := (by rw [cell_of_row _ _ _ _ _ _ HX.out.2]; rfl); have q1 : w2.cell? ⟨w.heap.size + 1, 1, none⟩ = some (.pointer none) := (by rw [cell_of_row _ _ _ _ _ _ HX.out.2]; rfl); have z0 : w2.frozen? ⟨w.heap.size + 1, 0, none⟩ = false := frozen_of_row _ _ _ _ 40 HX.out.2; have z1 : w2.frozen? ⟨w.heap.size + 1, 1, none⟩ = false := frozen_of_row _ _ _ _ 40 HX.out.2; clear hT hB hlo HK)
    | (go_at_call 14; refine (HR.out _).mono ?_; rintro e' w3 ⟨rfl, hw3⟩; have HF := hide (made_tail hw3 HX.out HT.out HB.out HLO.out); have q3 : w3.cell? ⟨w.heap.size + 1, 0, none⟩ = some (.pointer (some ⟨p, 0, none⟩)) := (by rw [cell_of_row _ _ _ _ _ _ HF.out.1]; rfl); have q4 : w3.cell? ⟨w.heap.size + 1, 1, none⟩ = some (.pointer none) := (by rw [cell_of_row _ _ _ _ _ _ HF.out.1]; rfl); have z4 : w3.frozen? ⟨w.heap.size + 1, 1, none⟩ = false := frozen_of_row _ _ _ _ 40 HF.out.1; clear hw3 HR))
  go_quiet (fail)
  go_wp2_with fail
  go_ret2
  obtain ⟨-, f1, f2, f3, f4, f5⟩ := HF.out
  exact ⟨w.heap.size + 1, p, b, w2.heap.size, rfl, f1, f2.kept fun _ _ => rfl, f3, below_drewN f4 _, f5⟩
def bkRow : Array Value := #[.slice none 0 0, .bool false, .slice none 0 0, .slice none 0 0]
theorem ns_start {w x : World} {pp p b rb n : Nat} {ws : Int} (h1 : x.heap[pp]? = some (.cells #[.pointer (some ⟨p, 0, none⟩), .pointer (some ⟨rb, 0, none⟩), .pointer (some ⟨w.heap.size, 0, none⟩)] 40 (0, 0))) (h2 : TRep x p b 0 n nilV nilL ws 0) (h3 : x.heap[rb]? = some (.cells (rRow n ws) 73 (0, 0)))
    (h4 : Below (w.alloc (.cells bkRow 31)).heap.size (w.alloc (.cells bkRow 31)) x) (h5 : (w.alloc (.cells bkRow 31)).heap.size ≤ p) : NS w x pp p b rb w.heap.size n ws (.slice none 0 0) 0 [] := by
  have hb1 : Below w.heap.size w (w.alloc (.cells bkRow 31)) := (Below.refl _ w).alloc (Nat.le_refl _) _
  refine ⟨h1, h2, h3, ⟨(h4.block _ (by simp)).trans ?_, ⟨rfl, .inl ⟨rfl, rfl⟩⟩⟩, hb1.trans (h4.mono (by simp)), ⟨by simp at h5; omega, by omega, fun g e => by simp [Value.ownBlock] at e⟩, by omega⟩
  exact Go.heap_alloc_new _ _
theorem ns_box {w x : World} {M : Array Value} {pp p b rb k n : Nat} {ws : Int} {bv : Value} {nl : Nat} {ys : List Value} (h : NS (w.alloc (.cells M 23)) x pp p b rb k n ws bv nl ys) (i : Nat) : x.cell? ⟨w.heap.size, i, none⟩ = M[i]? := by
  rw [below_cell h.bel (by simp) i, cell_of_row _ _ _ _ _ _ (Go.heap_alloc_new w (.cells M 23))]
end Go.Proofs.Ytijfnacplikibab
