import Derived.Test.YthbnkgbpodnjcabLkMade
namespace Go.Proofs.Ythbnkgbpodnjcab
open Go.RowKit
set_option linter.unusedVariables false
set_option linter.unusedSimpArgs false
set_option maxRecDepth 20000

def opV (k : Int) : Value := .agg #[.int .i64 k, .int .u32 0, .int .u32 0, .slice none 0 0]
theorem NP.cells {w x : World} {pp kb rb : Nat} {a b c d : Int} (h : NP w x pp kb rb a b c d) : x.cell? ⟨pp, 0, none⟩ = some (.pointer (some ⟨kb, 0, none⟩)) ∧ x.cell? ⟨pp, 1, none⟩ = some (.pointer (some ⟨rb, 0, none⟩)) ∧ x.cell? ⟨pp, 2, none⟩ = some (.bool false) :=
  ⟨by rw [cell_of_row _ _ _ _ _ _ h.p]; rfl, by rw [cell_of_row _ _ _ _ _ _ h.p]; rfl, by rw [cell_of_row _ _ _ _ _ _ h.p]; rfl⟩
set_option maxHeartbeats 1000000 in
theorem step_5 (w x : World) (pp kb rb : Nat) (a b c d : Int) (h : NP w x pp kb rb a b c d) : Calls Try.prog 10 #[.pointer (some ⟨pp, 0, none⟩), opV 5] x fun e w' => e = .returned (.bool true) ∧ NP w w' pp kb rb a b c d := by
  unfold opV
  have HN := hide (h.below ((Below.refl x.heap.size x).alloc (Nat.le_refl _) (.cells #[.int .i64 5, .int .u32 0, .int .u32 0, .slice none 0 0] 39)))
  have HK := hide (kState_new _ kb a b c d HN.out.k)
  have HR := hide (rState_new _ rb a b c d HN.out.r)
  obtain ⟨c0, c1, c2⟩ := HN.out.cells
  clear h
  go_enter Try.func10, Try.ntmps10
  go_wp2_with (first
    | (go_at_call 15; refine HK.out.mono ?_; rintro e' w2 ⟨rfl, hw2⟩; subst hw2; clear HK)
    | (go_at_call 16; refine HR.out.mono ?_; rintro e' w2 ⟨rfl, hw2⟩; subst hw2; clear HR))
  go_ret
  exact ⟨rfl, HN.out⟩
set_option maxHeartbeats 1000000 in
theorem step_6 (w x : World) (pp kb rb : Nat) (a b c d : Int) (h : NP w x pp kb rb a b c d) : Calls Try.prog 10 #[.pointer (some ⟨pp, 0, none⟩), opV 6] x fun e w' => e = .returned (.bool true) ∧ NP w w' pp kb rb a b c d := by
  unfold opV
  have HN := hide (h.below ((Below.refl x.heap.size x).alloc (Nat.le_refl _) (.cells #[.int .i64 6, .int .u32 0, .int .u32 0, .slice none 0 0] 39)))
  have HK := hide (kPeer_new _ kb a b c d HN.out.k)
  have HR := hide (rPeer_new _ rb a b c d HN.out.r)
  obtain ⟨c0, c1, c2⟩ := HN.out.cells
  clear h
  go_enter Try.func10, Try.ntmps10
  go_wp2_with (first
    | (go_at_call 17; refine HK.out.mono ?_; rintro e' w2 ⟨rfl, hw2⟩; subst hw2; clear HK)
    | (go_at_call 18; refine HR.out.mono ?_; rintro e' w2 ⟨rfl, hw2⟩; subst hw2; clear HR))
  go_ret
  exact ⟨rfl, HN.out⟩
set_option maxHeartbeats 1000000 in
theorem step_7 (w x : World) (pp kb rb : Nat) (a b c d : Int) (h : NP w x pp kb rb a b c d) : Calls Try.prog 10 #[.pointer (some ⟨pp, 0, none⟩), opV 7] x fun e w' => e = .returned (.bool true) ∧ NP w w' pp kb rb a b c d := by
  unfold opV
  have HN := hide (h.below ((Below.refl x.heap.size x).alloc (Nat.le_refl _) (.cells #[.int .i64 7, .int .u32 0, .int .u32 0, .slice none 0 0] 39)))
  have HK := hide (kFlight_new _ kb a b c d HN.out.k)
  have HR := hide fun y (hy : NP w y pp kb rb a b c d) => rFlight_new y rb a b c d hy.r
  obtain ⟨c0, c1, c2⟩ := HN.out.cells
  clear h
  go_enter Try.func10, Try.ntmps10
  go_wp2_with (first
    | (go_at_call 19; refine HK.out.mono ?_; rintro e' w2 ⟨rfl, hw2⟩; have HN2 := hide (HN.out.below hw2); obtain ⟨d0, d1, d2⟩ := HN2.out.cells; clear HK hw2)
    | (go_at_call 20; refine (HR.out _ HN2.out).mono ?_; rintro e' w3 ⟨rfl, hw3⟩; have HN3 := hide (HN2.out.below hw3); clear HR hw3))
  try (go_quiet (fail))
  try go_wp2
  go_ret
  exact ⟨rfl, by first | exact HN3.out | exact HN3.out.below ⟨rfl, rfl, rfl, Nat.le_refl _, fun _ _ => rfl⟩⟩
theorem bel_setCell {n : Nat} {w x : World} (h : Below n w x) (g i : Nat) (hg : n ≤ g) (v : Value) : Below n w (x.setCell ⟨g, i, none⟩ v) := h.setCell hg v
set_option maxHeartbeats 1000000 in
theorem moves_4 (w x : World) (pp kb rb : Nat) (a b c d : Int) (h : NP w x pp kb rb a b c d) : Calls Try.prog 14 #[.pointer (some ⟨pp, 0, none⟩), opV 4] x fun e w' => e = .returned (.bool true) ∧ Below w.heap.size w w' := by
  unfold opV
  have HN := hide (h.below ((Below.refl x.heap.size x).alloc (Nat.le_refl _) (.cells #[.int .i64 4, .int .u32 0, .int .u32 0, .slice none 0 0] 39)))
  have HK := hide (kOut_new _ kb a b c d HN.out.k)
  obtain ⟨c0, c1, c2⟩ := HN.out.cells
  have hne : kb ≠ rb := by
    intro e
    have h1 := HN.out.k; have h2 := HN.out.r
    rw [e] at h1
    rw [h1] at h2
    simp at h2
  have hne2 : pp ≠ kb := by
    intro e
    have h1 := HN.out.p; have h2 := HN.out.k
    rw [e] at h1
    rw [h1] at h2
    simp at h2
  have hne3 : pp ≠ rb := by
    intro e
    have h1 := HN.out.p; have h2 := HN.out.r
    rw [e] at h1
    rw [h1] at h2
    simp at h2
  clear h
  generalize hx1 : x.alloc (.cells #[.int .i64 4, .int .u32 0, .int .u32 0, .slice none 0 0] 39) = x1 at HN HK c0 c1 c2
  have hz : x1.cell? ⟨x.heap.size, 0, none⟩ = some (.int .i64 4) := by rw [← hx1]; simp [go_sem]
  have hr2 : (x1.setCell ⟨kb, 15, none⟩ (.slice none 0 0)).heap[rb]? = some (.cells (rRow a b c d) 66 (0, 0)) := (Go.heap_setCell_other _ _ _ _ (by exact fun e => hne e.symm)).trans HN.out.r
  have HR := hide (rOut_new _ rb a b c d hr2)
  have HB : Hid (Below w.heap.size w ((x1.setCell ⟨kb, 15, none⟩ (.slice none 0 0)).setCell ⟨rb, 17, none⟩ (.slice none 0 0))) := hide (bel_setCell (bel_setCell HN.out.bel kb 15 HN.out.lo.1 _) rb 17 HN.out.lo.2 _)
  have d0 : ((x1.setCell ⟨kb, 15, none⟩ (.slice none 0 0)).setCell ⟨rb, 17, none⟩ (.slice none 0 0)).cell? ⟨pp, 2, none⟩ = some (.bool false) := by
    rw [World.cell?_of_block ((Go.heap_setCell_other _ _ _ _ (by exact hne3)).trans (Go.heap_setCell_other _ _ _ _ (by exact hne2)))]; exact c2
  have d1 : (x1.setCell ⟨kb, 15, none⟩ (.slice none 0 0)).cell? ⟨pp, 1, none⟩ = some (.pointer (some ⟨rb, 0, none⟩)) := by
    rw [World.cell?_of_block (Go.heap_setCell_other _ _ _ _ (by exact hne2))]; exact c1
  generalize hx2 : x1.setCell ⟨kb, 15, none⟩ (.slice none 0 0) = x2 at HK HR HB d0 d1
  generalize hx3 : x2.setCell ⟨rb, 17, none⟩ (.slice none 0 0) = x3 at HR HB d0
  have HL := hide (sameLists_nil x3)
  clear hx2 hx3 hr2 hne hne2 hne3 HN
  go_enter Try.func14, Try.ntmps14
  go_wp2_with (first
    | (go_at_call 38; refine HK.out.mono ?_; rintro e' w2 ⟨rfl, hw2⟩; subst hw2; clear HK)
    | (go_at_call 39; refine HR.out.mono ?_; rintro e' w2 ⟨rfl, hw2⟩; subst hw2; clear HR)
    | (go_at_call 36; refine HL.out.mono ?_; rintro e' w2 ⟨rfl, hw2⟩; subst hw2; clear HL))
  go_ret
  exact ⟨rfl, HB.out⟩
set_option maxHeartbeats 1000000 in
theorem step_4 (w x : World) (pp kb rb : Nat) (a b c d : Int) (h : NP w x pp kb rb a b c d) : Calls Try.prog 10 #[.pointer (some ⟨pp, 0, none⟩), opV 4] x fun e w' => e = .returned (.bool true) ∧ Below w.heap.size w w' := by
  have HM := hide (moves_4 w _ pp kb rb a b c d (h.below ((Below.refl x.heap.size x).alloc (Nat.le_refl _) (.cells #[.int .i64 4, .int .u32 0, .int .u32 0, .slice none 0 0] 39))))
  unfold opV at *
  clear h
  go_enter Try.func10, Try.ntmps10
  go_wp2_with (go_at_call 14; refine HM.out.mono ?_; rintro e' w2 ⟨rfl, hw2⟩; have HB := hide hw2; clear hw2 HM)
  go_ret
  exact ⟨rfl, HB.out⟩
set_option maxHeartbeats 1000000 in
theorem news_law (w : World) (a b c d : Int) : Calls Try.prog 3 #[.agg #[.int .i64 a, .int .i64 b, .int .i64 c, .int .i64 d]] w fun e w' => e = .returned (.bool true) ∧ Below w.heap.size w w' := by
  have HB0 := hide ((Below.refl w.heap.size w).alloc (Nat.le_refl _) (.cells #[.int .i64 a, .int .i64 b, .int .i64 c, .int .i64 d] 23))
  cases h : okN a b c d with
  | false =>
    have HM := hide fun y => made_no y a b c d h
    clear h
    go_enter Try.func3, Try.ntmps3
    go_wp2_with (go_at_call 9; refine (HM.out _).mono ?_; rintro e' w2 ⟨pp, rfl, hc, hb⟩; have HB := hide (HB0.out.trans (hb.mono (by simp))); clear HM hb HB0)
    go_ret
    exact ⟨rfl, HB.out⟩
  | true =>
    have HM := hide fun y => made_yes y a b c d h
    have H5 := hide fun x pp kb rb y => step_5 x y pp kb rb a b c d
    have H6 := hide fun x pp kb rb y => step_6 x y pp kb rb a b c d
    have H7 := hide fun x pp kb rb y => step_7 x y pp kb rb a b c d
    have H4 := hide fun x pp kb rb y => step_4 x y pp kb rb a b c d
    unfold opV at *
    clear h
    go_enter Try.func3, Try.ntmps3
    go_wp2_with (first
      | (go_at_call 9; refine (HM.out _).mono ?_; rintro e' w2 ⟨pp, kb, rb, rfl, hn⟩; have HN := hide hn; obtain ⟨c0, c1, c2⟩ := hn.cells; clear HM hn)
      | (go_at_call 10; refine (H5.out _ _ _ _ _ HN.out).mono ?_; rintro e' w3 ⟨rfl, hn⟩; clear HN; have HN := hide hn; clear hn H5)
      | (go_at_call 10; refine (H6.out _ _ _ _ _ HN.out).mono ?_; rintro e' w4 ⟨rfl, hn⟩; clear HN; have HN := hide hn; clear hn H6)
      | (go_at_call 10; refine (H7.out _ _ _ _ _ HN.out).mono ?_; rintro e' w5 ⟨rfl, hn⟩; clear HN; have HN := hide hn; clear hn H7)
      | (go_at_call 10; refine (H4.out _ _ _ _ _ HN.out).mono ?_; rintro e' w6 ⟨rfl, hn⟩; have HB := hide (HB0.out.trans (hn.mono (by simp))); clear hn H4))
    go_ret
    exact ⟨rfl, HB.out⟩
end Go.Proofs.Ythbnkgbpodnjcab
