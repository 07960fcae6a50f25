import Derived.Test.YtlmfdbimchhjjabIdCmpN
namespace Go.Proofs.Ytlmfdbimchhjjab
open Go.RowKit
set_option linter.unusedVariables false
set_option linter.unusedSimpArgs false
set_option maxRecDepth 20000

theorem hp_cells4 {w : World} {g : Nat} {x0 x1 x2 x3 : Value} {t : TypeId} {fr : Nat × Nat} (h : w.heap[g]? = some (.cells #[x0, x1, x2, x3] t fr)) : w.cell? ⟨g, 0, none⟩ = some x0 ∧ w.cell? ⟨g, 1, none⟩ = some x1 ∧ w.cell? ⟨g, 2, none⟩ = some x2 ∧ w.cell? ⟨g, 3, none⟩ = some x3 ∧ g < w.heap.size :=
  ⟨cell_of_row _ _ _ _ _ _ h, cell_of_row _ _ _ _ _ _ h, cell_of_row _ _ _ _ _ _ h, cell_of_row _ _ _ _ _ _ h, (Array.getElem?_eq_some_iff.1 h).1⟩
theorem cmp01 (w : World) (g h : Gn) (fo fp : Int) : ∃ k r : Int, (0 ≤ k ∧ k ≤ 7) ∧ (1 ≤ r ∧ r ≤ 14) ∧ (∀ w, Calls Try.prog 6 #[.int .i64 0, g.val, .int .u32 fo, h.val, .int .u32 fp] w fun e w' => e = .returned (vd k r) ∧ Below w.heap.size w w') ∧ (∀ w, Calls Try.prog 6 #[.int .i64 1, h.val, .int .u32 fp, g.val, .int .u32 fo] w fun e w' => e = .returned (vd (mirK k) r) ∧ Below w.heap.size w w') := by
  have h1 := fun w => compare_any w 0 g h fo fp
  have h2 := fun w => compare_any w 1 h g fp fo
  rw [show ((0 : Int) == 0) = true from rfl] at h1
  rw [show ((1 : Int) == 0) = false from rfl] at h2
  have e1 := cmp_ok (Pr.mk g (bits BinOp.and IntKind.u32 fo 8 != 0) h (bits BinOp.and IntKind.u32 fp 8 != 0) true) rfl
  have e2 := cmp_tu (Pr.mk g (bits BinOp.and IntKind.u32 fo 8 != 0) h (bits BinOp.and IntKind.u32 fp 8 != 0) true) rfl
  have e3 : (Pr.mk g (bits BinOp.and IntKind.u32 fo 8 != 0) h (bits BinOp.and IntKind.u32 fp 8 != 0) true).tu = Pr.mk h (bits BinOp.and IntKind.u32 fp 8 != 0) g (bits BinOp.and IntKind.u32 fo 8 != 0) false := rfl
  rw [e3] at e2
  rw [e2] at h2
  exact ⟨_, _, e1.1, e1.2, h1, h2⟩
set_option maxHeartbeats 1000000 in
theorem mirrorsLaw (w : World) (g h : Gn) (fo fp : Int) : Calls Try.prog 3 #[g.val, .int .u32 fo, h.val, .int .u32 fp] w fun e w' => e = .returned (.bool true) ∧ Below w.heap.size w w' := by
  obtain ⟨k, r, ⟨k0, k7⟩, ⟨r1, r14⟩, hA, hB⟩ := cmp01 w g h fo fp
  have HA := hide hA
  have HB := hide hB
  have HC := hide fun w => mirror_any w k r
  have HD := hide fun w => mirror_any w (mirK k) r
  rw [mirK_mir] at HD
  have HT := hide fun w => turned_any w k r (mirK k) r
  rw [show trn k r (mirK k) r = true by simp [trn]] at HT
  clear hA hB
  generalize mirK k = mk at *
  obtain ⟨c, b, o1, o2⟩ := g
  obtain ⟨c', b', p1, p2⟩ := h
  unfold Gn.val vd at *
  dsimp only at *
  have HO0 := hide (hp_alloc (hp_new w (.cells #[.int .u64 c, .int .u64 b, .int .u64 o1, .int .u64 o2] 24)) (.cells #[.int .u64 c', .int .u64 b', .int .u64 p1, .int .u64 p2] 24))
  have HP0 := hide (heap_snd w (.cells #[.int .u64 c, .int .u64 b, .int .u64 o1, .int .u64 o2] 24) (.cells #[.int .u64 c', .int .u64 b', .int .u64 p1, .int .u64 p2] 24))
  have HB0 := hide (bl2 (Below.refl w.heap.size w) (.cells #[.int .u64 c, .int .u64 b, .int .u64 o1, .int .u64 o2] 24) (.cells #[.int .u64 c', .int .u64 b', .int .u64 p1, .int .u64 p2] 24))
  go_enter Try.func3, Try.ntmps3
  go_wp2_with (first
    | (go_at_call 6; (with_reducible refine (HA.out _).mono ?_); rintro e w1 ⟨rfl, hb⟩; have HO1 := hide (hp_below HO0.out hb); have HP1 := hide (hp_below HP0.out hb); have HB1 := hide (bel_to HB0.out hb); obtain ⟨a0, a1, a2, a3, ax⟩ := hp_cells4 HO1.out; obtain ⟨b0, b1, b2, b3, bx⟩ := hp_cells4 HP1.out; clear hb HO0 HP0 HB0 HA)
    | (go_at_call 6; (with_reducible refine (HB.out _).mono ?_); rintro e w2 ⟨rfl, hb⟩; have HA2 := hide (hp_below (hp_new w1 _) hb); have HB2 := hide (bel_to (bl1 HB1.out _) hb); obtain ⟨c0, c1, cx⟩ := hp_cells2 HA2.out; clear hb HO1 HP1 HB1 HB)
    | (go_at_call 7; (with_reducible refine (HC.out _).mono ?_); rintro e w3 ⟨rfl, X, Y, h9⟩; have hb : Below _ _ w3 := (by rw [h9]; exact bel_2); have HA3 := hide (hp_below (hp_alloc HA2.out _) hb); have HE3 := hide (hp_below (hp_new w2 _) hb); have HB3 := hide (bel_to (bl1 HB2.out _) hb); obtain ⟨c0, c1, cx⟩ := hp_cells2 HA3.out; obtain ⟨e0, e1, ex⟩ := hp_cells2 HE3.out; clear hb h9 HA2 HB2 HC)
    | (go_at_call 7; (with_reducible refine (HD.out _).mono ?_); rintro e w4 ⟨rfl, X, Y, h9⟩; have hb : Below _ _ w4 := (by rw [h9]; exact bel_2); have HA4 := hide (hp_below (hp_alloc HA3.out _) hb); have HE4 := hide (hp_below (hp_alloc HE3.out _) hb); have HF4 := hide (hp_below (hp_new w3 _) hb); have HB4 := hide (bel_to (bl1 HB3.out _) hb); obtain ⟨c0, c1, cx⟩ := hp_cells2 HA4.out; obtain ⟨e0, e1, ex⟩ := hp_cells2 HE4.out; obtain ⟨f0, f1, fx⟩ := hp_cells2 HF4.out; clear hb h9 HA3 HE3 HB3 HD)
    | (go_at_call 8; (with_reducible refine (HT.out _).mono ?_); rintro e w5 ⟨rfl, X, Y, h9⟩; have hb : Below _ _ w5 := (by rw [h9]; exact bel_2); have HA5 := hide (hp_below (hp_alloc HA4.out _) hb); have HE5 := hide (hp_below (hp_alloc HE4.out _) hb); have HF5 := hide (hp_below (hp_alloc HF4.out _) hb); have HG5 := hide (hp_below (hp_new w4 _) hb); have HB5 := hide (bel_to (bl1 HB4.out _) hb); obtain ⟨c0, c1, cx⟩ := hp_cells2 HA5.out; obtain ⟨e0, e1, ex⟩ := hp_cells2 HE5.out; obtain ⟨f0, f1, fx⟩ := hp_cells2 HF5.out; obtain ⟨g0, g1, gx⟩ := hp_cells2 HG5.out; clear hb h9 HA4 HE4 HF4 HB4 HT))
  all_goals
    go_ret
    exact ⟨by first | rfl | simp | (simp; omega), HB5.out⟩
end Go.Proofs.Ytlmfdbimchhjjab
