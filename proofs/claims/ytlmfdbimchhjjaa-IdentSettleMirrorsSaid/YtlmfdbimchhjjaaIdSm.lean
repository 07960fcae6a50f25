import Derived.Test.YtlmfdbimchhjjaaIdSetL
namespace Go.Proofs.Ytlmfdbimchhjjaa
open Go.RowKit
set_option linter.unusedVariables false
set_option linter.unusedSimpArgs false
set_option maxRecDepth 20000

theorem setl_mir (k r o p : Int) (h1 : okK k = true) (h2 : okD o = true) (h3 : okD p = true) : ∃ ak ar ae : Int, setl k r o p = (ak, ar, ae) ∧ setl (mirK k) r p o = (mirK ak, ar, ae) ∧
    (k = 7 → ae = 0 ∧ ak = k ∧ ar = r) ∧ (k ≠ 7 → o = 0 → p ≠ 0 → ae = 0 ∧ (ak = 2 ∨ ak = 4)) ∧ (k ≠ 7 → ae ≠ 0 → o = 0 ∧ ak = 0 ∧ ar = 0) ∧ (k ≠ 7 → ¬ (o = 0 ∧ p ≠ 0) → ae = 0 → p ≠ 0 ∨ o = 0 ∨ ak = 1 ∨ ak = 3) := by
  rcases okK_cases h1 with rfl | rfl | rfl | rfl | rfl | rfl | rfl | rfl <;> rcases okD_cases h2 with rfl | rfl | rfl <;> rcases okD_cases h3 with rfl | rfl | rfl <;> clear h1 h2 h3 <;>
    refine ⟨_, _, _, rfl, ?_, ?_⟩ <;> simp [setl, mirK, okK, okD, worK, srcK, srcR, rk, isFu]
theorem setl_bad (k r o p : Int) (h : okK k = false ∨ okD o = false ∨ okD p = false) : ∃ ae : Int, setl k r o p = (0, 0, ae) ∧ ae ≠ 0 := by
  unfold setl
  by_cases h1 : okK k = false
  · exact ⟨1, by simp [h1], by decide⟩
  · exact ⟨61, by simp_all, by decide⟩
theorem smir_badE (w : World) (k r o p ae : Int) (hs : setl k r o p = (0, 0, ae)) (hae : ae ≠ 0) (hc : k < 0 ∨ (¬ k < 0 ∧ 7 < k) ∨ (¬ k < 0 ∧ ¬ 7 < k ∧ o < 0) ∨ (¬ k < 0 ∧ ¬ 7 < k ∧ ¬ o < 0 ∧ 2 < o) ∨ (¬ k < 0 ∧ ¬ 7 < k ∧ ¬ o < 0 ∧ ¬ 2 < o ∧ p < 0) ∨ (¬ k < 0 ∧ ¬ 7 < k ∧ ¬ o < 0 ∧ ¬ 2 < o ∧ ¬ p < 0 ∧ 2 < p)) : Calls Try.prog 5 #[vd k r, .int .i64 o, .int .i64 p] w fun e w' => e = .returned (.bool true) ∧ Below w.heap.size w w' := by
  have H1 := hide fun w => settle_any w k r o p
  rw [hs] at H1
  have HNU := hide num_any
  have hae2 : (ae != 0) = true := by simpa using hae
  unfold setV vd at *
  clear hs
  dsimp only at *
  have HB0 := hide (bl1 (Below.refl w.heap.size w) (.cells #[.int .i64 k, .int .i64 r] 26))
  rcases hc with c1 | ⟨c1, c2⟩ | ⟨c1, c2, c3⟩ | ⟨c1, c2, c3, c4⟩ | ⟨c1, c2, c3, c4, c5⟩ | ⟨c1, c2, c3, c4, c5, c6⟩
  all_goals
    go_enter Try.func5, Try.ntmps5
    go_wp2_with (first
      | (go_at_call 10; refine (H1.out _).mono ?_; rintro e w2 ⟨rfl, hb2⟩; have HB1 := hide (bel_to HB0.out hb2); clear hb2)
      | (go_at_call 14; refine (HNU.out _ _).mono ?_; rintro e w5 ⟨rfl, rfl⟩))
    all_goals
      go_ret
      exact ⟨by first | rfl | simp [hae], by first | exact HB1.out | exact bl1 HB1.out _⟩
theorem smir_7 (w : World) (k r o p ak ar ae : Int) (hs : setl k r o p = (ak, ar, ae)) (hs2 : setl (mirK k) r p o = (mirK ak, ar, ae)) (n1 : ¬ k < 0) (n2 : ¬ 7 < k) (n3 : ¬ o < 0) (n4 : ¬ 2 < o) (n5 : ¬ p < 0) (n6 : ¬ 2 < p) (h7 : k = 7) (x1 : ae = 0) (x2 : ak = k) (x3 : ar = r) : Calls Try.prog 5 #[vd k r, .int .i64 o, .int .i64 p] w fun e w' => e = .returned (.bool true) ∧ Below w.heap.size w w' := by
  have H0 := hide fun w => mirror_any w k r
  have H1 := hide fun w => settle_any w k r o p
  have H2 := hide fun w => settle_any w (mirK k) r p o
  rw [hs] at H1
  rw [hs2] at H2
  have H3 := hide fun w => turned_any w ak ar (mirK ak) ar
  rw [show trn ak ar (mirK ak) ar = true by simp [trn]] at H3
  have HNU := hide num_any
  generalize mirK ak = bk at *
  generalize mirK k = mk at *
  unfold setV vd at *
  clear hs hs2
  dsimp only at *
  subst x1 x2 x3 h7
  have HPv := hide (hp_new w (.cells #[.int .i64 7, .int .i64 ar] 26))
  have HB0 := hide (bl1 (Below.refl w.heap.size w) (.cells #[.int .i64 7, .int .i64 ar] 26))
  go_enter Try.func5, Try.ntmps5
  go_wp2_with (first
    | (go_at_call 12; refine (H0.out _).mono ?_; rintro e w1 ⟨rfl, X, Y, h5⟩; have hb : Below _ _ w1 := (by rw [h5]; exact bel_2); have HPv1 := hide (hp_below HPv.out hb); have HB1 := hide (bel_to HB0.out hb); obtain ⟨c0, c1, c2⟩ := hp_cells2 HPv1.out; clear hb h5 HPv HB0)
    | (go_at_call 10; refine (H1.out _).mono ?_; rintro e w2 ⟨rfl, hb⟩; have HPv2 := hide (hp_below (hp_alloc HPv1.out _) hb); have HPb2 := hide (hp_below (hp_new w1 _) hb); have HB2 := hide (bel_to (bl1 HB1.out _) hb); obtain ⟨c0, c1, c2⟩ := hp_cells2 HPv2.out; obtain ⟨d0, d1, d2⟩ := hp_cells2 HPb2.out; clear hb HPv1 HB1 H1)
    | (go_at_call 10; refine (H2.out _).mono ?_; rintro e w3 ⟨rfl, hb⟩; have HPv3 := hide (hp_below (hp_alloc HPv2.out _) hb); have HPa3 := hide (hp_below (hp_new w2 _) hb); have HB3 := hide (bel_to (bl1 HB2.out _) hb); obtain ⟨c0, c1, c2⟩ := hp_cells2 HPv3.out; obtain ⟨e0, e1, e2⟩ := hp_cells2 HPa3.out; clear hb HPv2 HB2 H2)
    | (go_at_call 15; refine (H3.out _).mono ?_; rintro e w4 ⟨rfl, X, Y, h5⟩; have hb : Below _ _ w4 := (by rw [h5]; exact bel_2); have HPv4 := hide (hp_below (hp_alloc HPv3.out _) hb); have HPa4 := hide (hp_below (hp_alloc HPa3.out _) hb); have HB4 := hide (bel_to (bl1 HB3.out _) hb); obtain ⟨c0, c1, c2⟩ := hp_cells2 HPv4.out; obtain ⟨e0, e1, e2⟩ := hp_cells2 HPa4.out; clear hb h5 HPv3 HPa3 HB3)
    | (go_at_call 14; refine (HNU.out _ _).mono ?_; rintro e w5 ⟨rfl, rfl⟩))
  all_goals
    go_ret
    exact ⟨by first | rfl | simp, by first | exact HB4.out⟩
theorem smir_T (w : World) (k r o p ak ar ae : Int) (hs : setl k r o p = (ak, ar, ae)) (hs2 : setl (mirK k) r p o = (mirK ak, ar, ae)) (n1 : ¬ k < 0) (n2 : ¬ 7 < k) (n3 : ¬ o < 0) (n4 : ¬ 2 < o) (n5 : ¬ p < 0) (n6 : ¬ 2 < p) (h7 : ¬ k = 7) (ho : o = 0) (hp : ¬ p = 0) (x1 : ae = 0) (x2 : ak = 2 ∨ ak = 4) : Calls Try.prog 5 #[vd k r, .int .i64 o, .int .i64 p] w fun e w' => e = .returned (.bool true) ∧ Below w.heap.size w w' := by
  have H0 := hide fun w => mirror_any w k r
  have H1 := hide fun w => settle_any w k r o p
  have H2 := hide fun w => settle_any w (mirK k) r p o
  rw [hs] at H1
  rw [hs2] at H2
  have H3 := hide fun w => turned_any w ak ar (mirK ak) ar
  rw [show trn ak ar (mirK ak) ar = true by simp [trn]] at H3
  have HNU := hide num_any
  generalize mirK ak = bk at *
  generalize mirK k = mk at *
  unfold setV vd at *
  clear hs hs2
  dsimp only at *
  subst x1 ho
  rcases x2 with rfl | rfl
  all_goals
    have HPv := hide (hp_new w (.cells #[.int .i64 k, .int .i64 r] 26))
    have HB0 := hide (bl1 (Below.refl w.heap.size w) (.cells #[.int .i64 k, .int .i64 r] 26))
    go_enter Try.func5, Try.ntmps5
    go_wp2_with (first
      | (go_at_call 12; refine (H0.out _).mono ?_; rintro e w1 ⟨rfl, X, Y, h5⟩; have hb : Below _ _ w1 := (by rw [h5]; exact bel_2); have HPv1 := hide (hp_below HPv.out hb); have HB1 := hide (bel_to HB0.out hb); obtain ⟨c0, c1, c2⟩ := hp_cells2 HPv1.out; clear hb h5 HPv HB0)
      | (go_at_call 10; refine (H1.out _).mono ?_; rintro e w2 ⟨rfl, hb⟩; have HPv2 := hide (hp_below (hp_alloc HPv1.out _) hb); have HPb2 := hide (hp_below (hp_new w1 _) hb); have HB2 := hide (bel_to (bl1 HB1.out _) hb); obtain ⟨c0, c1, c2⟩ := hp_cells2 HPv2.out; obtain ⟨d0, d1, d2⟩ := hp_cells2 HPb2.out; clear hb HPv1 HB1 H1)
      | (go_at_call 10; refine (H2.out _).mono ?_; rintro e w3 ⟨rfl, hb⟩; have HPv3 := hide (hp_below (hp_alloc HPv2.out _) hb); have HPa3 := hide (hp_below (hp_new w2 _) hb); have HB3 := hide (bel_to (bl1 HB2.out _) hb); obtain ⟨c0, c1, c2⟩ := hp_cells2 HPv3.out; obtain ⟨e0, e1, e2⟩ := hp_cells2 HPa3.out; clear hb HPv2 HB2 H2)
      | (go_at_call 15; refine (H3.out _).mono ?_; rintro e w4 ⟨rfl, X, Y, h5⟩; have hb : Below _ _ w4 := (by rw [h5]; exact bel_2); have HPv4 := hide (hp_below (hp_alloc HPv3.out _) hb); have HPa4 := hide (hp_below (hp_alloc HPa3.out _) hb); have HB4 := hide (bel_to (bl1 HB3.out _) hb); obtain ⟨c0, c1, c2⟩ := hp_cells2 HPv4.out; obtain ⟨e0, e1, e2⟩ := hp_cells2 HPa4.out; clear hb h5 HPv3 HPa3 HB3)
      | (go_at_call 14; refine (HNU.out _ _).mono ?_; rintro e w5 ⟨rfl, rfl⟩))
    all_goals
      go_ret
      exact ⟨by first | rfl | simp, by first | exact HB4.out⟩
theorem smir_E (w : World) (k r o p ak ar ae : Int) (hs : setl k r o p = (ak, ar, ae)) (hs2 : setl (mirK k) r p o = (mirK ak, ar, ae)) (n1 : ¬ k < 0) (n2 : ¬ 7 < k) (n3 : ¬ o < 0) (n4 : ¬ 2 < o) (n5 : ¬ p < 0) (n6 : ¬ 2 < p) (h7 : ¬ k = 7) (ho : o = 0) (hp : p = 0) (x1 : ¬ ae = 0) (x2 : ak = 0) (x3 : ar = 0) : Calls Try.prog 5 #[vd k r, .int .i64 o, .int .i64 p] w fun e w' => e = .returned (.bool true) ∧ Below w.heap.size w w' := by
  have H0 := hide fun w => mirror_any w k r
  have H1 := hide fun w => settle_any w k r o p
  have H2 := hide fun w => settle_any w (mirK k) r p o
  rw [hs] at H1
  rw [hs2] at H2
  have H3 := hide fun w => turned_any w ak ar (mirK ak) ar
  rw [show trn ak ar (mirK ak) ar = true by simp [trn]] at H3
  have HNU := hide num_any
  generalize mirK ak = bk at *
  generalize mirK k = mk at *
  unfold setV vd at *
  clear hs hs2
  dsimp only at *
  subst ho hp x2 x3
  have HPv := hide (hp_new w (.cells #[.int .i64 k, .int .i64 r] 26))
  have HB0 := hide (bl1 (Below.refl w.heap.size w) (.cells #[.int .i64 k, .int .i64 r] 26))
  go_enter Try.func5, Try.ntmps5
  go_wp2_with (first
    | (go_at_call 12; refine (H0.out _).mono ?_; rintro e w1 ⟨rfl, X, Y, h5⟩; have hb : Below _ _ w1 := (by rw [h5]; exact bel_2); have HPv1 := hide (hp_below HPv.out hb); have HB1 := hide (bel_to HB0.out hb); obtain ⟨c0, c1, c2⟩ := hp_cells2 HPv1.out; clear hb h5 HPv HB0)
    | (go_at_call 10; refine (H1.out _).mono ?_; rintro e w2 ⟨rfl, hb⟩; have HPv2 := hide (hp_below (hp_alloc HPv1.out _) hb); have HPb2 := hide (hp_below (hp_new w1 _) hb); have HB2 := hide (bel_to (bl1 HB1.out _) hb); obtain ⟨c0, c1, c2⟩ := hp_cells2 HPv2.out; obtain ⟨d0, d1, d2⟩ := hp_cells2 HPb2.out; clear hb HPv1 HB1 H1)
    | (go_at_call 10; refine (H2.out _).mono ?_; rintro e w3 ⟨rfl, hb⟩; have HPv3 := hide (hp_below (hp_alloc HPv2.out _) hb); have HPa3 := hide (hp_below (hp_new w2 _) hb); have HB3 := hide (bel_to (bl1 HB2.out _) hb); obtain ⟨c0, c1, c2⟩ := hp_cells2 HPv3.out; obtain ⟨e0, e1, e2⟩ := hp_cells2 HPa3.out; clear hb HPv2 HB2 H2)
    | (go_at_call 15; refine (H3.out _).mono ?_; rintro e w4 ⟨rfl, X, Y, h5⟩; have hb : Below _ _ w4 := (by rw [h5]; exact bel_2); have HPv4 := hide (hp_below (hp_alloc HPv3.out _) hb); have HPa4 := hide (hp_below (hp_alloc HPa3.out _) hb); have HB4 := hide (bel_to (bl1 HB3.out _) hb); obtain ⟨c0, c1, c2⟩ := hp_cells2 HPv4.out; obtain ⟨e0, e1, e2⟩ := hp_cells2 HPa4.out; clear hb h5 HPv3 HPa3 HB3)
    | (go_at_call 14; refine (HNU.out _ _).mono ?_; rintro e w5 ⟨rfl, rfl⟩))
  all_goals
    go_ret
    exact ⟨by first | rfl | simp, by first | exact HB4.out⟩
theorem smir_Pn (w : World) (k r o p ak ar ae : Int) (hs : setl k r o p = (ak, ar, ae)) (hs2 : setl (mirK k) r p o = (mirK ak, ar, ae)) (n1 : ¬ k < 0) (n2 : ¬ 7 < k) (n3 : ¬ o < 0) (n4 : ¬ 2 < o) (n5 : ¬ p < 0) (n6 : ¬ 2 < p) (h7 : ¬ k = 7) (ho : ¬ o = 0) (hp : ¬ p = 0) (x1 : ae = 0) : Calls Try.prog 5 #[vd k r, .int .i64 o, .int .i64 p] w fun e w' => e = .returned (.bool true) ∧ Below w.heap.size w w' := by
  have H0 := hide fun w => mirror_any w k r
  have H1 := hide fun w => settle_any w k r o p
  have H2 := hide fun w => settle_any w (mirK k) r p o
  rw [hs] at H1
  rw [hs2] at H2
  have H3 := hide fun w => turned_any w ak ar (mirK ak) ar
  rw [show trn ak ar (mirK ak) ar = true by simp [trn]] at H3
  have HNU := hide num_any
  generalize mirK ak = bk at *
  generalize mirK k = mk at *
  unfold setV vd at *
  clear hs hs2
  dsimp only at *
  subst x1
  have HPv := hide (hp_new w (.cells #[.int .i64 k, .int .i64 r] 26))
  have HB0 := hide (bl1 (Below.refl w.heap.size w) (.cells #[.int .i64 k, .int .i64 r] 26))
  go_enter Try.func5, Try.ntmps5
  go_wp2_with (first
    | (go_at_call 12; refine (H0.out _).mono ?_; rintro e w1 ⟨rfl, X, Y, h5⟩; have hb : Below _ _ w1 := (by rw [h5]; exact bel_2); have HPv1 := hide (hp_below HPv.out hb); have HB1 := hide (bel_to HB0.out hb); obtain ⟨c0, c1, c2⟩ := hp_cells2 HPv1.out; clear hb h5 HPv HB0)
    | (go_at_call 10; refine (H1.out _).mono ?_; rintro e w2 ⟨rfl, hb⟩; have HPv2 := hide (hp_below (hp_alloc HPv1.out _) hb); have HPb2 := hide (hp_below (hp_new w1 _) hb); have HB2 := hide (bel_to (bl1 HB1.out _) hb); obtain ⟨c0, c1, c2⟩ := hp_cells2 HPv2.out; obtain ⟨d0, d1, d2⟩ := hp_cells2 HPb2.out; clear hb HPv1 HB1 H1)
    | (go_at_call 10; refine (H2.out _).mono ?_; rintro e w3 ⟨rfl, hb⟩; have HPv3 := hide (hp_below (hp_alloc HPv2.out _) hb); have HPa3 := hide (hp_below (hp_new w2 _) hb); have HB3 := hide (bel_to (bl1 HB2.out _) hb); obtain ⟨c0, c1, c2⟩ := hp_cells2 HPv3.out; obtain ⟨e0, e1, e2⟩ := hp_cells2 HPa3.out; clear hb HPv2 HB2 H2)
    | (go_at_call 15; refine (H3.out _).mono ?_; rintro e w4 ⟨rfl, X, Y, h5⟩; have hb : Below _ _ w4 := (by rw [h5]; exact bel_2); have HPv4 := hide (hp_below (hp_alloc HPv3.out _) hb); have HPa4 := hide (hp_below (hp_alloc HPa3.out _) hb); have HB4 := hide (bel_to (bl1 HB3.out _) hb); obtain ⟨c0, c1, c2⟩ := hp_cells2 HPv4.out; obtain ⟨e0, e1, e2⟩ := hp_cells2 HPa4.out; clear hb h5 HPv3 HPa3 HB3)
    | (go_at_call 14; refine (HNU.out _ _).mono ?_; rintro e w5 ⟨rfl, rfl⟩))
  all_goals
    go_ret
    exact ⟨by first | rfl | simp, by first | exact HB4.out⟩
theorem smir_Oz (w : World) (k r o p ak ar ae : Int) (hs : setl k r o p = (ak, ar, ae)) (hs2 : setl (mirK k) r p o = (mirK ak, ar, ae)) (n1 : ¬ k < 0) (n2 : ¬ 7 < k) (n3 : ¬ o < 0) (n4 : ¬ 2 < o) (n5 : ¬ p < 0) (n6 : ¬ 2 < p) (h7 : ¬ k = 7) (ho : o = 0) (hp : p = 0) (x1 : ae = 0) : Calls Try.prog 5 #[vd k r, .int .i64 o, .int .i64 p] w fun e w' => e = .returned (.bool true) ∧ Below w.heap.size w w' := by
  have H0 := hide fun w => mirror_any w k r
  have H1 := hide fun w => settle_any w k r o p
  have H2 := hide fun w => settle_any w (mirK k) r p o
  rw [hs] at H1
  rw [hs2] at H2
  have H3 := hide fun w => turned_any w ak ar (mirK ak) ar
  rw [show trn ak ar (mirK ak) ar = true by simp [trn]] at H3
  have HNU := hide num_any
  generalize mirK ak = bk at *
  generalize mirK k = mk at *
  unfold setV vd at *
  clear hs hs2
  dsimp only at *
  subst x1 ho hp
  have HPv := hide (hp_new w (.cells #[.int .i64 k, .int .i64 r] 26))
  have HB0 := hide (bl1 (Below.refl w.heap.size w) (.cells #[.int .i64 k, .int .i64 r] 26))
  go_enter Try.func5, Try.ntmps5
  go_wp2_with (first
    | (go_at_call 12; refine (H0.out _).mono ?_; rintro e w1 ⟨rfl, X, Y, h5⟩; have hb : Below _ _ w1 := (by rw [h5]; exact bel_2); have HPv1 := hide (hp_below HPv.out hb); have HB1 := hide (bel_to HB0.out hb); obtain ⟨c0, c1, c2⟩ := hp_cells2 HPv1.out; clear hb h5 HPv HB0)
    | (go_at_call 10; refine (H1.out _).mono ?_; rintro e w2 ⟨rfl, hb⟩; have HPv2 := hide (hp_below (hp_alloc HPv1.out _) hb); have HPb2 := hide (hp_below (hp_new w1 _) hb); have HB2 := hide (bel_to (bl1 HB1.out _) hb); obtain ⟨c0, c1, c2⟩ := hp_cells2 HPv2.out; obtain ⟨d0, d1, d2⟩ := hp_cells2 HPb2.out; clear hb HPv1 HB1 H1)
    | (go_at_call 10; refine (H2.out _).mono ?_; rintro e w3 ⟨rfl, hb⟩; have HPv3 := hide (hp_below (hp_alloc HPv2.out _) hb); have HPa3 := hide (hp_below (hp_new w2 _) hb); have HB3 := hide (bel_to (bl1 HB2.out _) hb); obtain ⟨c0, c1, c2⟩ := hp_cells2 HPv3.out; obtain ⟨e0, e1, e2⟩ := hp_cells2 HPa3.out; clear hb HPv2 HB2 H2)
    | (go_at_call 15; refine (H3.out _).mono ?_; rintro e w4 ⟨rfl, X, Y, h5⟩; have hb : Below _ _ w4 := (by rw [h5]; exact bel_2); have HPv4 := hide (hp_below (hp_alloc HPv3.out _) hb); have HPa4 := hide (hp_below (hp_alloc HPa3.out _) hb); have HB4 := hide (bel_to (bl1 HB3.out _) hb); obtain ⟨c0, c1, c2⟩ := hp_cells2 HPv4.out; obtain ⟨e0, e1, e2⟩ := hp_cells2 HPa4.out; clear hb h5 HPv3 HPa3 HB3)
    | (go_at_call 14; refine (HNU.out _ _).mono ?_; rintro e w5 ⟨rfl, rfl⟩))
  all_goals
    go_ret
    exact ⟨by first | rfl | simp, by first | exact HB4.out⟩
theorem smir_S1 (w : World) (k r o p ak ar ae : Int) (hs : setl k r o p = (ak, ar, ae)) (hs2 : setl (mirK k) r p o = (mirK ak, ar, ae)) (n1 : ¬ k < 0) (n2 : ¬ 7 < k) (n3 : ¬ o < 0) (n4 : ¬ 2 < o) (n5 : ¬ p < 0) (n6 : ¬ 2 < p) (h7 : ¬ k = 7) (ho : ¬ o = 0) (hp : p = 0) (x1 : ae = 0) (x2 : ak = 1) : Calls Try.prog 5 #[vd k r, .int .i64 o, .int .i64 p] w fun e w' => e = .returned (.bool true) ∧ Below w.heap.size w w' := by
  have H0 := hide fun w => mirror_any w k r
  have H1 := hide fun w => settle_any w k r o p
  have H2 := hide fun w => settle_any w (mirK k) r p o
  rw [hs] at H1
  rw [hs2] at H2
  have H3 := hide fun w => turned_any w ak ar (mirK ak) ar
  rw [show trn ak ar (mirK ak) ar = true by simp [trn]] at H3
  have HNU := hide num_any
  generalize mirK ak = bk at *
  generalize mirK k = mk at *
  unfold setV vd at *
  clear hs hs2
  dsimp only at *
  subst x1 hp x2
  have HPv := hide (hp_new w (.cells #[.int .i64 k, .int .i64 r] 26))
  have HB0 := hide (bl1 (Below.refl w.heap.size w) (.cells #[.int .i64 k, .int .i64 r] 26))
  go_enter Try.func5, Try.ntmps5
  go_wp2_with (first
    | (go_at_call 12; refine (H0.out _).mono ?_; rintro e w1 ⟨rfl, X, Y, h5⟩; have hb : Below _ _ w1 := (by rw [h5]; exact bel_2); have HPv1 := hide (hp_below HPv.out hb); have HB1 := hide (bel_to HB0.out hb); obtain ⟨c0, c1, c2⟩ := hp_cells2 HPv1.out; clear hb h5 HPv HB0)
    | (go_at_call 10; refine (H1.out _).mono ?_; rintro e w2 ⟨rfl, hb⟩; have HPv2 := hide (hp_below (hp_alloc HPv1.out _) hb); have HPb2 := hide (hp_below (hp_new w1 _) hb); have HB2 := hide (bel_to (bl1 HB1.out _) hb); obtain ⟨c0, c1, c2⟩ := hp_cells2 HPv2.out; obtain ⟨d0, d1, d2⟩ := hp_cells2 HPb2.out; clear hb HPv1 HB1 H1)
    | (go_at_call 10; refine (H2.out _).mono ?_; rintro e w3 ⟨rfl, hb⟩; have HPv3 := hide (hp_below (hp_alloc HPv2.out _) hb); have HPa3 := hide (hp_below (hp_new w2 _) hb); have HB3 := hide (bel_to (bl1 HB2.out _) hb); obtain ⟨c0, c1, c2⟩ := hp_cells2 HPv3.out; obtain ⟨e0, e1, e2⟩ := hp_cells2 HPa3.out; clear hb HPv2 HB2 H2)
    | (go_at_call 15; refine (H3.out _).mono ?_; rintro e w4 ⟨rfl, X, Y, h5⟩; have hb : Below _ _ w4 := (by rw [h5]; exact bel_2); have HPv4 := hide (hp_below (hp_alloc HPv3.out _) hb); have HPa4 := hide (hp_below (hp_alloc HPa3.out _) hb); have HB4 := hide (bel_to (bl1 HB3.out _) hb); obtain ⟨c0, c1, c2⟩ := hp_cells2 HPv4.out; obtain ⟨e0, e1, e2⟩ := hp_cells2 HPa4.out; clear hb h5 HPv3 HPa3 HB3)
    | (go_at_call 14; refine (HNU.out _ _).mono ?_; rintro e w5 ⟨rfl, rfl⟩))
  all_goals
    go_ret
    exact ⟨by first | rfl | simp, by first | exact HB4.out⟩
theorem smir_S3 (w : World) (k r o p ak ar ae : Int) (hs : setl k r o p = (ak, ar, ae)) (hs2 : setl (mirK k) r p o = (mirK ak, ar, ae)) (n1 : ¬ k < 0) (n2 : ¬ 7 < k) (n3 : ¬ o < 0) (n4 : ¬ 2 < o) (n5 : ¬ p < 0) (n6 : ¬ 2 < p) (h7 : ¬ k = 7) (ho : ¬ o = 0) (hp : p = 0) (x1 : ae = 0) (x2 : ak = 3) : Calls Try.prog 5 #[vd k r, .int .i64 o, .int .i64 p] w fun e w' => e = .returned (.bool true) ∧ Below w.heap.size w w' := by
  have H0 := hide fun w => mirror_any w k r
  have H1 := hide fun w => settle_any w k r o p
  have H2 := hide fun w => settle_any w (mirK k) r p o
  rw [hs] at H1
  rw [hs2] at H2
  have H3 := hide fun w => turned_any w ak ar (mirK ak) ar
  rw [show trn ak ar (mirK ak) ar = true by simp [trn]] at H3
  have HNU := hide num_any
  generalize mirK ak = bk at *
  generalize mirK k = mk at *
  unfold setV vd at *
  clear hs hs2
  dsimp only at *
  subst x1 hp x2
  have HPv := hide (hp_new w (.cells #[.int .i64 k, .int .i64 r] 26))
  have HB0 := hide (bl1 (Below.refl w.heap.size w) (.cells #[.int .i64 k, .int .i64 r] 26))
  go_enter Try.func5, Try.ntmps5
  go_wp2_with (first
    | (go_at_call 12; refine (H0.out _).mono ?_; rintro e w1 ⟨rfl, X, Y, h5⟩; have hb : Below _ _ w1 := (by rw [h5]; exact bel_2); have HPv1 := hide (hp_below HPv.out hb); have HB1 := hide (bel_to HB0.out hb); obtain ⟨c0, c1, c2⟩ := hp_cells2 HPv1.out; clear hb h5 HPv HB0)
    | (go_at_call 10; refine (H1.out _).mono ?_; rintro e w2 ⟨rfl, hb⟩; have HPv2 := hide (hp_below (hp_alloc HPv1.out _) hb); have HPb2 := hide (hp_below (hp_new w1 _) hb); have HB2 := hide (bel_to (bl1 HB1.out _) hb); obtain ⟨c0, c1, c2⟩ := hp_cells2 HPv2.out; obtain ⟨d0, d1, d2⟩ := hp_cells2 HPb2.out; clear hb HPv1 HB1 H1)
    | (go_at_call 10; refine (H2.out _).mono ?_; rintro e w3 ⟨rfl, hb⟩; have HPv3 := hide (hp_below (hp_alloc HPv2.out _) hb); have HPa3 := hide (hp_below (hp_new w2 _) hb); have HB3 := hide (bel_to (bl1 HB2.out _) hb); obtain ⟨c0, c1, c2⟩ := hp_cells2 HPv3.out; obtain ⟨e0, e1, e2⟩ := hp_cells2 HPa3.out; clear hb HPv2 HB2 H2)
    | (go_at_call 15; refine (H3.out _).mono ?_; rintro e w4 ⟨rfl, X, Y, h5⟩; have hb : Below _ _ w4 := (by rw [h5]; exact bel_2); have HPv4 := hide (hp_below (hp_alloc HPv3.out _) hb); have HPa4 := hide (hp_below (hp_alloc HPa3.out _) hb); have HB4 := hide (bel_to (bl1 HB3.out _) hb); obtain ⟨c0, c1, c2⟩ := hp_cells2 HPv4.out; obtain ⟨e0, e1, e2⟩ := hp_cells2 HPa4.out; clear hb h5 HPv3 HPa3 HB3)
    | (go_at_call 14; refine (HNU.out _ _).mono ?_; rintro e w5 ⟨rfl, rfl⟩))
  all_goals
    go_ret
    exact ⟨by first | rfl | simp, by first | exact HB4.out⟩
theorem smirLaw (w : World) (k r o p : Int) : Calls Try.prog 5 #[vd k r, .int .i64 o, .int .i64 p] w fun e w' => e = .returned (.bool true) ∧ Below w.heap.size w w' := by
  by_cases hg : okK k = true ∧ okD o = true ∧ okD p = true
  · obtain ⟨g1, g2, g3⟩ := hg
    obtain ⟨ak, ar, ae, hs, hs2, m1, m2, m3, m4⟩ := setl_mir k r o p g1 g2 g3
    have q1 : 0 ≤ k ∧ k ≤ 7 := by simpa [okK] using g1
    have q2 : 0 ≤ o ∧ o ≤ 2 := by simpa [okD] using g2
    have q3 : 0 ≤ p ∧ p ≤ 2 := by simpa [okD] using g3
    have n1 : ¬ k < 0 := by omega
    have n2 : ¬ 7 < k := by omega
    have n3 : ¬ o < 0 := by omega
    have n4 : ¬ 2 < o := by omega
    have n5 : ¬ p < 0 := by omega
    have n6 : ¬ 2 < p := by omega
    by_cases h7 : k = 7
    · exact smir_7 w k r o p ak ar ae hs hs2 n1 n2 n3 n4 n5 n6 h7 (m1 h7).1 (m1 h7).2.1 (m1 h7).2.2
    by_cases ho : o = 0
    · by_cases hp : p = 0
      · by_cases he : ae = 0
        · exact smir_Oz w k r o p ak ar ae hs hs2 n1 n2 n3 n4 n5 n6 h7 ho hp he
        · exact smir_E w k r o p ak ar ae hs hs2 n1 n2 n3 n4 n5 n6 h7 ho hp he (m3 h7 he).2.1 (m3 h7 he).2.2
      · exact smir_T w k r o p ak ar ae hs hs2 n1 n2 n3 n4 n5 n6 h7 ho hp (m2 h7 ho hp).1 (m2 h7 ho hp).2
    · have he : ae = 0 := by
        by_cases he : ae = 0
        · exact he
        · exact absurd (m3 h7 he).1 ho
      by_cases hp : p = 0
      · rcases m4 h7 (fun e => ho e.1) he with e | e | e | e
        · exact absurd hp e
        · exact absurd e ho
        · exact smir_S1 w k r o p ak ar ae hs hs2 n1 n2 n3 n4 n5 n6 h7 ho hp he e
        · exact smir_S3 w k r o p ak ar ae hs hs2 n1 n2 n3 n4 n5 n6 h7 ho hp he e
      · exact smir_Pn w k r o p ak ar ae hs hs2 n1 n2 n3 n4 n5 n6 h7 ho hp he
  · have hb : okK k = false ∨ okD o = false ∨ okD p = false := by
      cases e1 : okK k <;> cases e2 : okD o <;> cases e3 : okD p <;> simp_all
    obtain ⟨ae, h1, h2⟩ := setl_bad k r o p hb
    refine smir_badE w k r o p ae h1 h2 ?_
    simp only [okK, okD, decide_eq_false_iff_not] at hb
    omega
end Go.Proofs.Ytlmfdbimchhjjaa
