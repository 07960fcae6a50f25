import Derived.Test.YtlmfdbimchhjjabIdRf2
import Derived.Test.YtlmfdbimchhjjabIdRf3
namespace Go.Proofs.Ytlmfdbimchhjjab
open Go.RowKit
set_option linter.unusedVariables false
set_option linter.unusedSimpArgs false
set_option maxRecDepth 20000

theorem rfirst_any (w : World) (c b o1 o2 c' b' p1 p2 fo fp : Int) : Calls Try.prog 16 #[.agg #[.int .u64 c, .int .u64 b, .int .u64 o1, .int .u64 o2], .int .u32 fo, .agg #[.int .u64 c', .int .u64 b', .int .u64 p1, .int .u64 p2], .int .u32 fp] w fun e w' => e = .returned (vd (Pr.mk ⟨c, b, o1, o2⟩ (bits BinOp.and IntKind.u32 fo 8 != 0) ⟨c', b', p1, p2⟩ (bits BinOp.and IntKind.u32 fp 8 != 0) true).rf.1 (Pr.mk ⟨c, b, o1, o2⟩ (bits BinOp.and IntKind.u32 fo 8 != 0) ⟨c', b', p1, p2⟩ (bits BinOp.and IntKind.u32 fp 8 != 0) true).rf.2) ∧ Below w.heap.size w w' := by
  have hrf : (Pr.mk ⟨c, b, o1, o2⟩ (bits BinOp.and IntKind.u32 fo 8 != 0) ⟨c', b', p1, p2⟩ (bits BinOp.and IntKind.u32 fp 8 != 0) true).rf = rf (nil4 c) (nil4 c') (c == c') (bits BinOp.and IntKind.u32 fo 8 != 0) (bits BinOp.and IntKind.u32 fp 8 != 0) (b != 0) (b' != 0) (mt b c') (mt b' c) (Gn.hip ⟨c, b, o1, o2⟩ c') (Gn.hip ⟨c', b', p1, p2⟩ c) (mt b b') (Pr.sho ⟨⟨c, b, o1, o2⟩, (bits BinOp.and IntKind.u32 fo 8 != 0), ⟨c', b', p1, p2⟩, (bits BinOp.and IntKind.u32 fp 8 != 0), true⟩) := rfl
  rw [hrf]
  clear hrf
  cases hN1 : nil4 c <;> cases hN2 : nil4 c'
  case false.true => exact rfirst_2a w c b o1 o2 c' b' p1 p2 fo fp hN1 hN2
  case true.false => exact rfirst_2b w c b o1 o2 c' b' p1 p2 fo fp hN1 hN2
  case true.true => exact rfirst_1 w c b o1 o2 c' b' p1 p2 fo fp hN1 hN2
  cases hE : (c == c')
  case true =>
    cases hx : (bits BinOp.and IntKind.u32 fo 8 != 0) <;> cases hy : (bits BinOp.and IntKind.u32 fp 8 != 0)
    case false.true => exact rfirst_3b w c b o1 o2 c' b' p1 p2 fo fp hN1 hN2 hE hx hy
    case true.false => exact rfirst_3a w c b o1 o2 c' b' p1 p2 fo fp hN1 hN2 hE hx hy
    case true.true => exact rfirst_4 w c b o1 o2 c' b' p1 p2 fo fp hN1 hN2 hE hx hy
    cases h1 : (b != 0) <;> cases h2 : (b' != 0)
    · exact rfirst_6 w c b o1 o2 c' b' p1 p2 fo fp hN1 hN2 hE hx hy h1 h2
    · exact rfirst_5b w c b o1 o2 c' b' p1 p2 fo fp hN1 hN2 hE hx hy h1 h2
    · exact rfirst_5a w c b o1 o2 c' b' p1 p2 fo fp hN1 hN2 hE hx hy h1 h2
    · exact rfirst_7 w c b o1 o2 c' b' p1 p2 fo fp hN1 hN2 hE hx hy h1 h2
  cases h1 : mt b c' <;> cases h2 : mt b' c
  case false.true => exact rfirst_9b w c b o1 o2 c' b' p1 p2 fo fp hN1 hN2 hE h1 h2
  case true.false => exact rfirst_9a w c b o1 o2 c' b' p1 p2 fo fp hN1 hN2 hE h1 h2
  case true.true => exact rfirst_8 w c b o1 o2 c' b' p1 p2 fo fp hN1 hN2 hE h1 h2
  cases h3 : Gn.hip ⟨c, b, o1, o2⟩ c' <;> cases h4 : Gn.hip ⟨c', b', p1, p2⟩ c
  case false.true => exact rfirst_11b w c b o1 o2 c' b' p1 p2 fo fp hN1 hN2 hE h1 h2 h3 h4
  case true.false => exact rfirst_11a w c b o1 o2 c' b' p1 p2 fo fp hN1 hN2 hE h1 h2 h3 h4
  case true.true => exact rfirst_10 w c b o1 o2 c' b' p1 p2 fo fp hN1 hN2 hE h1 h2 h3 h4
  cases h5 : mt b b'
  case true => exact rfirst_12 w c b o1 o2 c' b' p1 p2 fo fp hN1 hN2 hE h1 h2 h3 h4 h5
  cases h6 : Pr.sho ⟨⟨c, b, o1, o2⟩, (bits BinOp.and IntKind.u32 fo 8 != 0), ⟨c', b', p1, p2⟩, (bits BinOp.and IntKind.u32 fp 8 != 0), true⟩
  · exact rfirst_14 w c b o1 o2 c' b' p1 p2 fo fp hN1 hN2 hE h1 h2 h3 h4 h5 h6
  · exact rfirst_13 w c b o1 o2 c' b' p1 p2 fo fp hN1 hN2 hE h1 h2 h3 h4 h5 h6
set_option maxHeartbeats 1000000 in
theorem rcompare_any (w : World) (n : Int) (g h : Gn) (fo fp : Int) : Calls Try.prog 9 #[.int .i64 n, g.val, .int .u32 fo, h.val, .int .u32 fp] w fun e w' => e = .returned (vd (Pr.mk g (bits BinOp.and IntKind.u32 fo 8 != 0) h (bits BinOp.and IntKind.u32 fp 8 != 0) (n == 0)).cmp.1 (Pr.mk g (bits BinOp.and IntKind.u32 fo 8 != 0) h (bits BinOp.and IntKind.u32 fp 8 != 0) (n == 0)).cmp.2) ∧ Below w.heap.size w w' := by
  obtain ⟨c, b, o1, o2⟩ := g
  obtain ⟨c', b', p1, p2⟩ := h
  have H1 := hide fun w => rfirst_any w c b o1 o2 c' b' p1 p2 fo fp
  have H2 := hide fun w => rfirst_any w c' b' p1 p2 c b o1 o2 fp fo
  rw [← cmp_rf _ rfl] at H1 H2
  by_cases hn : n = 0
  · subst hn
    rw [show ((0 : Int) == 0) = true from rfl]
    generalize Pr.cmp ⟨⟨c, b, o1, o2⟩, (bits BinOp.and IntKind.u32 fo 8 != 0), ⟨c', b', p1, p2⟩, (bits BinOp.and IntKind.u32 fp 8 != 0), true⟩ = K at *
    obtain ⟨k, r⟩ := K
    clear H2
    unfold Gn.val vd at *
    dsimp only at *
    have HR := hide (heap_trd w (.cells #[.int .u64 c, .int .u64 b, .int .u64 o1, .int .u64 o2] 24) (.cells #[.int .u64 c', .int .u64 b', .int .u64 p1, .int .u64 p2] 24) (.cells #[.int .i64 0, .int .i64 0] 27))
    have HB := hide (bl3 (Below.refl w.heap.size w) (.cells #[.int .u64 c, .int .u64 b, .int .u64 o1, .int .u64 o2] 24) (.cells #[.int .u64 c', .int .u64 b', .int .u64 p1, .int .u64 p2] 24) (.cells #[.int .i64 0, .int .i64 0] 27))
    go_enter Try.func9, Try.ntmps9
    go_wp2_with (first
      | (go_at_call 16; (with_reducible refine (H1.out _).mono ?_); rintro e w2 ⟨rfl, hb⟩; have HR2 := hide (hp_below HR.out hb); have HB2 := hide (bel_to HB.out hb); obtain ⟨s0, s1, sx⟩ := hp_cells2 HR2.out; have f0 := frozen_of_row _ _ 0 _ _ HR2.out; have f1 := frozen_of_row _ _ 1 _ _ HR2.out; clear hb))
    exact bodyPost_ret (results_cell_row rfl _ _ (w.heap.size + 1 + 1) 27 _ (0, 0) _ rfl (set2 HR2.out _ _) Try.underlying27 rfl (by kernel_rfl)) rfl ⟨by first | rfl | simp, bel_set2 HB2.out (by omega) _ _⟩
  · have hnb : (n == 0) = false := beq_false_of_ne hn
    rw [hnb]
    have e2 := cmp_tu (Pr.mk ⟨c', b', p1, p2⟩ (bits BinOp.and IntKind.u32 fp 8 != 0) ⟨c, b, o1, o2⟩ (bits BinOp.and IntKind.u32 fo 8 != 0) true) rfl
    have e3 : (Pr.mk ⟨c', b', p1, p2⟩ (bits BinOp.and IntKind.u32 fp 8 != 0) ⟨c, b, o1, o2⟩ (bits BinOp.and IntKind.u32 fo 8 != 0) true).tu = Pr.mk ⟨c, b, o1, o2⟩ (bits BinOp.and IntKind.u32 fo 8 != 0) ⟨c', b', p1, p2⟩ (bits BinOp.and IntKind.u32 fp 8 != 0) false := rfl
    rw [e3] at e2
    rw [e2]
    clear e2 e3 H1
    generalize Pr.cmp ⟨⟨c', b', p1, p2⟩, (bits BinOp.and IntKind.u32 fp 8 != 0), ⟨c, b, o1, o2⟩, (bits BinOp.and IntKind.u32 fo 8 != 0), true⟩ = K at *
    obtain ⟨k, r⟩ := K
    have HM := hide fun w => rmirror_any w k r
    dsimp only at *
    generalize mirK k = mk at *
    unfold Gn.val vd at *
    dsimp only at *
    have HR := hide (heap_trd w (.cells #[.int .u64 c, .int .u64 b, .int .u64 o1, .int .u64 o2] 24) (.cells #[.int .u64 c', .int .u64 b', .int .u64 p1, .int .u64 p2] 24) (.cells #[.int .i64 0, .int .i64 0] 27))
    have HB := hide (bl3 (Below.refl w.heap.size w) (.cells #[.int .u64 c, .int .u64 b, .int .u64 o1, .int .u64 o2] 24) (.cells #[.int .u64 c', .int .u64 b', .int .u64 p1, .int .u64 p2] 24) (.cells #[.int .i64 0, .int .i64 0] 27))
    go_enter Try.func9, Try.ntmps9
    go_wp2_with (first
      | (go_at_call 16; (with_reducible refine (H2.out _).mono ?_); rintro e w2 ⟨rfl, hb⟩; have HR2 := hide (hp_below HR.out hb); have HB2 := hide (bel_to HB.out hb); obtain ⟨s0, s1, sx⟩ := hp_cells2 HR2.out; have f0 := frozen_of_row _ _ 0 _ _ HR2.out; have f1 := frozen_of_row _ _ 1 _ _ HR2.out; clear hb)
      | (go_at_call 17; (with_reducible refine (HM.out _).mono ?_); rintro e w3 ⟨rfl, X, Y, Z, h9⟩; have hb : Below _ _ w3 := (by rw [h9]; exact bl1 bel_2 _); have HR3 := hide (hp_below (hp_alloc HR2.out _) hb); have HB3 := hide (bel_to (bl1 HB2.out _) hb); obtain ⟨s0, s1, sx⟩ := hp_cells2 HR3.out; have f0 := frozen_of_row _ _ 0 _ _ HR3.out; have f1 := frozen_of_row _ _ 1 _ _ HR3.out; clear hb h9))
    exact bodyPost_ret (results_cell_row rfl _ _ (w.heap.size + 1 + 1) 27 _ (0, 0) _ rfl (set2 HR3.out _ _) Try.underlying27 rfl (by kernel_rfl)) rfl ⟨by first | rfl | simp, bel_set2 HB3.out (by omega) _ _⟩
theorem comparesLaw (w : World) (n : Int) (g h : Gn) (fo fp : Int) : Calls Try.prog 4 #[.int .i64 n, g.val, .int .u32 fo, h.val, .int .u32 fp] w fun e w' => e = .returned (.bool true) ∧ Below w.heap.size w w' := by
  have H1 := hide fun w => compare_any w n g h fo fp
  have H2 := hide fun w => rcompare_any w n g h fo fp
  generalize Pr.cmp _ = K at *
  obtain ⟨k, r⟩ := K
  obtain ⟨c, b, o1, o2⟩ := g
  obtain ⟨c', b', p1, p2⟩ := h
  unfold Gn.val vd at *
  dsimp only at *
  have HO0 := hide (hp_alloc (hp_new w (.cells #[.int .u64 c, .int .u64 b, .int .u64 o1, .int .u64 o2] 24)) (.cells #[.int .u64 c', .int .u64 b', .int .u64 p1, .int .u64 p2] 24))
  have HP0 := hide (heap_snd w (.cells #[.int .u64 c, .int .u64 b, .int .u64 o1, .int .u64 o2] 24) (.cells #[.int .u64 c', .int .u64 b', .int .u64 p1, .int .u64 p2] 24))
  have HB0 := hide (bl2 (Below.refl w.heap.size w) (.cells #[.int .u64 c, .int .u64 b, .int .u64 o1, .int .u64 o2] 24) (.cells #[.int .u64 c', .int .u64 b', .int .u64 p1, .int .u64 p2] 24))
  go_enter Try.func4, Try.ntmps4
  go_wp2_with (first
    | (go_at_call 6; (with_reducible refine (H1.out _).mono ?_); rintro e w1 ⟨rfl, hb⟩; have HO1 := hide (hp_below HO0.out hb); have HP1 := hide (hp_below HP0.out hb); have HB1 := hide (bel_to HB0.out hb); obtain ⟨a0, a1, a2, a3, ax⟩ := hp_cells4 HO1.out; obtain ⟨b0, b1, b2, b3, bx⟩ := hp_cells4 HP1.out; clear hb HO0 HP0 HB0))
  have HV := hide (hp_new w1 (.cells #[.int .i64 k, .int .i64 r] 27))
  have HO2 := hide (hp_alloc HO1.out (.cells #[.int .i64 k, .int .i64 r] 27))
  have HP2 := hide (hp_alloc HP1.out (.cells #[.int .i64 k, .int .i64 r] 27))
  have HB2 := hide (bl1 HB1.out (.cells #[.int .i64 k, .int .i64 r] 27))
  generalize (w1.alloc (.cells #[.int .i64 k, .int .i64 r] 27)) = w4 at *
  generalize w1.heap.size = g1 at *
  clear a0 a1 a2 a3 ax b0 b1 b2 b3 bx
  have HK : Hid (∀ w', Below w4.heap.size w4 w' → (w'.cell? ⟨g1, 0, none⟩ = some (.int .i64 k) ∧ w'.cell? ⟨g1, 1, none⟩ = some (.int .i64 r) ∧ w'.cell? ⟨w.heap.size, 0, none⟩ = some (.int .u64 c) ∧ w'.cell? ⟨w.heap.size, 1, none⟩ = some (.int .u64 b) ∧ w'.cell? ⟨w.heap.size, 2, none⟩ = some (.int .u64 o1) ∧ w'.cell? ⟨w.heap.size, 3, none⟩ = some (.int .u64 o2) ∧ w'.cell? ⟨w.heap.size + 1, 0, none⟩ = some (.int .u64 c') ∧ w'.cell? ⟨w.heap.size + 1, 1, none⟩ = some (.int .u64 b') ∧ w'.cell? ⟨w.heap.size + 1, 2, none⟩ = some (.int .u64 p1) ∧ w'.cell? ⟨w.heap.size + 1, 3, none⟩ = some (.int .u64 p2))) := hide fun w' q => ⟨(hp_cells2 (hp_below HV.out q)).1, (hp_cells2 (hp_below HV.out q)).2.1, (hp_cells4 (hp_below HO2.out q)).1, (hp_cells4 (hp_below HO2.out q)).2.1, (hp_cells4 (hp_below HO2.out q)).2.2.1, (hp_cells4 (hp_below HO2.out q)).2.2.2.1, (hp_cells4 (hp_below HP2.out q)).1, (hp_cells4 (hp_below HP2.out q)).2.1, (hp_cells4 (hp_below HP2.out q)).2.2.1, (hp_cells4 (hp_below HP2.out q)).2.2.2.1⟩
  have HD := hide ((Below.refl w4.heap.size w4).drew)
  have HZ := hide (HK.out _ (Below.refl w4.heap.size w4))
  go_region_held3 (fun w' => w'.cell? ⟨g1, 0, none⟩ = some (.int .i64 k) ∧ w'.cell? ⟨g1, 1, none⟩ = some (.int .i64 r) ∧ w'.cell? ⟨w.heap.size, 0, none⟩ = some (.int .u64 c) ∧ w'.cell? ⟨w.heap.size, 1, none⟩ = some (.int .u64 b) ∧ w'.cell? ⟨w.heap.size, 2, none⟩ = some (.int .u64 o1) ∧ w'.cell? ⟨w.heap.size, 3, none⟩ = some (.int .u64 o2) ∧ w'.cell? ⟨w.heap.size + 1, 0, none⟩ = some (.int .u64 c') ∧ w'.cell? ⟨w.heap.size + 1, 1, none⟩ = some (.int .u64 b') ∧ w'.cell? ⟨w.heap.size + 1, 2, none⟩ = some (.int .u64 p1) ∧ w'.cell? ⟨w.heap.size + 1, 3, none⟩ = some (.int .u64 p2)) (first | exact HZ.out | exact HK.out _ HC.out)
    ((go_at_call 9; refine (H2.out _).mono ?_; rintro e w5 ⟨rfl, hb⟩; have HC : Hid (Below w4.heap.size w4 w5) := hide (bel_to HD.out hb); clear hb))
  all_goals
    go_wp2_with fail
    go_ret
    exact ⟨by first | rfl | simp, bel_to HB2.out HC.out⟩
end Go.Proofs.Ytlmfdbimchhjjab
