import Derived.Test.YtlmfdbimchhjjabIdRc
namespace Go.Proofs.Ytlmfdbimchhjjab
open Go.RowKit
set_option linter.unusedVariables false
set_option linter.unusedSimpArgs false
set_option maxRecDepth 20000

theorem apart_m (w : World) (c b o1 o2 c' b' p1 p2 : Int) (x y f : Bool) (hm : mt b b' = true) : Calls Try.prog 47 #[.agg #[.int .u64 c, .int .u64 b, .int .u64 o1, .int .u64 o2], .agg #[.int .u64 c', .int .u64 b', .int .u64 p1, .int .u64 p2]] w fun e w' => e = .returned (.agg #[.int .i64 5, .int .i64 12]) ∧ Below w.heap.size w w' := by
  have HM := hide fun w => rmatch_any w b b'
  have HS : Hid (∀ w, Calls Try.prog 63 #[.agg #[.int .u64 c, .int .u64 b, .int .u64 o1, .int .u64 o2], .agg #[.int .u64 c', .int .u64 b', .int .u64 p1, .int .u64 p2]] w fun e w' => e = .returned (.bool (Pr.sho ⟨(Gn.mk c b o1 o2), x, (Gn.mk c' b' p1 p2), y, f⟩)) ∧ Below w.heap.size w w') := hide fun w => shared_any w (Gn.mk c b o1 o2) (Gn.mk c' b' p1 p2)
  rw [hm] at HM
  clear hm
  have HO := hide (hp_alloc2 (hp_new w (.cells #[.int .u64 c, .int .u64 b, .int .u64 o1, .int .u64 o2] 24)) (.cells #[.int .u64 c', .int .u64 b', .int .u64 p1, .int .u64 p2] 24) (.cells #[.int .i64 0, .int .i64 0] 27))
  have HQ := hide (hp_alloc (heap_snd w (.cells #[.int .u64 c, .int .u64 b, .int .u64 o1, .int .u64 o2] 24) (.cells #[.int .u64 c', .int .u64 b', .int .u64 p1, .int .u64 p2] 24)) (.cells #[.int .i64 0, .int .i64 0] 27))
  have HR := hide (heap_trd w (.cells #[.int .u64 c, .int .u64 b, .int .u64 o1, .int .u64 o2] 24) (.cells #[.int .u64 c', .int .u64 b', .int .u64 p1, .int .u64 p2] 24) (.cells #[.int .i64 0, .int .i64 0] 27))
  have HB := hide (bl3 (Below.refl w.heap.size w) (.cells #[.int .u64 c, .int .u64 b, .int .u64 o1, .int .u64 o2] 24) (.cells #[.int .u64 c', .int .u64 b', .int .u64 p1, .int .u64 p2] 24) (.cells #[.int .i64 0, .int .i64 0] 27))
  go_enter Try.func47, Try.ntmps47
  go_wp2_with (first
    | (go_at_call 45; refine (HM.out _).mono ?_; rintro e w2 ⟨rfl, rfl⟩)
    | (go_at_call 63; refine (HS.out _).mono ?_; rintro e w2 ⟨rfl, hb⟩; have HO := hide (hp_below (by first | with_reducible exact HO.out | with_reducible exact hp_alloc HO.out _ | with_reducible exact hp_alloc2 HO.out _ _) hb); have HQ := hide (hp_below (by first | with_reducible exact HQ.out | with_reducible exact hp_alloc HQ.out _ | with_reducible exact hp_alloc2 HQ.out _ _) hb); have HR := hide (hp_below (by first | with_reducible exact HR.out | with_reducible exact hp_alloc HR.out _ | with_reducible exact hp_alloc2 HR.out _ _) hb); have HB := hide (bel_to (by first | with_reducible exact HB.out | with_reducible exact bl1 HB.out _ | with_reducible exact bl2 HB.out _ _) hb); obtain ⟨a0, a1, a2, a3, ax⟩ := hp_cells4 HO.out; obtain ⟨b0, b1, b2, b3, bx⟩ := hp_cells4 HQ.out; obtain ⟨s0, s1, sx⟩ := hp_cells2 HR.out; have f0 := frozen_of_row _ _ 0 _ _ HR.out; have f1 := frozen_of_row _ _ 1 _ _ HR.out; clear hb))
  exact bodyPost_ret (results_cell_row rfl _ _ (w.heap.size + 1 + 1) 27 _ (0, 0) _ rfl (heap_trd _ _ _ _) Try.underlying27 rfl (by kernel_rfl)) rfl ⟨by first | rfl | simp, bl3 (Below.refl w.heap.size w) _ _ _⟩
theorem apart_s (w : World) (c b o1 o2 c' b' p1 p2 : Int) (x y f : Bool) (hm : mt b b' = false) (hs : Pr.sho ⟨(Gn.mk c b o1 o2), x, (Gn.mk c' b' p1 p2), y, f⟩ = true) : Calls Try.prog 47 #[.agg #[.int .u64 c, .int .u64 b, .int .u64 o1, .int .u64 o2], .agg #[.int .u64 c', .int .u64 b', .int .u64 p1, .int .u64 p2]] w fun e w' => e = .returned (.agg #[.int .i64 6, .int .i64 13]) ∧ Below w.heap.size w w' := by
  have HM := hide fun w => rmatch_any w b b'
  have HS : Hid (∀ w, Calls Try.prog 63 #[.agg #[.int .u64 c, .int .u64 b, .int .u64 o1, .int .u64 o2], .agg #[.int .u64 c', .int .u64 b', .int .u64 p1, .int .u64 p2]] w fun e w' => e = .returned (.bool (Pr.sho ⟨(Gn.mk c b o1 o2), x, (Gn.mk c' b' p1 p2), y, f⟩)) ∧ Below w.heap.size w w') := hide fun w => shared_any w (Gn.mk c b o1 o2) (Gn.mk c' b' p1 p2)
  rw [hm] at HM
  rw [hs] at HS
  clear hm hs
  have HO := hide (hp_alloc2 (hp_new w (.cells #[.int .u64 c, .int .u64 b, .int .u64 o1, .int .u64 o2] 24)) (.cells #[.int .u64 c', .int .u64 b', .int .u64 p1, .int .u64 p2] 24) (.cells #[.int .i64 0, .int .i64 0] 27))
  have HQ := hide (hp_alloc (heap_snd w (.cells #[.int .u64 c, .int .u64 b, .int .u64 o1, .int .u64 o2] 24) (.cells #[.int .u64 c', .int .u64 b', .int .u64 p1, .int .u64 p2] 24)) (.cells #[.int .i64 0, .int .i64 0] 27))
  have HR := hide (heap_trd w (.cells #[.int .u64 c, .int .u64 b, .int .u64 o1, .int .u64 o2] 24) (.cells #[.int .u64 c', .int .u64 b', .int .u64 p1, .int .u64 p2] 24) (.cells #[.int .i64 0, .int .i64 0] 27))
  have HB := hide (bl3 (Below.refl w.heap.size w) (.cells #[.int .u64 c, .int .u64 b, .int .u64 o1, .int .u64 o2] 24) (.cells #[.int .u64 c', .int .u64 b', .int .u64 p1, .int .u64 p2] 24) (.cells #[.int .i64 0, .int .i64 0] 27))
  go_enter Try.func47, Try.ntmps47
  go_wp2_with (first
    | (go_at_call 45; refine (HM.out _).mono ?_; rintro e w2 ⟨rfl, rfl⟩)
    | (go_at_call 63; refine (HS.out _).mono ?_; rintro e w2 ⟨rfl, hb⟩; have HO := hide (hp_below (by first | with_reducible exact HO.out | with_reducible exact hp_alloc HO.out _ | with_reducible exact hp_alloc2 HO.out _ _) hb); have HQ := hide (hp_below (by first | with_reducible exact HQ.out | with_reducible exact hp_alloc HQ.out _ | with_reducible exact hp_alloc2 HQ.out _ _) hb); have HR := hide (hp_below (by first | with_reducible exact HR.out | with_reducible exact hp_alloc HR.out _ | with_reducible exact hp_alloc2 HR.out _ _) hb); have HB := hide (bel_to (by first | with_reducible exact HB.out | with_reducible exact bl1 HB.out _ | with_reducible exact bl2 HB.out _ _) hb); obtain ⟨a0, a1, a2, a3, ax⟩ := hp_cells4 HO.out; obtain ⟨b0, b1, b2, b3, bx⟩ := hp_cells4 HQ.out; obtain ⟨s0, s1, sx⟩ := hp_cells2 HR.out; have f0 := frozen_of_row _ _ 0 _ _ HR.out; have f1 := frozen_of_row _ _ 1 _ _ HR.out; clear hb))
  first
    | exact bodyPost_ret (results_cell_row rfl _ _ (w.heap.size + 1 + 1) 27 _ (0, 0) _ rfl (set2 HR.out _ _) Try.underlying27 rfl (by kernel_rfl)) rfl ⟨by first | rfl | simp, bel_set2 HB.out (by omega) _ _⟩
    | exact bodyPost_ret (results_cell_row rfl _ _ (w.heap.size + 1 + 1) 27 _ (0, 0) _ rfl (hp_alloc2 (set2 HR.out _ _) _ _) Try.underlying27 rfl (by kernel_rfl)) rfl ⟨by first | rfl | simp, bl2 (bel_set2 HB.out (by omega) _ _) _ _⟩
    | exact bodyPost_ret (results_cell_row rfl _ _ (w.heap.size + 1 + 1) 27 _ (0, 0) _ rfl (hp_alloc (set2 HR.out _ _) _) Try.underlying27 rfl (by kernel_rfl)) rfl ⟨by first | rfl | simp, bl1 (bel_set2 HB.out (by omega) _ _) _⟩
    | exact bodyPost_ret (results_cell_row rfl _ _ (w.heap.size + 1 + 1) 27 _ (0, 0) _ rfl (heap_trd _ _ _ _) Try.underlying27 rfl (by kernel_rfl)) rfl ⟨by first | rfl | simp, bl3 (Below.refl w.heap.size w) _ _ _⟩
theorem apart_n (w : World) (c b o1 o2 c' b' p1 p2 : Int) (x y f : Bool) (hm : mt b b' = false) (hs : Pr.sho ⟨(Gn.mk c b o1 o2), x, (Gn.mk c' b' p1 p2), y, f⟩ = false) : Calls Try.prog 47 #[.agg #[.int .u64 c, .int .u64 b, .int .u64 o1, .int .u64 o2], .agg #[.int .u64 c', .int .u64 b', .int .u64 p1, .int .u64 p2]] w fun e w' => e = .returned (.agg #[.int .i64 7, .int .i64 14]) ∧ Below w.heap.size w w' := by
  have HM := hide fun w => rmatch_any w b b'
  have HS : Hid (∀ w, Calls Try.prog 63 #[.agg #[.int .u64 c, .int .u64 b, .int .u64 o1, .int .u64 o2], .agg #[.int .u64 c', .int .u64 b', .int .u64 p1, .int .u64 p2]] w fun e w' => e = .returned (.bool (Pr.sho ⟨(Gn.mk c b o1 o2), x, (Gn.mk c' b' p1 p2), y, f⟩)) ∧ Below w.heap.size w w') := hide fun w => shared_any w (Gn.mk c b o1 o2) (Gn.mk c' b' p1 p2)
  rw [hm] at HM
  rw [hs] at HS
  clear hm hs
  have HO := hide (hp_alloc2 (hp_new w (.cells #[.int .u64 c, .int .u64 b, .int .u64 o1, .int .u64 o2] 24)) (.cells #[.int .u64 c', .int .u64 b', .int .u64 p1, .int .u64 p2] 24) (.cells #[.int .i64 0, .int .i64 0] 27))
  have HQ := hide (hp_alloc (heap_snd w (.cells #[.int .u64 c, .int .u64 b, .int .u64 o1, .int .u64 o2] 24) (.cells #[.int .u64 c', .int .u64 b', .int .u64 p1, .int .u64 p2] 24)) (.cells #[.int .i64 0, .int .i64 0] 27))
  have HR := hide (heap_trd w (.cells #[.int .u64 c, .int .u64 b, .int .u64 o1, .int .u64 o2] 24) (.cells #[.int .u64 c', .int .u64 b', .int .u64 p1, .int .u64 p2] 24) (.cells #[.int .i64 0, .int .i64 0] 27))
  have HB := hide (bl3 (Below.refl w.heap.size w) (.cells #[.int .u64 c, .int .u64 b, .int .u64 o1, .int .u64 o2] 24) (.cells #[.int .u64 c', .int .u64 b', .int .u64 p1, .int .u64 p2] 24) (.cells #[.int .i64 0, .int .i64 0] 27))
  go_enter Try.func47, Try.ntmps47
  go_wp2_with (first
    | (go_at_call 45; refine (HM.out _).mono ?_; rintro e w2 ⟨rfl, rfl⟩)
    | (go_at_call 63; refine (HS.out _).mono ?_; rintro e w2 ⟨rfl, hb⟩; have HO := hide (hp_below (by first | with_reducible exact HO.out | with_reducible exact hp_alloc HO.out _ | with_reducible exact hp_alloc2 HO.out _ _) hb); have HQ := hide (hp_below (by first | with_reducible exact HQ.out | with_reducible exact hp_alloc HQ.out _ | with_reducible exact hp_alloc2 HQ.out _ _) hb); have HR := hide (hp_below (by first | with_reducible exact HR.out | with_reducible exact hp_alloc HR.out _ | with_reducible exact hp_alloc2 HR.out _ _) hb); have HB := hide (bel_to (by first | with_reducible exact HB.out | with_reducible exact bl1 HB.out _ | with_reducible exact bl2 HB.out _ _) hb); obtain ⟨a0, a1, a2, a3, ax⟩ := hp_cells4 HO.out; obtain ⟨b0, b1, b2, b3, bx⟩ := hp_cells4 HQ.out; obtain ⟨s0, s1, sx⟩ := hp_cells2 HR.out; have f0 := frozen_of_row _ _ 0 _ _ HR.out; have f1 := frozen_of_row _ _ 1 _ _ HR.out; clear hb))
  first
    | exact bodyPost_ret (results_cell_row rfl _ _ (w.heap.size + 1 + 1) 27 _ (0, 0) _ rfl (set2 HR.out _ _) Try.underlying27 rfl (by kernel_rfl)) rfl ⟨by first | rfl | simp, bel_set2 HB.out (by omega) _ _⟩
    | exact bodyPost_ret (results_cell_row rfl _ _ (w.heap.size + 1 + 1) 27 _ (0, 0) _ rfl (hp_alloc2 (set2 HR.out _ _) _ _) Try.underlying27 rfl (by kernel_rfl)) rfl ⟨by first | rfl | simp, bl2 (bel_set2 HB.out (by omega) _ _) _ _⟩
    | exact bodyPost_ret (results_cell_row rfl _ _ (w.heap.size + 1 + 1) 27 _ (0, 0) _ rfl (hp_alloc (set2 HR.out _ _) _) Try.underlying27 rfl (by kernel_rfl)) rfl ⟨by first | rfl | simp, bl1 (bel_set2 HB.out (by omega) _ _) _⟩
    | exact bodyPost_ret (results_cell_row rfl _ _ (w.heap.size + 1 + 1) 27 _ (0, 0) _ rfl (heap_trd _ _ _ _) Try.underlying27 rfl (by kernel_rfl)) rfl ⟨by first | rfl | simp, bl3 (Below.refl w.heap.size w) _ _ _⟩
set_option maxHeartbeats 1000000 in
theorem rfirst_1 (w : World) (c b o1 o2 c' b' p1 p2 fo fp : Int) (hN1 : nil4 c = true) (hN2 : nil4 c' = true) : Calls Try.prog 16 #[.agg #[.int .u64 c, .int .u64 b, .int .u64 o1, .int .u64 o2], .int .u32 fo, .agg #[.int .u64 c', .int .u64 b', .int .u64 p1, .int .u64 p2], .int .u32 fp] w fun e w' => e = .returned (.agg #[.int .i64 0, .int .i64 1]) ∧ Below w.heap.size w w' := by
  have HN1 := hide fun w => none_any w c
  have HN2 := hide fun w => none_any w c'
  have HAM := hide fun w => rmatch_any w b c'
  have HBM := hide fun w => rmatch_any w b' c
  have HAO : Hid (∀ w, Calls Try.prog 46 #[.int .u64 c', .agg #[.int .u64 c, .int .u64 b, .int .u64 o1, .int .u64 o2]] w fun e w' => e = .returned (.bool (Gn.hip (Gn.mk c b o1 o2) c')) ∧ ∃ X, w' = w.alloc X) := hide fun w => old_any w c' (Gn.mk c b o1 o2)
  have HBO : Hid (∀ w, Calls Try.prog 46 #[.int .u64 c, .agg #[.int .u64 c', .int .u64 b', .int .u64 p1, .int .u64 p2]] w fun e w' => e = .returned (.bool (Gn.hip (Gn.mk c' b' p1 p2) c)) ∧ ∃ X, w' = w.alloc X) := hide fun w => old_any w c (Gn.mk c' b' p1 p2)
  have HW := hide way_any
  unfold wy mirK at HW
  rw [hN1] at HN1
  clear hN1
  rw [hN2] at HN2
  clear hN2
  have HO := hide (hp_alloc2 (hp_new w (.cells #[.int .u64 c, .int .u64 b, .int .u64 o1, .int .u64 o2] 24)) (.cells #[.int .u64 c', .int .u64 b', .int .u64 p1, .int .u64 p2] 24) (.cells #[.int .i64 0, .int .i64 0] 27))
  have HQ := hide (hp_alloc (heap_snd w (.cells #[.int .u64 c, .int .u64 b, .int .u64 o1, .int .u64 o2] 24) (.cells #[.int .u64 c', .int .u64 b', .int .u64 p1, .int .u64 p2] 24)) (.cells #[.int .i64 0, .int .i64 0] 27))
  have HR := hide (heap_trd w (.cells #[.int .u64 c, .int .u64 b, .int .u64 o1, .int .u64 o2] 24) (.cells #[.int .u64 c', .int .u64 b', .int .u64 p1, .int .u64 p2] 24) (.cells #[.int .i64 0, .int .i64 0] 27))
  have HB := hide (bl3 (Below.refl w.heap.size w) (.cells #[.int .u64 c, .int .u64 b, .int .u64 o1, .int .u64 o2] 24) (.cells #[.int .u64 c', .int .u64 b', .int .u64 p1, .int .u64 p2] 24) (.cells #[.int .i64 0, .int .i64 0] 27))
  go_enter Try.func16, Try.ntmps16
  go_wp2_with (first
    | (go_at_call 43; (with_reducible refine (HN1.out _).mono ?_); rintro e w2 ⟨rfl, rfl⟩)
    | (go_at_call 43; (with_reducible refine (HN2.out _).mono ?_); rintro e w2 ⟨rfl, rfl⟩)
    | (go_at_call 45; (with_reducible refine (HAM.out _).mono ?_); rintro e w2 ⟨rfl, rfl⟩)
    | (go_at_call 45; (with_reducible refine (HBM.out _).mono ?_); rintro e w2 ⟨rfl, rfl⟩)
    | (go_at_call 46; (with_reducible refine (HAO.out _).mono ?_); rintro e w2 ⟨rfl, X, rfl⟩)
    | (go_at_call 46; (with_reducible refine (HBO.out _).mono ?_); rintro e w2 ⟨rfl, Y, rfl⟩)
    | (go_at_call 44; refine (HW.out _ _ _ _ _).mono ?_; rintro e w2 ⟨rfl, hb⟩; have HO := hide (hp_below (by first | with_reducible exact HO.out | with_reducible exact hp_alloc HO.out _ | with_reducible exact hp_alloc2 HO.out _ _) hb); have HQ := hide (hp_below (by first | with_reducible exact HQ.out | with_reducible exact hp_alloc HQ.out _ | with_reducible exact hp_alloc2 HQ.out _ _) hb); have HR := hide (hp_below (by first | with_reducible exact HR.out | with_reducible exact hp_alloc HR.out _ | with_reducible exact hp_alloc2 HR.out _ _) hb); have HB := hide (bel_to (by first | with_reducible exact HB.out | with_reducible exact bl1 HB.out _ | with_reducible exact bl2 HB.out _ _) hb); obtain ⟨a0, a1, a2, a3, ax⟩ := hp_cells4 HO.out; obtain ⟨b0, b1, b2, b3, bx⟩ := hp_cells4 HQ.out; obtain ⟨s0, s1, sx⟩ := hp_cells2 HR.out; have f0 := frozen_of_row _ _ 0 _ _ HR.out; have f1 := frozen_of_row _ _ 1 _ _ HR.out; clear hb))
  first
    | exact bodyPost_ret (results_cell_row rfl _ _ (w.heap.size + 1 + 1) 27 _ (0, 0) _ rfl (set2 HR.out _ _) Try.underlying27 rfl (by kernel_rfl)) rfl ⟨by first | rfl | simp, bel_set2 HB.out (by omega) _ _⟩
    | exact bodyPost_ret (results_cell_row rfl _ _ (w.heap.size + 1 + 1) 27 _ (0, 0) _ rfl (hp_alloc2 (set2 HR.out _ _) _ _) Try.underlying27 rfl (by kernel_rfl)) rfl ⟨by first | rfl | simp, bl2 (bel_set2 HB.out (by omega) _ _) _ _⟩
    | exact bodyPost_ret (results_cell_row rfl _ _ (w.heap.size + 1 + 1) 27 _ (0, 0) _ rfl (hp_alloc (set2 HR.out _ _) _) Try.underlying27 rfl (by kernel_rfl)) rfl ⟨by first | rfl | simp, bl1 (bel_set2 HB.out (by omega) _ _) _⟩
    | exact bodyPost_ret (results_cell_row rfl _ _ (w.heap.size + 1 + 1) 27 _ (0, 0) _ rfl (heap_trd _ _ _ _) Try.underlying27 rfl (by kernel_rfl)) rfl ⟨by first | rfl | simp, bl3 (Below.refl w.heap.size w) _ _ _⟩
set_option maxHeartbeats 1000000 in
theorem rfirst_8 (w : World) (c b o1 o2 c' b' p1 p2 fo fp : Int) (hN1 : nil4 c = false) (hN2 : nil4 c' = false) (hE : (c == c') = false) (ham : mt b c' = true) (hbm : mt b' c = true) : Calls Try.prog 16 #[.agg #[.int .u64 c, .int .u64 b, .int .u64 o1, .int .u64 o2], .int .u32 fo, .agg #[.int .u64 c', .int .u64 b', .int .u64 p1, .int .u64 p2], .int .u32 fp] w fun e w' => e = .returned (.agg #[.int .i64 5, .int .i64 8]) ∧ Below w.heap.size w w' := by
  have HN1 := hide fun w => none_any w c
  have HN2 := hide fun w => none_any w c'
  have HAM := hide fun w => rmatch_any w b c'
  have HBM := hide fun w => rmatch_any w b' c
  have HAO : Hid (∀ w, Calls Try.prog 46 #[.int .u64 c', .agg #[.int .u64 c, .int .u64 b, .int .u64 o1, .int .u64 o2]] w fun e w' => e = .returned (.bool (Gn.hip (Gn.mk c b o1 o2) c')) ∧ ∃ X, w' = w.alloc X) := hide fun w => old_any w c' (Gn.mk c b o1 o2)
  have HBO : Hid (∀ w, Calls Try.prog 46 #[.int .u64 c, .agg #[.int .u64 c', .int .u64 b', .int .u64 p1, .int .u64 p2]] w fun e w' => e = .returned (.bool (Gn.hip (Gn.mk c' b' p1 p2) c)) ∧ ∃ X, w' = w.alloc X) := hide fun w => old_any w c (Gn.mk c' b' p1 p2)
  have HW := hide way_any
  unfold wy mirK at HW
  rw [hN1] at HN1
  clear hN1
  rw [hN2] at HN2
  clear hN2
  rw [ham] at HAM
  clear ham
  rw [hbm] at HBM
  clear hbm
  have HO := hide (hp_alloc2 (hp_new w (.cells #[.int .u64 c, .int .u64 b, .int .u64 o1, .int .u64 o2] 24)) (.cells #[.int .u64 c', .int .u64 b', .int .u64 p1, .int .u64 p2] 24) (.cells #[.int .i64 0, .int .i64 0] 27))
  have HQ := hide (hp_alloc (heap_snd w (.cells #[.int .u64 c, .int .u64 b, .int .u64 o1, .int .u64 o2] 24) (.cells #[.int .u64 c', .int .u64 b', .int .u64 p1, .int .u64 p2] 24)) (.cells #[.int .i64 0, .int .i64 0] 27))
  have HR := hide (heap_trd w (.cells #[.int .u64 c, .int .u64 b, .int .u64 o1, .int .u64 o2] 24) (.cells #[.int .u64 c', .int .u64 b', .int .u64 p1, .int .u64 p2] 24) (.cells #[.int .i64 0, .int .i64 0] 27))
  have HB := hide (bl3 (Below.refl w.heap.size w) (.cells #[.int .u64 c, .int .u64 b, .int .u64 o1, .int .u64 o2] 24) (.cells #[.int .u64 c', .int .u64 b', .int .u64 p1, .int .u64 p2] 24) (.cells #[.int .i64 0, .int .i64 0] 27))
  go_enter Try.func16, Try.ntmps16
  go_wp2_with (first
    | (go_at_call 43; (with_reducible refine (HN1.out _).mono ?_); rintro e w2 ⟨rfl, rfl⟩)
    | (go_at_call 43; (with_reducible refine (HN2.out _).mono ?_); rintro e w2 ⟨rfl, rfl⟩)
    | (go_at_call 45; (with_reducible refine (HAM.out _).mono ?_); rintro e w2 ⟨rfl, rfl⟩)
    | (go_at_call 45; (with_reducible refine (HBM.out _).mono ?_); rintro e w2 ⟨rfl, rfl⟩)
    | (go_at_call 46; (with_reducible refine (HAO.out _).mono ?_); rintro e w2 ⟨rfl, X, rfl⟩)
    | (go_at_call 46; (with_reducible refine (HBO.out _).mono ?_); rintro e w2 ⟨rfl, Y, rfl⟩)
    | (go_at_call 44; refine (HW.out _ _ _ _ _).mono ?_; rintro e w2 ⟨rfl, hb⟩; have HO := hide (hp_below (by first | with_reducible exact HO.out | with_reducible exact hp_alloc HO.out _ | with_reducible exact hp_alloc2 HO.out _ _) hb); have HQ := hide (hp_below (by first | with_reducible exact HQ.out | with_reducible exact hp_alloc HQ.out _ | with_reducible exact hp_alloc2 HQ.out _ _) hb); have HR := hide (hp_below (by first | with_reducible exact HR.out | with_reducible exact hp_alloc HR.out _ | with_reducible exact hp_alloc2 HR.out _ _) hb); have HB := hide (bel_to (by first | with_reducible exact HB.out | with_reducible exact bl1 HB.out _ | with_reducible exact bl2 HB.out _ _) hb); obtain ⟨a0, a1, a2, a3, ax⟩ := hp_cells4 HO.out; obtain ⟨b0, b1, b2, b3, bx⟩ := hp_cells4 HQ.out; obtain ⟨s0, s1, sx⟩ := hp_cells2 HR.out; have f0 := frozen_of_row _ _ 0 _ _ HR.out; have f1 := frozen_of_row _ _ 1 _ _ HR.out; clear hb))
  first
    | exact bodyPost_ret (results_cell_row rfl _ _ (w.heap.size + 1 + 1) 27 _ (0, 0) _ rfl (set2 HR.out _ _) Try.underlying27 rfl (by kernel_rfl)) rfl ⟨by first | rfl | simp, bel_set2 HB.out (by omega) _ _⟩
    | exact bodyPost_ret (results_cell_row rfl _ _ (w.heap.size + 1 + 1) 27 _ (0, 0) _ rfl (hp_alloc2 (set2 HR.out _ _) _ _) Try.underlying27 rfl (by kernel_rfl)) rfl ⟨by first | rfl | simp, bl2 (bel_set2 HB.out (by omega) _ _) _ _⟩
    | exact bodyPost_ret (results_cell_row rfl _ _ (w.heap.size + 1 + 1) 27 _ (0, 0) _ rfl (hp_alloc (set2 HR.out _ _) _) Try.underlying27 rfl (by kernel_rfl)) rfl ⟨by first | rfl | simp, bl1 (bel_set2 HB.out (by omega) _ _) _⟩
    | exact bodyPost_ret (results_cell_row rfl _ _ (w.heap.size + 1 + 1) 27 _ (0, 0) _ rfl (heap_trd _ _ _ _) Try.underlying27 rfl (by kernel_rfl)) rfl ⟨by first | rfl | simp, bl3 (Below.refl w.heap.size w) _ _ _⟩
end Go.Proofs.Ytlmfdbimchhjjab
