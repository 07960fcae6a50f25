import Derived.Test.YtlmfdbimchhjjaaIdRRes
namespace Go.Proofs.Ytlmfdbimchhjjaa
open Go.RowKit
set_option linter.unusedVariables false
set_option linter.unusedSimpArgs false
set_option maxRecDepth 20000

theorem rres_1100q0_5 (w : World) (r n s0 s1 s2 mo mp fo fp : Int) (hd : (bits BinOp.and IntKind.u32 fo 16 != 0) = true) (he : (bits BinOp.and IntKind.u32 fp 16 != 0) = true) (H1 : Hid (∀ w, Calls Try.prog 34 #[vd 5 r, .int .i64 n, .int .i64 s0, .int .i64 s1, .int .i64 s2, .int .i64 0, .int .i64 0, .int .i64 mo, .int .i64 mp] w fun e w' => e = .returned (.int .i64 0) ∧ ∃ X, w' = w.alloc X)) (H2 : Hid (∀ w, Calls Try.prog 35 #[.int .i64 s0, .int .i64 n, .int .i64 mo, .int .i64 mp] w fun e w' => e = .returned (.int .i64 (-1)) ∧ w' = w)) : Calls Try.prog 17 #[vd 5 r, .int .i64 n, .int .i64 s0, .int .i64 s1, .int .i64 s2, .int .i64 0, .int .i64 0, .int .i64 mo, .int .i64 mp, .int .u32 fo, .int .u32 fp] w fun e w' => e = .returned (setV (if gl true true 0 0 s1 0 = 0 then (5, r, 0) else (rk (gl true true 0 0 s1 0 == 2) false, gr true true 0 0, 0))) ∧ Below w.heap.size w w' := by
  have H3 := hide rmirror_any
  rw [show (if gl _ _ _ _ _ _ = 0 then _ else _ : Int × Int × Int) = (5, r, 0) by simp [gl, gr, rk]]
  unfold mirK setV vd at *
  dsimp only at *
  go_enter Try.func17, Try.ntmps17
  go_wp2_with (first
    | (go_at_call 34; refine (H1.out _).mono ?_; rintro e w2 ⟨rfl, X, rfl⟩)
    | (go_at_call 35; refine (H2.out _).mono ?_; rintro e w2 ⟨rfl, rfl⟩)
    | (go_at_call 13; refine (H3.out _ _ _).mono ?_; rintro e w2 ⟨rfl, Y, Z, U, rfl⟩))
  all_goals
    exact bodyPost_ret (results_row_tmp rfl _ _ (w.heap.size + 1) 26 _ (0, 0) _ rfl (heap_snd3 _ _ _ _) Try.underlying26 rfl (by kernel_rfl)) rfl ⟨by first | rfl | simp, bl3 (Below.refl w.heap.size w) _ _ _⟩
theorem rres_1100q0_6 (w : World) (r n s0 s1 s2 mo mp fo fp : Int) (hd : (bits BinOp.and IntKind.u32 fo 16 != 0) = true) (he : (bits BinOp.and IntKind.u32 fp 16 != 0) = true) (H1 : Hid (∀ w, Calls Try.prog 34 #[vd 6 r, .int .i64 n, .int .i64 s0, .int .i64 s1, .int .i64 s2, .int .i64 0, .int .i64 0, .int .i64 mo, .int .i64 mp] w fun e w' => e = .returned (.int .i64 0) ∧ ∃ X, w' = w.alloc X)) (H2 : Hid (∀ w, Calls Try.prog 35 #[.int .i64 s0, .int .i64 n, .int .i64 mo, .int .i64 mp] w fun e w' => e = .returned (.int .i64 (-1)) ∧ w' = w)) : Calls Try.prog 17 #[vd 6 r, .int .i64 n, .int .i64 s0, .int .i64 s1, .int .i64 s2, .int .i64 0, .int .i64 0, .int .i64 mo, .int .i64 mp, .int .u32 fo, .int .u32 fp] w fun e w' => e = .returned (setV (if gl true true 0 0 s1 0 = 0 then (6, r, 0) else (rk (gl true true 0 0 s1 0 == 2) true, gr true true 0 0, 0))) ∧ Below w.heap.size w w' := by
  have H3 := hide rmirror_any
  rw [show (if gl _ _ _ _ _ _ = 0 then _ else _ : Int × Int × Int) = (6, r, 0) by simp [gl, gr, rk]]
  unfold mirK setV vd at *
  dsimp only at *
  go_enter Try.func17, Try.ntmps17
  go_wp2_with (first
    | (go_at_call 34; refine (H1.out _).mono ?_; rintro e w2 ⟨rfl, X, rfl⟩)
    | (go_at_call 35; refine (H2.out _).mono ?_; rintro e w2 ⟨rfl, rfl⟩)
    | (go_at_call 13; refine (H3.out _ _ _).mono ?_; rintro e w2 ⟨rfl, Y, Z, U, rfl⟩))
  all_goals
    exact bodyPost_ret (results_row_tmp rfl _ _ (w.heap.size + 1) 26 _ (0, 0) _ rfl (heap_snd3 _ _ _ _) Try.underlying26 rfl (by kernel_rfl)) rfl ⟨by first | rfl | simp, bl3 (Below.refl w.heap.size w) _ _ _⟩
theorem rres_1100q1_5 (w : World) (r n s0 s1 s2 mo mp fo fp : Int) (hd : (bits BinOp.and IntKind.u32 fo 16 != 0) = true) (he : (bits BinOp.and IntKind.u32 fp 16 != 0) = true) (H1 : Hid (∀ w, Calls Try.prog 34 #[vd 5 r, .int .i64 n, .int .i64 s0, .int .i64 s1, .int .i64 s2, .int .i64 0, .int .i64 0, .int .i64 mo, .int .i64 mp] w fun e w' => e = .returned (.int .i64 0) ∧ ∃ X, w' = w.alloc X)) (H2 : Hid (∀ w, Calls Try.prog 35 #[.int .i64 s0, .int .i64 n, .int .i64 mo, .int .i64 mp] w fun e w' => e = .returned (.int .i64 0) ∧ w' = w)) : Calls Try.prog 17 #[vd 5 r, .int .i64 n, .int .i64 s0, .int .i64 s1, .int .i64 s2, .int .i64 0, .int .i64 0, .int .i64 mo, .int .i64 mp, .int .u32 fo, .int .u32 fp] w fun e w' => e = .returned (setV (if gl true true 0 0 s1 1 = 0 then (5, r, 0) else (rk (gl true true 0 0 s1 1 == 2) false, gr true true 0 0, 0))) ∧ Below w.heap.size w w' := by
  have H3 := hide rmirror_any
  rw [show (if gl _ _ _ _ _ _ = 0 then _ else _ : Int × Int × Int) = (2, 22, 0) by simp [gl, gr, rk]]
  unfold mirK setV vd at *
  dsimp only at *
  go_enter Try.func17, Try.ntmps17
  go_wp2_with (first
    | (go_at_call 34; refine (H1.out _).mono ?_; rintro e w2 ⟨rfl, X, rfl⟩)
    | (go_at_call 35; refine (H2.out _).mono ?_; rintro e w2 ⟨rfl, rfl⟩)
    | (go_at_call 13; refine (H3.out _ _ _).mono ?_; rintro e w2 ⟨rfl, Y, Z, U, rfl⟩))
  all_goals
    exact bodyPost_ret (results_row_tmp rfl _ _ (w.heap.size + 1) 26 _ (0, 0) _ rfl (hp_alloc (heap_snd3 _ _ _ _) _) Try.underlying26 rfl (by kernel_rfl)) rfl ⟨by first | rfl | simp, bl4 (Below.refl w.heap.size w) _ _ _ _⟩
theorem rres_1100q1_6 (w : World) (r n s0 s1 s2 mo mp fo fp : Int) (hd : (bits BinOp.and IntKind.u32 fo 16 != 0) = true) (he : (bits BinOp.and IntKind.u32 fp 16 != 0) = true) (H1 : Hid (∀ w, Calls Try.prog 34 #[vd 6 r, .int .i64 n, .int .i64 s0, .int .i64 s1, .int .i64 s2, .int .i64 0, .int .i64 0, .int .i64 mo, .int .i64 mp] w fun e w' => e = .returned (.int .i64 0) ∧ ∃ X, w' = w.alloc X)) (H2 : Hid (∀ w, Calls Try.prog 35 #[.int .i64 s0, .int .i64 n, .int .i64 mo, .int .i64 mp] w fun e w' => e = .returned (.int .i64 0) ∧ w' = w)) : Calls Try.prog 17 #[vd 6 r, .int .i64 n, .int .i64 s0, .int .i64 s1, .int .i64 s2, .int .i64 0, .int .i64 0, .int .i64 mo, .int .i64 mp, .int .u32 fo, .int .u32 fp] w fun e w' => e = .returned (setV (if gl true true 0 0 s1 1 = 0 then (6, r, 0) else (rk (gl true true 0 0 s1 1 == 2) true, gr true true 0 0, 0))) ∧ Below w.heap.size w w' := by
  have H3 := hide rmirror_any
  rw [show (if gl _ _ _ _ _ _ = 0 then _ else _ : Int × Int × Int) = (4, 22, 0) by simp [gl, gr, rk]]
  unfold mirK setV vd at *
  dsimp only at *
  go_enter Try.func17, Try.ntmps17
  go_wp2_with (first
    | (go_at_call 34; refine (H1.out _).mono ?_; rintro e w2 ⟨rfl, X, rfl⟩)
    | (go_at_call 35; refine (H2.out _).mono ?_; rintro e w2 ⟨rfl, rfl⟩)
    | (go_at_call 13; refine (H3.out _ _ _).mono ?_; rintro e w2 ⟨rfl, Y, Z, U, rfl⟩))
  all_goals
    exact bodyPost_ret (results_row_tmp rfl _ _ (w.heap.size + 1) 26 _ (0, 0) _ rfl (hp_alloc (heap_snd3 _ _ _ _) _) Try.underlying26 rfl (by kernel_rfl)) rfl ⟨by first | rfl | simp, bl4 (Below.refl w.heap.size w) _ _ _ _⟩
theorem rres_1100q2_5 (w : World) (r n s0 s1 s2 mo mp fo fp : Int) (hd : (bits BinOp.and IntKind.u32 fo 16 != 0) = true) (he : (bits BinOp.and IntKind.u32 fp 16 != 0) = true) (H1 : Hid (∀ w, Calls Try.prog 34 #[vd 5 r, .int .i64 n, .int .i64 s0, .int .i64 s1, .int .i64 s2, .int .i64 0, .int .i64 0, .int .i64 mo, .int .i64 mp] w fun e w' => e = .returned (.int .i64 0) ∧ ∃ X, w' = w.alloc X)) (H2 : Hid (∀ w, Calls Try.prog 35 #[.int .i64 s0, .int .i64 n, .int .i64 mo, .int .i64 mp] w fun e w' => e = .returned (.int .i64 1) ∧ w' = w)) : Calls Try.prog 17 #[vd 5 r, .int .i64 n, .int .i64 s0, .int .i64 s1, .int .i64 s2, .int .i64 0, .int .i64 0, .int .i64 mo, .int .i64 mp, .int .u32 fo, .int .u32 fp] w fun e w' => e = .returned (setV (if gl true true 0 0 s1 2 = 0 then (5, r, 0) else (rk (gl true true 0 0 s1 2 == 2) false, gr true true 0 0, 0))) ∧ Below w.heap.size w w' := by
  have H3 := hide rmirror_any
  rw [show (if gl _ _ _ _ _ _ = 0 then _ else _ : Int × Int × Int) = (1, 22, 0) by simp [gl, gr, rk]]
  unfold mirK setV vd at *
  dsimp only at *
  go_enter Try.func17, Try.ntmps17
  go_wp2_with (first
    | (go_at_call 34; refine (H1.out _).mono ?_; rintro e w2 ⟨rfl, X, rfl⟩)
    | (go_at_call 35; refine (H2.out _).mono ?_; rintro e w2 ⟨rfl, rfl⟩)
    | (go_at_call 13; refine (H3.out _ _ _).mono ?_; rintro e w2 ⟨rfl, Y, Z, U, rfl⟩))
  all_goals
    exact bodyPost_ret (results_row_tmp rfl _ _ (w.heap.size + 1) 26 _ (0, 0) _ rfl (hp_alloc2 (hp_alloc (hp_alloc (heap_snd3 _ _ _ _) _) _) _ _) Try.underlying26 rfl (by kernel_rfl)) rfl ⟨by first | rfl | simp, bl3 (bl4 (Below.refl w.heap.size w) _ _ _ _) _ _ _⟩
theorem rres_1100q2_6 (w : World) (r n s0 s1 s2 mo mp fo fp : Int) (hd : (bits BinOp.and IntKind.u32 fo 16 != 0) = true) (he : (bits BinOp.and IntKind.u32 fp 16 != 0) = true) (H1 : Hid (∀ w, Calls Try.prog 34 #[vd 6 r, .int .i64 n, .int .i64 s0, .int .i64 s1, .int .i64 s2, .int .i64 0, .int .i64 0, .int .i64 mo, .int .i64 mp] w fun e w' => e = .returned (.int .i64 0) ∧ ∃ X, w' = w.alloc X)) (H2 : Hid (∀ w, Calls Try.prog 35 #[.int .i64 s0, .int .i64 n, .int .i64 mo, .int .i64 mp] w fun e w' => e = .returned (.int .i64 1) ∧ w' = w)) : Calls Try.prog 17 #[vd 6 r, .int .i64 n, .int .i64 s0, .int .i64 s1, .int .i64 s2, .int .i64 0, .int .i64 0, .int .i64 mo, .int .i64 mp, .int .u32 fo, .int .u32 fp] w fun e w' => e = .returned (setV (if gl true true 0 0 s1 2 = 0 then (6, r, 0) else (rk (gl true true 0 0 s1 2 == 2) true, gr true true 0 0, 0))) ∧ Below w.heap.size w w' := by
  have H3 := hide rmirror_any
  rw [show (if gl _ _ _ _ _ _ = 0 then _ else _ : Int × Int × Int) = (3, 22, 0) by simp [gl, gr, rk]]
  unfold mirK setV vd at *
  dsimp only at *
  go_enter Try.func17, Try.ntmps17
  go_wp2_with (first
    | (go_at_call 34; refine (H1.out _).mono ?_; rintro e w2 ⟨rfl, X, rfl⟩)
    | (go_at_call 35; refine (H2.out _).mono ?_; rintro e w2 ⟨rfl, rfl⟩)
    | (go_at_call 13; refine (H3.out _ _ _).mono ?_; rintro e w2 ⟨rfl, Y, Z, U, rfl⟩))
  all_goals
    exact bodyPost_ret (results_row_tmp rfl _ _ (w.heap.size + 1) 26 _ (0, 0) _ rfl (hp_alloc2 (hp_alloc (hp_alloc (heap_snd3 _ _ _ _) _) _) _ _) Try.underlying26 rfl (by kernel_rfl)) rfl ⟨by first | rfl | simp, bl3 (bl4 (Below.refl w.heap.size w) _ _ _ _) _ _ _⟩
theorem rres_1101s0_5 (w : World) (r n s0 s2 mo mp fo fp q : Int) (hd : (bits BinOp.and IntKind.u32 fo 16 != 0) = true) (he : (bits BinOp.and IntKind.u32 fp 16 != 0) = true) (H1 : Hid (∀ w, Calls Try.prog 34 #[vd 5 r, .int .i64 n, .int .i64 s0, .int .i64 0, .int .i64 s2, .int .i64 0, .int .i64 1, .int .i64 mo, .int .i64 mp] w fun e w' => e = .returned (.int .i64 0) ∧ ∃ X, w' = w.alloc X)) (H2 : Hid (∀ w, Calls Try.prog 35 #[.int .i64 s0, .int .i64 n, .int .i64 mo, .int .i64 mp] w fun e w' => e = .returned (.int .i64 (q - 1)) ∧ w' = w)) : Calls Try.prog 17 #[vd 5 r, .int .i64 n, .int .i64 s0, .int .i64 0, .int .i64 s2, .int .i64 0, .int .i64 1, .int .i64 mo, .int .i64 mp, .int .u32 fo, .int .u32 fp] w fun e w' => e = .returned (setV (if gl true true 0 1 0 q = 0 then (5, r, 0) else (rk (gl true true 0 1 0 q == 2) false, gr true true 0 1, 0))) ∧ Below w.heap.size w w' := by
  have H3 := hide rmirror_any
  rw [show (if gl _ _ _ _ _ _ = 0 then _ else _ : Int × Int × Int) = (5, r, 0) by simp [gl, gr, rk]]
  unfold mirK setV vd at *
  dsimp only at *
  go_enter Try.func17, Try.ntmps17
  go_wp2_with (first
    | (go_at_call 34; refine (H1.out _).mono ?_; rintro e w2 ⟨rfl, X, rfl⟩)
    | (go_at_call 35; refine (H2.out _).mono ?_; rintro e w2 ⟨rfl, rfl⟩)
    | (go_at_call 13; refine (H3.out _ _ _).mono ?_; rintro e w2 ⟨rfl, Y, Z, U, rfl⟩))
  all_goals
    exact bodyPost_ret (results_row_tmp rfl _ _ (w.heap.size + 1) 26 _ (0, 0) _ rfl (heap_snd3 _ _ _ _) Try.underlying26 rfl (by kernel_rfl)) rfl ⟨by first | rfl | simp, bl3 (Below.refl w.heap.size w) _ _ _⟩
theorem rres_1101s0_6 (w : World) (r n s0 s2 mo mp fo fp q : Int) (hd : (bits BinOp.and IntKind.u32 fo 16 != 0) = true) (he : (bits BinOp.and IntKind.u32 fp 16 != 0) = true) (H1 : Hid (∀ w, Calls Try.prog 34 #[vd 6 r, .int .i64 n, .int .i64 s0, .int .i64 0, .int .i64 s2, .int .i64 0, .int .i64 1, .int .i64 mo, .int .i64 mp] w fun e w' => e = .returned (.int .i64 0) ∧ ∃ X, w' = w.alloc X)) (H2 : Hid (∀ w, Calls Try.prog 35 #[.int .i64 s0, .int .i64 n, .int .i64 mo, .int .i64 mp] w fun e w' => e = .returned (.int .i64 (q - 1)) ∧ w' = w)) : Calls Try.prog 17 #[vd 6 r, .int .i64 n, .int .i64 s0, .int .i64 0, .int .i64 s2, .int .i64 0, .int .i64 1, .int .i64 mo, .int .i64 mp, .int .u32 fo, .int .u32 fp] w fun e w' => e = .returned (setV (if gl true true 0 1 0 q = 0 then (6, r, 0) else (rk (gl true true 0 1 0 q == 2) true, gr true true 0 1, 0))) ∧ Below w.heap.size w w' := by
  have H3 := hide rmirror_any
  rw [show (if gl _ _ _ _ _ _ = 0 then _ else _ : Int × Int × Int) = (6, r, 0) by simp [gl, gr, rk]]
  unfold mirK setV vd at *
  dsimp only at *
  go_enter Try.func17, Try.ntmps17
  go_wp2_with (first
    | (go_at_call 34; refine (H1.out _).mono ?_; rintro e w2 ⟨rfl, X, rfl⟩)
    | (go_at_call 35; refine (H2.out _).mono ?_; rintro e w2 ⟨rfl, rfl⟩)
    | (go_at_call 13; refine (H3.out _ _ _).mono ?_; rintro e w2 ⟨rfl, Y, Z, U, rfl⟩))
  all_goals
    exact bodyPost_ret (results_row_tmp rfl _ _ (w.heap.size + 1) 26 _ (0, 0) _ rfl (heap_snd3 _ _ _ _) Try.underlying26 rfl (by kernel_rfl)) rfl ⟨by first | rfl | simp, bl3 (Below.refl w.heap.size w) _ _ _⟩
theorem rres_1101s5_5 (w : World) (r n s0 s2 mo mp fo fp q : Int) (hd : (bits BinOp.and IntKind.u32 fo 16 != 0) = true) (he : (bits BinOp.and IntKind.u32 fp 16 != 0) = true) (H1 : Hid (∀ w, Calls Try.prog 34 #[vd 5 r, .int .i64 n, .int .i64 s0, .int .i64 5, .int .i64 s2, .int .i64 0, .int .i64 1, .int .i64 mo, .int .i64 mp] w fun e w' => e = .returned (.int .i64 0) ∧ ∃ X, w' = w.alloc X)) (H2 : Hid (∀ w, Calls Try.prog 35 #[.int .i64 s0, .int .i64 n, .int .i64 mo, .int .i64 mp] w fun e w' => e = .returned (.int .i64 (q - 1)) ∧ w' = w)) : Calls Try.prog 17 #[vd 5 r, .int .i64 n, .int .i64 s0, .int .i64 5, .int .i64 s2, .int .i64 0, .int .i64 1, .int .i64 mo, .int .i64 mp, .int .u32 fo, .int .u32 fp] w fun e w' => e = .returned (setV (if gl true true 0 1 5 q = 0 then (5, r, 0) else (rk (gl true true 0 1 5 q == 2) false, gr true true 0 1, 0))) ∧ Below w.heap.size w w' := by
  have H3 := hide rmirror_any
  rw [show (if gl _ _ _ _ _ _ = 0 then _ else _ : Int × Int × Int) = (2, 22, 0) by simp [gl, gr, rk]]
  unfold mirK setV vd at *
  dsimp only at *
  go_enter Try.func17, Try.ntmps17
  go_wp2_with (first
    | (go_at_call 34; refine (H1.out _).mono ?_; rintro e w2 ⟨rfl, X, rfl⟩)
    | (go_at_call 35; refine (H2.out _).mono ?_; rintro e w2 ⟨rfl, rfl⟩)
    | (go_at_call 13; refine (H3.out _ _ _).mono ?_; rintro e w2 ⟨rfl, Y, Z, U, rfl⟩))
  all_goals
    exact bodyPost_ret (results_row_tmp rfl _ _ (w.heap.size + 1) 26 _ (0, 0) _ rfl (hp_alloc (heap_snd3 _ _ _ _) _) Try.underlying26 rfl (by kernel_rfl)) rfl ⟨by first | rfl | simp, bl4 (Below.refl w.heap.size w) _ _ _ _⟩
theorem rres_1101s5_6 (w : World) (r n s0 s2 mo mp fo fp q : Int) (hd : (bits BinOp.and IntKind.u32 fo 16 != 0) = true) (he : (bits BinOp.and IntKind.u32 fp 16 != 0) = true) (H1 : Hid (∀ w, Calls Try.prog 34 #[vd 6 r, .int .i64 n, .int .i64 s0, .int .i64 5, .int .i64 s2, .int .i64 0, .int .i64 1, .int .i64 mo, .int .i64 mp] w fun e w' => e = .returned (.int .i64 0) ∧ ∃ X, w' = w.alloc X)) (H2 : Hid (∀ w, Calls Try.prog 35 #[.int .i64 s0, .int .i64 n, .int .i64 mo, .int .i64 mp] w fun e w' => e = .returned (.int .i64 (q - 1)) ∧ w' = w)) : Calls Try.prog 17 #[vd 6 r, .int .i64 n, .int .i64 s0, .int .i64 5, .int .i64 s2, .int .i64 0, .int .i64 1, .int .i64 mo, .int .i64 mp, .int .u32 fo, .int .u32 fp] w fun e w' => e = .returned (setV (if gl true true 0 1 5 q = 0 then (6, r, 0) else (rk (gl true true 0 1 5 q == 2) true, gr true true 0 1, 0))) ∧ Below w.heap.size w w' := by
  have H3 := hide rmirror_any
  rw [show (if gl _ _ _ _ _ _ = 0 then _ else _ : Int × Int × Int) = (4, 22, 0) by simp [gl, gr, rk]]
  unfold mirK setV vd at *
  dsimp only at *
  go_enter Try.func17, Try.ntmps17
  go_wp2_with (first
    | (go_at_call 34; refine (H1.out _).mono ?_; rintro e w2 ⟨rfl, X, rfl⟩)
    | (go_at_call 35; refine (H2.out _).mono ?_; rintro e w2 ⟨rfl, rfl⟩)
    | (go_at_call 13; refine (H3.out _ _ _).mono ?_; rintro e w2 ⟨rfl, Y, Z, U, rfl⟩))
  all_goals
    exact bodyPost_ret (results_row_tmp rfl _ _ (w.heap.size + 1) 26 _ (0, 0) _ rfl (hp_alloc (heap_snd3 _ _ _ _) _) Try.underlying26 rfl (by kernel_rfl)) rfl ⟨by first | rfl | simp, bl4 (Below.refl w.heap.size w) _ _ _ _⟩
theorem rres_1101s6y_5 (w : World) (r n s0 s2 mo mp fo fp : Int) (hd : (bits BinOp.and IntKind.u32 fo 16 != 0) = true) (he : (bits BinOp.and IntKind.u32 fp 16 != 0) = true) (H1 : Hid (∀ w, Calls Try.prog 34 #[vd 5 r, .int .i64 n, .int .i64 s0, .int .i64 6, .int .i64 s2, .int .i64 0, .int .i64 1, .int .i64 mo, .int .i64 mp] w fun e w' => e = .returned (.int .i64 0) ∧ ∃ X, w' = w.alloc X)) (H2 : Hid (∀ w, Calls Try.prog 35 #[.int .i64 s0, .int .i64 n, .int .i64 mo, .int .i64 mp] w fun e w' => e = .returned (.int .i64 0) ∧ w' = w)) : Calls Try.prog 17 #[vd 5 r, .int .i64 n, .int .i64 s0, .int .i64 6, .int .i64 s2, .int .i64 0, .int .i64 1, .int .i64 mo, .int .i64 mp, .int .u32 fo, .int .u32 fp] w fun e w' => e = .returned (setV (if gl true true 0 1 6 1 = 0 then (5, r, 0) else (rk (gl true true 0 1 6 1 == 2) false, gr true true 0 1, 0))) ∧ Below w.heap.size w w' := by
  have H3 := hide rmirror_any
  rw [show (if gl _ _ _ _ _ _ = 0 then _ else _ : Int × Int × Int) = (2, 22, 0) by simp [gl, gr, rk]]
  unfold mirK setV vd at *
  dsimp only at *
  go_enter Try.func17, Try.ntmps17
  go_wp2_with (first
    | (go_at_call 34; refine (H1.out _).mono ?_; rintro e w2 ⟨rfl, X, rfl⟩)
    | (go_at_call 35; refine (H2.out _).mono ?_; rintro e w2 ⟨rfl, rfl⟩)
    | (go_at_call 13; refine (H3.out _ _ _).mono ?_; rintro e w2 ⟨rfl, Y, Z, U, rfl⟩))
  all_goals
    exact bodyPost_ret (results_row_tmp rfl _ _ (w.heap.size + 1) 26 _ (0, 0) _ rfl (hp_alloc (heap_snd3 _ _ _ _) _) Try.underlying26 rfl (by kernel_rfl)) rfl ⟨by first | rfl | simp, bl4 (Below.refl w.heap.size w) _ _ _ _⟩
theorem rres_1101s6y_6 (w : World) (r n s0 s2 mo mp fo fp : Int) (hd : (bits BinOp.and IntKind.u32 fo 16 != 0) = true) (he : (bits BinOp.and IntKind.u32 fp 16 != 0) = true) (H1 : Hid (∀ w, Calls Try.prog 34 #[vd 6 r, .int .i64 n, .int .i64 s0, .int .i64 6, .int .i64 s2, .int .i64 0, .int .i64 1, .int .i64 mo, .int .i64 mp] w fun e w' => e = .returned (.int .i64 0) ∧ ∃ X, w' = w.alloc X)) (H2 : Hid (∀ w, Calls Try.prog 35 #[.int .i64 s0, .int .i64 n, .int .i64 mo, .int .i64 mp] w fun e w' => e = .returned (.int .i64 0) ∧ w' = w)) : Calls Try.prog 17 #[vd 6 r, .int .i64 n, .int .i64 s0, .int .i64 6, .int .i64 s2, .int .i64 0, .int .i64 1, .int .i64 mo, .int .i64 mp, .int .u32 fo, .int .u32 fp] w fun e w' => e = .returned (setV (if gl true true 0 1 6 1 = 0 then (6, r, 0) else (rk (gl true true 0 1 6 1 == 2) true, gr true true 0 1, 0))) ∧ Below w.heap.size w w' := by
  have H3 := hide rmirror_any
  rw [show (if gl _ _ _ _ _ _ = 0 then _ else _ : Int × Int × Int) = (4, 22, 0) by simp [gl, gr, rk]]
  unfold mirK setV vd at *
  dsimp only at *
  go_enter Try.func17, Try.ntmps17
  go_wp2_with (first
    | (go_at_call 34; refine (H1.out _).mono ?_; rintro e w2 ⟨rfl, X, rfl⟩)
    | (go_at_call 35; refine (H2.out _).mono ?_; rintro e w2 ⟨rfl, rfl⟩)
    | (go_at_call 13; refine (H3.out _ _ _).mono ?_; rintro e w2 ⟨rfl, Y, Z, U, rfl⟩))
  all_goals
    exact bodyPost_ret (results_row_tmp rfl _ _ (w.heap.size + 1) 26 _ (0, 0) _ rfl (hp_alloc (heap_snd3 _ _ _ _) _) Try.underlying26 rfl (by kernel_rfl)) rfl ⟨by first | rfl | simp, bl4 (Below.refl w.heap.size w) _ _ _ _⟩
theorem rres_1101s6n_5 (w : World) (r n s0 s2 mo mp fo fp q : Int) (hd : (bits BinOp.and IntKind.u32 fo 16 != 0) = true) (he : (bits BinOp.and IntKind.u32 fp 16 != 0) = true) (H1 : Hid (∀ w, Calls Try.prog 34 #[vd 5 r, .int .i64 n, .int .i64 s0, .int .i64 6, .int .i64 s2, .int .i64 0, .int .i64 1, .int .i64 mo, .int .i64 mp] w fun e w' => e = .returned (.int .i64 0) ∧ ∃ X, w' = w.alloc X)) (H2 : Hid (∀ w, Calls Try.prog 35 #[.int .i64 s0, .int .i64 n, .int .i64 mo, .int .i64 mp] w fun e w' => e = .returned (.int .i64 (q - 1)) ∧ w' = w)) (hq : ¬ q = 1) (hq2 : ¬ q - 1 = 0) : Calls Try.prog 17 #[vd 5 r, .int .i64 n, .int .i64 s0, .int .i64 6, .int .i64 s2, .int .i64 0, .int .i64 1, .int .i64 mo, .int .i64 mp, .int .u32 fo, .int .u32 fp] w fun e w' => e = .returned (setV (if gl true true 0 1 6 q = 0 then (5, r, 0) else (rk (gl true true 0 1 6 q == 2) false, gr true true 0 1, 0))) ∧ Below w.heap.size w w' := by
  have H3 := hide rmirror_any
  rw [show (if gl _ _ _ _ _ _ = 0 then _ else _ : Int × Int × Int) = (5, r, 0) by simp [gl, gr, rk, hq]]
  unfold mirK setV vd at *
  dsimp only at *
  go_enter Try.func17, Try.ntmps17
  go_wp2_with (first
    | (go_at_call 34; refine (H1.out _).mono ?_; rintro e w2 ⟨rfl, X, rfl⟩)
    | (go_at_call 35; refine (H2.out _).mono ?_; rintro e w2 ⟨rfl, rfl⟩)
    | (go_at_call 13; refine (H3.out _ _ _).mono ?_; rintro e w2 ⟨rfl, Y, Z, U, rfl⟩))
  all_goals
    exact bodyPost_ret (results_row_tmp rfl _ _ (w.heap.size + 1) 26 _ (0, 0) _ rfl (heap_snd3 _ _ _ _) Try.underlying26 rfl (by kernel_rfl)) rfl ⟨by first | rfl | simp, bl3 (Below.refl w.heap.size w) _ _ _⟩
theorem rres_1101s6n_6 (w : World) (r n s0 s2 mo mp fo fp q : Int) (hd : (bits BinOp.and IntKind.u32 fo 16 != 0) = true) (he : (bits BinOp.and IntKind.u32 fp 16 != 0) = true) (H1 : Hid (∀ w, Calls Try.prog 34 #[vd 6 r, .int .i64 n, .int .i64 s0, .int .i64 6, .int .i64 s2, .int .i64 0, .int .i64 1, .int .i64 mo, .int .i64 mp] w fun e w' => e = .returned (.int .i64 0) ∧ ∃ X, w' = w.alloc X)) (H2 : Hid (∀ w, Calls Try.prog 35 #[.int .i64 s0, .int .i64 n, .int .i64 mo, .int .i64 mp] w fun e w' => e = .returned (.int .i64 (q - 1)) ∧ w' = w)) (hq : ¬ q = 1) (hq2 : ¬ q - 1 = 0) : Calls Try.prog 17 #[vd 6 r, .int .i64 n, .int .i64 s0, .int .i64 6, .int .i64 s2, .int .i64 0, .int .i64 1, .int .i64 mo, .int .i64 mp, .int .u32 fo, .int .u32 fp] w fun e w' => e = .returned (setV (if gl true true 0 1 6 q = 0 then (6, r, 0) else (rk (gl true true 0 1 6 q == 2) true, gr true true 0 1, 0))) ∧ Below w.heap.size w w' := by
  have H3 := hide rmirror_any
  rw [show (if gl _ _ _ _ _ _ = 0 then _ else _ : Int × Int × Int) = (6, r, 0) by simp [gl, gr, rk, hq]]
  unfold mirK setV vd at *
  dsimp only at *
  go_enter Try.func17, Try.ntmps17
  go_wp2_with (first
    | (go_at_call 34; refine (H1.out _).mono ?_; rintro e w2 ⟨rfl, X, rfl⟩)
    | (go_at_call 35; refine (H2.out _).mono ?_; rintro e w2 ⟨rfl, rfl⟩)
    | (go_at_call 13; refine (H3.out _ _ _).mono ?_; rintro e w2 ⟨rfl, Y, Z, U, rfl⟩))
  all_goals
    exact bodyPost_ret (results_row_tmp rfl _ _ (w.heap.size + 1) 26 _ (0, 0) _ rfl (heap_snd3 _ _ _ _) Try.underlying26 rfl (by kernel_rfl)) rfl ⟨by first | rfl | simp, bl3 (Below.refl w.heap.size w) _ _ _⟩
theorem rres_1110s0_5 (w : World) (r n s0 s2 mo mp fo fp q : Int) (hd : (bits BinOp.and IntKind.u32 fo 16 != 0) = true) (he : (bits BinOp.and IntKind.u32 fp 16 != 0) = true) (H1 : Hid (∀ w, Calls Try.prog 34 #[vd 5 r, .int .i64 n, .int .i64 s0, .int .i64 0, .int .i64 s2, .int .i64 1, .int .i64 0, .int .i64 mo, .int .i64 mp] w fun e w' => e = .returned (.int .i64 0) ∧ ∃ X, w' = w.alloc X)) (H2 : Hid (∀ w, Calls Try.prog 35 #[.int .i64 s0, .int .i64 n, .int .i64 mo, .int .i64 mp] w fun e w' => e = .returned (.int .i64 (q - 1)) ∧ w' = w)) : Calls Try.prog 17 #[vd 5 r, .int .i64 n, .int .i64 s0, .int .i64 0, .int .i64 s2, .int .i64 1, .int .i64 0, .int .i64 mo, .int .i64 mp, .int .u32 fo, .int .u32 fp] w fun e w' => e = .returned (setV (if gl true true 1 0 0 q = 0 then (5, r, 0) else (rk (gl true true 1 0 0 q == 2) false, gr true true 1 0, 0))) ∧ Below w.heap.size w w' := by
  have H3 := hide rmirror_any
  rw [show (if gl _ _ _ _ _ _ = 0 then _ else _ : Int × Int × Int) = (5, r, 0) by simp [gl, gr, rk]]
  unfold mirK setV vd at *
  dsimp only at *
  go_enter Try.func17, Try.ntmps17
  go_wp2_with (first
    | (go_at_call 34; refine (H1.out _).mono ?_; rintro e w2 ⟨rfl, X, rfl⟩)
    | (go_at_call 35; refine (H2.out _).mono ?_; rintro e w2 ⟨rfl, rfl⟩)
    | (go_at_call 13; refine (H3.out _ _ _).mono ?_; rintro e w2 ⟨rfl, Y, Z, U, rfl⟩))
  all_goals
    exact bodyPost_ret (results_row_tmp rfl _ _ (w.heap.size + 1) 26 _ (0, 0) _ rfl (heap_snd3 _ _ _ _) Try.underlying26 rfl (by kernel_rfl)) rfl ⟨by first | rfl | simp, bl3 (Below.refl w.heap.size w) _ _ _⟩
theorem rres_1110s0_6 (w : World) (r n s0 s2 mo mp fo fp q : Int) (hd : (bits BinOp.and IntKind.u32 fo 16 != 0) = true) (he : (bits BinOp.and IntKind.u32 fp 16 != 0) = true) (H1 : Hid (∀ w, Calls Try.prog 34 #[vd 6 r, .int .i64 n, .int .i64 s0, .int .i64 0, .int .i64 s2, .int .i64 1, .int .i64 0, .int .i64 mo, .int .i64 mp] w fun e w' => e = .returned (.int .i64 0) ∧ ∃ X, w' = w.alloc X)) (H2 : Hid (∀ w, Calls Try.prog 35 #[.int .i64 s0, .int .i64 n, .int .i64 mo, .int .i64 mp] w fun e w' => e = .returned (.int .i64 (q - 1)) ∧ w' = w)) : Calls Try.prog 17 #[vd 6 r, .int .i64 n, .int .i64 s0, .int .i64 0, .int .i64 s2, .int .i64 1, .int .i64 0, .int .i64 mo, .int .i64 mp, .int .u32 fo, .int .u32 fp] w fun e w' => e = .returned (setV (if gl true true 1 0 0 q = 0 then (6, r, 0) else (rk (gl true true 1 0 0 q == 2) true, gr true true 1 0, 0))) ∧ Below w.heap.size w w' := by
  have H3 := hide rmirror_any
  rw [show (if gl _ _ _ _ _ _ = 0 then _ else _ : Int × Int × Int) = (6, r, 0) by simp [gl, gr, rk]]
  unfold mirK setV vd at *
  dsimp only at *
  go_enter Try.func17, Try.ntmps17
  go_wp2_with (first
    | (go_at_call 34; refine (H1.out _).mono ?_; rintro e w2 ⟨rfl, X, rfl⟩)
    | (go_at_call 35; refine (H2.out _).mono ?_; rintro e w2 ⟨rfl, rfl⟩)
    | (go_at_call 13; refine (H3.out _ _ _).mono ?_; rintro e w2 ⟨rfl, Y, Z, U, rfl⟩))
  all_goals
    exact bodyPost_ret (results_row_tmp rfl _ _ (w.heap.size + 1) 26 _ (0, 0) _ rfl (heap_snd3 _ _ _ _) Try.underlying26 rfl (by kernel_rfl)) rfl ⟨by first | rfl | simp, bl3 (Below.refl w.heap.size w) _ _ _⟩
theorem rres_1110s5_5 (w : World) (r n s0 s2 mo mp fo fp q : Int) (hd : (bits BinOp.and IntKind.u32 fo 16 != 0) = true) (he : (bits BinOp.and IntKind.u32 fp 16 != 0) = true) (H1 : Hid (∀ w, Calls Try.prog 34 #[vd 5 r, .int .i64 n, .int .i64 s0, .int .i64 5, .int .i64 s2, .int .i64 1, .int .i64 0, .int .i64 mo, .int .i64 mp] w fun e w' => e = .returned (.int .i64 0) ∧ ∃ X, w' = w.alloc X)) (H2 : Hid (∀ w, Calls Try.prog 35 #[.int .i64 s0, .int .i64 n, .int .i64 mo, .int .i64 mp] w fun e w' => e = .returned (.int .i64 (q - 1)) ∧ w' = w)) : Calls Try.prog 17 #[vd 5 r, .int .i64 n, .int .i64 s0, .int .i64 5, .int .i64 s2, .int .i64 1, .int .i64 0, .int .i64 mo, .int .i64 mp, .int .u32 fo, .int .u32 fp] w fun e w' => e = .returned (setV (if gl true true 1 0 5 q = 0 then (5, r, 0) else (rk (gl true true 1 0 5 q == 2) false, gr true true 1 0, 0))) ∧ Below w.heap.size w w' := by
  have H3 := hide rmirror_any
  rw [show (if gl _ _ _ _ _ _ = 0 then _ else _ : Int × Int × Int) = (1, 22, 0) by simp [gl, gr, rk]]
  unfold mirK setV vd at *
  dsimp only at *
  go_enter Try.func17, Try.ntmps17
  go_wp2_with (first
    | (go_at_call 34; refine (H1.out _).mono ?_; rintro e w2 ⟨rfl, X, rfl⟩)
    | (go_at_call 35; refine (H2.out _).mono ?_; rintro e w2 ⟨rfl, rfl⟩)
    | (go_at_call 13; refine (H3.out _ _ _).mono ?_; rintro e w2 ⟨rfl, Y, Z, U, rfl⟩))
  all_goals
    exact bodyPost_ret (results_row_tmp rfl _ _ (w.heap.size + 1) 26 _ (0, 0) _ rfl (hp_alloc2 (hp_alloc (hp_alloc (heap_snd3 _ _ _ _) _) _) _ _) Try.underlying26 rfl (by kernel_rfl)) rfl ⟨by first | rfl | simp, bl3 (bl4 (Below.refl w.heap.size w) _ _ _ _) _ _ _⟩
theorem rres_1110s5_6 (w : World) (r n s0 s2 mo mp fo fp q : Int) (hd : (bits BinOp.and IntKind.u32 fo 16 != 0) = true) (he : (bits BinOp.and IntKind.u32 fp 16 != 0) = true) (H1 : Hid (∀ w, Calls Try.prog 34 #[vd 6 r, .int .i64 n, .int .i64 s0, .int .i64 5, .int .i64 s2, .int .i64 1, .int .i64 0, .int .i64 mo, .int .i64 mp] w fun e w' => e = .returned (.int .i64 0) ∧ ∃ X, w' = w.alloc X)) (H2 : Hid (∀ w, Calls Try.prog 35 #[.int .i64 s0, .int .i64 n, .int .i64 mo, .int .i64 mp] w fun e w' => e = .returned (.int .i64 (q - 1)) ∧ w' = w)) : Calls Try.prog 17 #[vd 6 r, .int .i64 n, .int .i64 s0, .int .i64 5, .int .i64 s2, .int .i64 1, .int .i64 0, .int .i64 mo, .int .i64 mp, .int .u32 fo, .int .u32 fp] w fun e w' => e = .returned (setV (if gl true true 1 0 5 q = 0 then (6, r, 0) else (rk (gl true true 1 0 5 q == 2) true, gr true true 1 0, 0))) ∧ Below w.heap.size w w' := by
  have H3 := hide rmirror_any
  rw [show (if gl _ _ _ _ _ _ = 0 then _ else _ : Int × Int × Int) = (3, 22, 0) by simp [gl, gr, rk]]
  unfold mirK setV vd at *
  dsimp only at *
  go_enter Try.func17, Try.ntmps17
  go_wp2_with (first
    | (go_at_call 34; refine (H1.out _).mono ?_; rintro e w2 ⟨rfl, X, rfl⟩)
    | (go_at_call 35; refine (H2.out _).mono ?_; rintro e w2 ⟨rfl, rfl⟩)
    | (go_at_call 13; refine (H3.out _ _ _).mono ?_; rintro e w2 ⟨rfl, Y, Z, U, rfl⟩))
  all_goals
    exact bodyPost_ret (results_row_tmp rfl _ _ (w.heap.size + 1) 26 _ (0, 0) _ rfl (hp_alloc2 (hp_alloc (hp_alloc (heap_snd3 _ _ _ _) _) _) _ _) Try.underlying26 rfl (by kernel_rfl)) rfl ⟨by first | rfl | simp, bl3 (bl4 (Below.refl w.heap.size w) _ _ _ _) _ _ _⟩
theorem rres_1110s6y_5 (w : World) (r n s0 s2 mo mp fo fp : Int) (hd : (bits BinOp.and IntKind.u32 fo 16 != 0) = true) (he : (bits BinOp.and IntKind.u32 fp 16 != 0) = true) (H1 : Hid (∀ w, Calls Try.prog 34 #[vd 5 r, .int .i64 n, .int .i64 s0, .int .i64 6, .int .i64 s2, .int .i64 1, .int .i64 0, .int .i64 mo, .int .i64 mp] w fun e w' => e = .returned (.int .i64 0) ∧ ∃ X, w' = w.alloc X)) (H2 : Hid (∀ w, Calls Try.prog 35 #[.int .i64 s0, .int .i64 n, .int .i64 mo, .int .i64 mp] w fun e w' => e = .returned (.int .i64 1) ∧ w' = w)) : Calls Try.prog 17 #[vd 5 r, .int .i64 n, .int .i64 s0, .int .i64 6, .int .i64 s2, .int .i64 1, .int .i64 0, .int .i64 mo, .int .i64 mp, .int .u32 fo, .int .u32 fp] w fun e w' => e = .returned (setV (if gl true true 1 0 6 2 = 0 then (5, r, 0) else (rk (gl true true 1 0 6 2 == 2) false, gr true true 1 0, 0))) ∧ Below w.heap.size w w' := by
  have H3 := hide rmirror_any
  rw [show (if gl _ _ _ _ _ _ = 0 then _ else _ : Int × Int × Int) = (1, 22, 0) by simp [gl, gr, rk]]
  unfold mirK setV vd at *
  dsimp only at *
  go_enter Try.func17, Try.ntmps17
  go_wp2_with (first
    | (go_at_call 34; refine (H1.out _).mono ?_; rintro e w2 ⟨rfl, X, rfl⟩)
    | (go_at_call 35; refine (H2.out _).mono ?_; rintro e w2 ⟨rfl, rfl⟩)
    | (go_at_call 13; refine (H3.out _ _ _).mono ?_; rintro e w2 ⟨rfl, Y, Z, U, rfl⟩))
  all_goals
    exact bodyPost_ret (results_row_tmp rfl _ _ (w.heap.size + 1) 26 _ (0, 0) _ rfl (hp_alloc2 (hp_alloc (hp_alloc (heap_snd3 _ _ _ _) _) _) _ _) Try.underlying26 rfl (by kernel_rfl)) rfl ⟨by first | rfl | simp, bl3 (bl4 (Below.refl w.heap.size w) _ _ _ _) _ _ _⟩
theorem rres_1110s6y_6 (w : World) (r n s0 s2 mo mp fo fp : Int) (hd : (bits BinOp.and IntKind.u32 fo 16 != 0) = true) (he : (bits BinOp.and IntKind.u32 fp 16 != 0) = true) (H1 : Hid (∀ w, Calls Try.prog 34 #[vd 6 r, .int .i64 n, .int .i64 s0, .int .i64 6, .int .i64 s2, .int .i64 1, .int .i64 0, .int .i64 mo, .int .i64 mp] w fun e w' => e = .returned (.int .i64 0) ∧ ∃ X, w' = w.alloc X)) (H2 : Hid (∀ w, Calls Try.prog 35 #[.int .i64 s0, .int .i64 n, .int .i64 mo, .int .i64 mp] w fun e w' => e = .returned (.int .i64 1) ∧ w' = w)) : Calls Try.prog 17 #[vd 6 r, .int .i64 n, .int .i64 s0, .int .i64 6, .int .i64 s2, .int .i64 1, .int .i64 0, .int .i64 mo, .int .i64 mp, .int .u32 fo, .int .u32 fp] w fun e w' => e = .returned (setV (if gl true true 1 0 6 2 = 0 then (6, r, 0) else (rk (gl true true 1 0 6 2 == 2) true, gr true true 1 0, 0))) ∧ Below w.heap.size w w' := by
  have H3 := hide rmirror_any
  rw [show (if gl _ _ _ _ _ _ = 0 then _ else _ : Int × Int × Int) = (3, 22, 0) by simp [gl, gr, rk]]
  unfold mirK setV vd at *
  dsimp only at *
  go_enter Try.func17, Try.ntmps17
  go_wp2_with (first
    | (go_at_call 34; refine (H1.out _).mono ?_; rintro e w2 ⟨rfl, X, rfl⟩)
    | (go_at_call 35; refine (H2.out _).mono ?_; rintro e w2 ⟨rfl, rfl⟩)
    | (go_at_call 13; refine (H3.out _ _ _).mono ?_; rintro e w2 ⟨rfl, Y, Z, U, rfl⟩))
  all_goals
    exact bodyPost_ret (results_row_tmp rfl _ _ (w.heap.size + 1) 26 _ (0, 0) _ rfl (hp_alloc2 (hp_alloc (hp_alloc (heap_snd3 _ _ _ _) _) _) _ _) Try.underlying26 rfl (by kernel_rfl)) rfl ⟨by first | rfl | simp, bl3 (bl4 (Below.refl w.heap.size w) _ _ _ _) _ _ _⟩
theorem rres_1110s6n_5 (w : World) (r n s0 s2 mo mp fo fp q : Int) (hd : (bits BinOp.and IntKind.u32 fo 16 != 0) = true) (he : (bits BinOp.and IntKind.u32 fp 16 != 0) = true) (H1 : Hid (∀ w, Calls Try.prog 34 #[vd 5 r, .int .i64 n, .int .i64 s0, .int .i64 6, .int .i64 s2, .int .i64 1, .int .i64 0, .int .i64 mo, .int .i64 mp] w fun e w' => e = .returned (.int .i64 0) ∧ ∃ X, w' = w.alloc X)) (H2 : Hid (∀ w, Calls Try.prog 35 #[.int .i64 s0, .int .i64 n, .int .i64 mo, .int .i64 mp] w fun e w' => e = .returned (.int .i64 (q - 1)) ∧ w' = w)) (hq : ¬ q = 2) (hq2 : ¬ q - 1 = 1) : Calls Try.prog 17 #[vd 5 r, .int .i64 n, .int .i64 s0, .int .i64 6, .int .i64 s2, .int .i64 1, .int .i64 0, .int .i64 mo, .int .i64 mp, .int .u32 fo, .int .u32 fp] w fun e w' => e = .returned (setV (if gl true true 1 0 6 q = 0 then (5, r, 0) else (rk (gl true true 1 0 6 q == 2) false, gr true true 1 0, 0))) ∧ Below w.heap.size w w' := by
  have H3 := hide rmirror_any
  rw [show (if gl _ _ _ _ _ _ = 0 then _ else _ : Int × Int × Int) = (5, r, 0) by simp [gl, gr, rk, hq]]
  unfold mirK setV vd at *
  dsimp only at *
  go_enter Try.func17, Try.ntmps17
  go_wp2_with (first
    | (go_at_call 34; refine (H1.out _).mono ?_; rintro e w2 ⟨rfl, X, rfl⟩)
    | (go_at_call 35; refine (H2.out _).mono ?_; rintro e w2 ⟨rfl, rfl⟩)
    | (go_at_call 13; refine (H3.out _ _ _).mono ?_; rintro e w2 ⟨rfl, Y, Z, U, rfl⟩))
  all_goals
    exact bodyPost_ret (results_row_tmp rfl _ _ (w.heap.size + 1) 26 _ (0, 0) _ rfl (heap_snd3 _ _ _ _) Try.underlying26 rfl (by kernel_rfl)) rfl ⟨by first | rfl | simp, bl3 (Below.refl w.heap.size w) _ _ _⟩
theorem rres_1110s6n_6 (w : World) (r n s0 s2 mo mp fo fp q : Int) (hd : (bits BinOp.and IntKind.u32 fo 16 != 0) = true) (he : (bits BinOp.and IntKind.u32 fp 16 != 0) = true) (H1 : Hid (∀ w, Calls Try.prog 34 #[vd 6 r, .int .i64 n, .int .i64 s0, .int .i64 6, .int .i64 s2, .int .i64 1, .int .i64 0, .int .i64 mo, .int .i64 mp] w fun e w' => e = .returned (.int .i64 0) ∧ ∃ X, w' = w.alloc X)) (H2 : Hid (∀ w, Calls Try.prog 35 #[.int .i64 s0, .int .i64 n, .int .i64 mo, .int .i64 mp] w fun e w' => e = .returned (.int .i64 (q - 1)) ∧ w' = w)) (hq : ¬ q = 2) (hq2 : ¬ q - 1 = 1) : Calls Try.prog 17 #[vd 6 r, .int .i64 n, .int .i64 s0, .int .i64 6, .int .i64 s2, .int .i64 1, .int .i64 0, .int .i64 mo, .int .i64 mp, .int .u32 fo, .int .u32 fp] w fun e w' => e = .returned (setV (if gl true true 1 0 6 q = 0 then (6, r, 0) else (rk (gl true true 1 0 6 q == 2) true, gr true true 1 0, 0))) ∧ Below w.heap.size w w' := by
  have H3 := hide rmirror_any
  rw [show (if gl _ _ _ _ _ _ = 0 then _ else _ : Int × Int × Int) = (6, r, 0) by simp [gl, gr, rk, hq]]
  unfold mirK setV vd at *
  dsimp only at *
  go_enter Try.func17, Try.ntmps17
  go_wp2_with (first
    | (go_at_call 34; refine (H1.out _).mono ?_; rintro e w2 ⟨rfl, X, rfl⟩)
    | (go_at_call 35; refine (H2.out _).mono ?_; rintro e w2 ⟨rfl, rfl⟩)
    | (go_at_call 13; refine (H3.out _ _ _).mono ?_; rintro e w2 ⟨rfl, Y, Z, U, rfl⟩))
  all_goals
    exact bodyPost_ret (results_row_tmp rfl _ _ (w.heap.size + 1) 26 _ (0, 0) _ rfl (heap_snd3 _ _ _ _) Try.underlying26 rfl (by kernel_rfl)) rfl ⟨by first | rfl | simp, bl3 (Below.refl w.heap.size w) _ _ _⟩
theorem rres_1111_5 (w : World) (r n s0 s1 s2 mo mp fo fp q : Int) (hd : (bits BinOp.and IntKind.u32 fo 16 != 0) = true) (he : (bits BinOp.and IntKind.u32 fp 16 != 0) = true) (H1 : Hid (∀ w, Calls Try.prog 34 #[vd 5 r, .int .i64 n, .int .i64 s0, .int .i64 s1, .int .i64 s2, .int .i64 1, .int .i64 1, .int .i64 mo, .int .i64 mp] w fun e w' => e = .returned (.int .i64 0) ∧ ∃ X, w' = w.alloc X)) (H2 : Hid (∀ w, Calls Try.prog 35 #[.int .i64 s0, .int .i64 n, .int .i64 mo, .int .i64 mp] w fun e w' => e = .returned (.int .i64 (q - 1)) ∧ w' = w)) : Calls Try.prog 17 #[vd 5 r, .int .i64 n, .int .i64 s0, .int .i64 s1, .int .i64 s2, .int .i64 1, .int .i64 1, .int .i64 mo, .int .i64 mp, .int .u32 fo, .int .u32 fp] w fun e w' => e = .returned (setV (if gl true true 1 1 s1 q = 0 then (5, r, 0) else (rk (gl true true 1 1 s1 q == 2) false, gr true true 1 1, 0))) ∧ Below w.heap.size w w' := by
  have H3 := hide rmirror_any
  rw [show (if gl _ _ _ _ _ _ = 0 then _ else _ : Int × Int × Int) = (5, r, 0) by simp [gl, gr, rk]]
  unfold mirK setV vd at *
  dsimp only at *
  go_enter Try.func17, Try.ntmps17
  go_wp2_with (first
    | (go_at_call 34; refine (H1.out _).mono ?_; rintro e w2 ⟨rfl, X, rfl⟩)
    | (go_at_call 35; refine (H2.out _).mono ?_; rintro e w2 ⟨rfl, rfl⟩)
    | (go_at_call 13; refine (H3.out _ _ _).mono ?_; rintro e w2 ⟨rfl, Y, Z, U, rfl⟩))
  all_goals
    exact bodyPost_ret (results_row_tmp rfl _ _ (w.heap.size + 1) 26 _ (0, 0) _ rfl (heap_snd3 _ _ _ _) Try.underlying26 rfl (by kernel_rfl)) rfl ⟨by first | rfl | simp, bl3 (Below.refl w.heap.size w) _ _ _⟩
theorem rres_1111_6 (w : World) (r n s0 s1 s2 mo mp fo fp q : Int) (hd : (bits BinOp.and IntKind.u32 fo 16 != 0) = true) (he : (bits BinOp.and IntKind.u32 fp 16 != 0) = true) (H1 : Hid (∀ w, Calls Try.prog 34 #[vd 6 r, .int .i64 n, .int .i64 s0, .int .i64 s1, .int .i64 s2, .int .i64 1, .int .i64 1, .int .i64 mo, .int .i64 mp] w fun e w' => e = .returned (.int .i64 0) ∧ ∃ X, w' = w.alloc X)) (H2 : Hid (∀ w, Calls Try.prog 35 #[.int .i64 s0, .int .i64 n, .int .i64 mo, .int .i64 mp] w fun e w' => e = .returned (.int .i64 (q - 1)) ∧ w' = w)) : Calls Try.prog 17 #[vd 6 r, .int .i64 n, .int .i64 s0, .int .i64 s1, .int .i64 s2, .int .i64 1, .int .i64 1, .int .i64 mo, .int .i64 mp, .int .u32 fo, .int .u32 fp] w fun e w' => e = .returned (setV (if gl true true 1 1 s1 q = 0 then (6, r, 0) else (rk (gl true true 1 1 s1 q == 2) true, gr true true 1 1, 0))) ∧ Below w.heap.size w w' := by
  have H3 := hide rmirror_any
  rw [show (if gl _ _ _ _ _ _ = 0 then _ else _ : Int × Int × Int) = (6, r, 0) by simp [gl, gr, rk]]
  unfold mirK setV vd at *
  dsimp only at *
  go_enter Try.func17, Try.ntmps17
  go_wp2_with (first
    | (go_at_call 34; refine (H1.out _).mono ?_; rintro e w2 ⟨rfl, X, rfl⟩)
    | (go_at_call 35; refine (H2.out _).mono ?_; rintro e w2 ⟨rfl, rfl⟩)
    | (go_at_call 13; refine (H3.out _ _ _).mono ?_; rintro e w2 ⟨rfl, Y, Z, U, rfl⟩))
  all_goals
    exact bodyPost_ret (results_row_tmp rfl _ _ (w.heap.size + 1) 26 _ (0, 0) _ rfl (heap_snd3 _ _ _ _) Try.underlying26 rfl (by kernel_rfl)) rfl ⟨by first | rfl | simp, bl3 (Below.refl w.heap.size w) _ _ _⟩
end Go.Proofs.Ytlmfdbimchhjjaa
