import Derived.Test.YtlmfdbimchhjjaaIdRes
namespace Go.Proofs.Ytlmfdbimchhjjaa
open Go.RowKit
set_option linter.unusedVariables false
set_option linter.unusedSimpArgs false
set_option maxRecDepth 20000

def okP (s0 s1 s2 : Int) : Bool := decide (0 ≤ s0 ∧ s0 ≤ 4 ∧ (s1 = 0 ∨ s1 = 5 ∨ s1 = 6) ∧ s2 = 0)
def okR (r : Int) : Bool := decide (r = 0 ∨ r = 1)
def fd (f : Int) : Bool := bits BinOp.and IntKind.u32 f 16 != 0
theorem validRole_any (w : World) (k : Int) : Calls Try.prog 44 #[.int .i64 k] w fun e w' => e = .returned (.bool (okR k)) ∧ w' = w := by
  by_cases h : k = 0
  · subst h
    go_enter Try.func44, Try.ntmps44
    go_wp2_with fail
    go_ret
    exact ⟨rfl, rfl⟩
  · rw [show okR k = (k == 1) by simp [okR, h]; rfl]
    go_enter Try.func44, Try.ntmps44
    go_wp2_with fail
    go_ret
    exact ⟨by first | rfl | simp [h], rfl⟩
theorem validPolicies_any (w : World) (s0 s1 s2 : Int) : Calls Try.prog 43 #[.int .i64 s0, .int .i64 s1, .int .i64 s2] w fun e w' => e = .returned (.bool (okP s0 s1 s2)) ∧ w' = w := by
  by_cases h1 : 0 ≤ s0
  case neg =>
    rw [show okP s0 s1 s2 = false by simp [okP, h1]]
    go_enter Try.func43, Try.ntmps43
    go_wp2_with fail
    go_ret
    exact ⟨rfl, rfl⟩
  by_cases h2 : s0 ≤ 4
  case neg =>
    rw [show okP s0 s1 s2 = false by simp [okP, h2]]
    go_enter Try.func43, Try.ntmps43
    go_wp2_with fail
    go_ret
    exact ⟨rfl, rfl⟩
  by_cases h3 : s1 = 0
  · rw [show okP s0 s1 s2 = (s2 == 0) by simp [okP, h1, h2, h3]; rfl]
    subst h3
    go_enter Try.func43, Try.ntmps43
    go_wp2_with fail
    go_ret
    exact ⟨by first | rfl | simp, rfl⟩
  by_cases h4 : s1 = 5
  · rw [show okP s0 s1 s2 = (s2 == 0) by simp [okP, h1, h2, h4]; rfl]
    subst h4
    go_enter Try.func43, Try.ntmps43
    go_wp2_with fail
    go_ret
    exact ⟨by first | rfl | simp, rfl⟩
  by_cases h5 : s1 = 6
  · rw [show okP s0 s1 s2 = (s2 == 0) by simp [okP, h1, h2, h5]; rfl]
    subst h5
    go_enter Try.func43, Try.ntmps43
    go_wp2_with fail
    go_ret
    exact ⟨by first | rfl | simp, rfl⟩
  · rw [show okP s0 s1 s2 = false by simp [okP, h3, h4, h5]]
    go_enter Try.func43, Try.ntmps43
    go_wp2_with fail
    go_ret
    exact ⟨by first | rfl | simp, rfl⟩
theorem newParty_any (w : World) (r m f : Int) : Calls Try.prog 45 #[.int .i64 r, .int .i64 m, .int .u32 f] w fun e w' => e = .returned (.agg #[.int .i64 r, .int .i64 m, .bool (fd f)]) ∧ ∃ X, w' = w.alloc X := by
  unfold fd
  go_enter Try.func45, Try.ntmps45
  go_wp2_with fail
  exact bodyPost_ret (results_cell_row rfl _ _ w.heap.size 58 _ (0, 0) _ rfl (Go.heap_alloc_new _ _) Try.underlying58 rfl (by kernel_rfl)) rfl ⟨rfl, _, rfl⟩
theorem set2 {w : World} {g : Nat} {x0 x1 : Value} {t : TypeId} (h : w.heap[g]? = some (.cells #[x0, x1] t (0, 0))) (a b : Value) : ((w.setCell ⟨g, 0, none⟩ a).setCell ⟨g, 1, none⟩ b).heap[g]? = some (.cells #[a, b] t (0, 0)) := by
  have h1 := Go.heap_setCell_same w g 0 _ t a h
  have h2 := Go.heap_setCell_same _ g 1 _ t b h1
  exact h2
def spOf (n s0 s1 ro rp mo mp : Int) (d e : Bool) : Sp := ⟨ro, mo, d, rp, mp, e, n, s0, s1⟩
/-- what Resolve says: the kind, the rule, the error -/
def resv (k r n s0 s1 s2 ro rp mo mp : Int) (d e : Bool) : Int × Int × Int :=
  if okK k = false ∨ ¬ (n = 0 ∨ n = 1) ∨ mo < 0 ∨ mp < 0 then (0, 0, 1)
  else if okP s0 s1 s2 = false ∨ okR ro = false ∨ okR rp = false then (0, 0, 61)
  else if isSp k = false then (k, r, 0)
  else if (spOf n s0 s1 ro rp mo mp d e).gupL = 0 then (k, r, 0)
  else (rk ((spOf n s0 s1 ro rp mo mp d e).gupL == 2) (isFu k), (spOf n s0 s1 ro rp mo mp d e).gupR, 0)
theorem resolve_A1 (w : World) (k r n s0 s1 s2 ro rp mo mp fo fp : Int) (h1 : okK k = false) : Calls Try.prog 33 #[vd k r, .int .i64 n, .int .i64 s0, .int .i64 s1, .int .i64 s2, .int .i64 ro, .int .i64 rp, .int .i64 mo, .int .i64 mp, .int .u32 fo, .int .u32 fp] w fun e w' => e = .returned (setV (resv k r n s0 s1 s2 ro rp mo mp (fd fo) (fd fp))) ∧ Below w.heap.size w w' := by
  have H1 := hide fun w => validKind_any w k
  have H2 := hide fun w => validPolicies_any w s0 s1 s2
  have H3 := hide fun w => validRole_any w ro
  have H4 := hide fun w => validRole_any w rp
  have H5 := hide fun w => isSplit_any w k
  rw [show resv k r n s0 s1 s2 ro rp mo mp (fd fo) (fd fp) = (0, 0, 1) by simp [resv, h1]]
  rw [h1] at H1
  clear h1
  unfold setV vd
  dsimp only
  go_enter Try.func33, Try.ntmps33
  go_wp2_with (first
    | (go_at_call 29; refine (H1.out _).mono ?_; rintro e w2 ⟨rfl, rfl⟩)
    | (go_at_call 43; refine (H2.out _).mono ?_; rintro e w2 ⟨rfl, rfl⟩)
    | (go_at_call 44; (with_reducible refine (H3.out _).mono ?_); rintro e w2 ⟨rfl, rfl⟩)
    | (go_at_call 44; (with_reducible refine (H4.out _).mono ?_); rintro e w2 ⟨rfl, rfl⟩)
    | (go_at_call 40; refine (H5.out _).mono ?_; rintro e w2 ⟨rfl, rfl⟩))
  all_goals
    exact bodyPost_ret (results_row_tmp rfl _ _ (w.heap.size + 1) 26 _ (0, 0) _ rfl (heap_snd _ _ _) Try.underlying26 rfl (by kernel_rfl)) rfl ⟨by first | rfl | simp, bl2 (Below.refl w.heap.size w) _ _⟩
theorem resolve_A2 (w : World) (k r n s0 s1 s2 ro rp mo mp fo fp : Int) (h1 : okK k = true) (h2 : ¬ n = 0) (h3 : ¬ n = 1) : Calls Try.prog 33 #[vd k r, .int .i64 n, .int .i64 s0, .int .i64 s1, .int .i64 s2, .int .i64 ro, .int .i64 rp, .int .i64 mo, .int .i64 mp, .int .u32 fo, .int .u32 fp] w fun e w' => e = .returned (setV (resv k r n s0 s1 s2 ro rp mo mp (fd fo) (fd fp))) ∧ Below w.heap.size w w' := by
  have H1 := hide fun w => validKind_any w k
  have H2 := hide fun w => validPolicies_any w s0 s1 s2
  have H3 := hide fun w => validRole_any w ro
  have H4 := hide fun w => validRole_any w rp
  have H5 := hide fun w => isSplit_any w k
  rw [show resv k r n s0 s1 s2 ro rp mo mp (fd fo) (fd fp) = (0, 0, 1) by simp [resv, h2, h3]]
  rw [h1] at H1
  clear h1
  unfold setV vd
  dsimp only
  go_enter Try.func33, Try.ntmps33
  go_wp2_with (first
    | (go_at_call 29; refine (H1.out _).mono ?_; rintro e w2 ⟨rfl, rfl⟩)
    | (go_at_call 43; refine (H2.out _).mono ?_; rintro e w2 ⟨rfl, rfl⟩)
    | (go_at_call 44; (with_reducible refine (H3.out _).mono ?_); rintro e w2 ⟨rfl, rfl⟩)
    | (go_at_call 44; (with_reducible refine (H4.out _).mono ?_); rintro e w2 ⟨rfl, rfl⟩)
    | (go_at_call 40; refine (H5.out _).mono ?_; rintro e w2 ⟨rfl, rfl⟩))
  all_goals
    exact bodyPost_ret (results_row_tmp rfl _ _ (w.heap.size + 1) 26 _ (0, 0) _ rfl (heap_snd _ _ _) Try.underlying26 rfl (by kernel_rfl)) rfl ⟨by first | rfl | simp, bl2 (Below.refl w.heap.size w) _ _⟩
theorem resolve_A3 (w : World) (k r n s0 s1 s2 ro rp mo mp fo fp : Int)  (h1 : okK k = true) (h2 : n = 0 ∨ n = 1) (h3 : mo < 0) : Calls Try.prog 33 #[vd k r, .int .i64 n, .int .i64 s0, .int .i64 s1, .int .i64 s2, .int .i64 ro, .int .i64 rp, .int .i64 mo, .int .i64 mp, .int .u32 fo, .int .u32 fp] w fun e w' => e = .returned (setV (resv k r n s0 s1 s2 ro rp mo mp (fd fo) (fd fp))) ∧ Below w.heap.size w w' := by
  have H1 := hide fun w => validKind_any w k
  have H2 := hide fun w => validPolicies_any w s0 s1 s2
  have H3 := hide fun w => validRole_any w ro
  have H4 := hide fun w => validRole_any w rp
  have H5 := hide fun w => isSplit_any w k
  rw [show resv k r n s0 s1 s2 ro rp mo mp (fd fo) (fd fp) = (0, 0, 1) by simp [resv, h3]]
  rw [h1] at H1
  clear h1
  unfold setV vd
  dsimp only
  rcases h2 with rfl | rfl
  all_goals
    go_enter Try.func33, Try.ntmps33
    go_wp2_with (first
      | (go_at_call 29; refine (H1.out _).mono ?_; rintro e w2 ⟨rfl, rfl⟩)
      | (go_at_call 43; refine (H2.out _).mono ?_; rintro e w2 ⟨rfl, rfl⟩)
      | (go_at_call 44; (with_reducible refine (H3.out _).mono ?_); rintro e w2 ⟨rfl, rfl⟩)
      | (go_at_call 44; (with_reducible refine (H4.out _).mono ?_); rintro e w2 ⟨rfl, rfl⟩)
      | (go_at_call 40; refine (H5.out _).mono ?_; rintro e w2 ⟨rfl, rfl⟩))
    all_goals
      exact bodyPost_ret (results_row_tmp rfl _ _ (w.heap.size + 1) 26 _ (0, 0) _ rfl (heap_snd _ _ _) Try.underlying26 rfl (by kernel_rfl)) rfl ⟨by first | rfl | simp, bl2 (Below.refl w.heap.size w) _ _⟩
theorem resolve_A4 (w : World) (k r n s0 s1 s2 ro rp mo mp fo fp : Int)  (h1 : okK k = true) (h2 : n = 0 ∨ n = 1) (h3 : ¬ mo < 0) (h4 : mp < 0) : Calls Try.prog 33 #[vd k r, .int .i64 n, .int .i64 s0, .int .i64 s1, .int .i64 s2, .int .i64 ro, .int .i64 rp, .int .i64 mo, .int .i64 mp, .int .u32 fo, .int .u32 fp] w fun e w' => e = .returned (setV (resv k r n s0 s1 s2 ro rp mo mp (fd fo) (fd fp))) ∧ Below w.heap.size w w' := by
  have H1 := hide fun w => validKind_any w k
  have H2 := hide fun w => validPolicies_any w s0 s1 s2
  have H3 := hide fun w => validRole_any w ro
  have H4 := hide fun w => validRole_any w rp
  have H5 := hide fun w => isSplit_any w k
  rw [show resv k r n s0 s1 s2 ro rp mo mp (fd fo) (fd fp) = (0, 0, 1) by simp [resv, h4]]
  rw [h1] at H1
  clear h1
  unfold setV vd
  dsimp only
  rcases h2 with rfl | rfl
  all_goals
    go_enter Try.func33, Try.ntmps33
    go_wp2_with (first
      | (go_at_call 29; refine (H1.out _).mono ?_; rintro e w2 ⟨rfl, rfl⟩)
      | (go_at_call 43; refine (H2.out _).mono ?_; rintro e w2 ⟨rfl, rfl⟩)
      | (go_at_call 44; (with_reducible refine (H3.out _).mono ?_); rintro e w2 ⟨rfl, rfl⟩)
      | (go_at_call 44; (with_reducible refine (H4.out _).mono ?_); rintro e w2 ⟨rfl, rfl⟩)
      | (go_at_call 40; refine (H5.out _).mono ?_; rintro e w2 ⟨rfl, rfl⟩))
    all_goals
      exact bodyPost_ret (results_row_tmp rfl _ _ (w.heap.size + 1) 26 _ (0, 0) _ rfl (heap_snd _ _ _) Try.underlying26 rfl (by kernel_rfl)) rfl ⟨by first | rfl | simp, bl2 (Below.refl w.heap.size w) _ _⟩
theorem resolve_B1 (w : World) (k r n s0 s1 s2 ro rp mo mp fo fp : Int)  (h1 : okK k = true) (h2 : n = 0 ∨ n = 1) (h3 : ¬ mo < 0) (h4 : ¬ mp < 0) (h5 : okP s0 s1 s2 = false) : Calls Try.prog 33 #[vd k r, .int .i64 n, .int .i64 s0, .int .i64 s1, .int .i64 s2, .int .i64 ro, .int .i64 rp, .int .i64 mo, .int .i64 mp, .int .u32 fo, .int .u32 fp] w fun e w' => e = .returned (setV (resv k r n s0 s1 s2 ro rp mo mp (fd fo) (fd fp))) ∧ Below w.heap.size w w' := by
  have H1 := hide fun w => validKind_any w k
  have H2 := hide fun w => validPolicies_any w s0 s1 s2
  have H3 := hide fun w => validRole_any w ro
  have H4 := hide fun w => validRole_any w rp
  have H5 := hide fun w => isSplit_any w k
  rw [show resv k r n s0 s1 s2 ro rp mo mp (fd fo) (fd fp) = (0, 0, 61) by unfold resv; rw [if_neg (by simp [h1, h2]; omega), if_pos (Or.inl h5)]]
  rw [h1] at H1
  rw [h5] at H2
  clear h1 h5
  unfold setV vd
  dsimp only
  rcases h2 with rfl | rfl
  all_goals
    go_enter Try.func33, Try.ntmps33
    go_wp2_with (first
      | (go_at_call 29; refine (H1.out _).mono ?_; rintro e w2 ⟨rfl, rfl⟩)
      | (go_at_call 43; refine (H2.out _).mono ?_; rintro e w2 ⟨rfl, rfl⟩)
      | (go_at_call 44; (with_reducible refine (H3.out _).mono ?_); rintro e w2 ⟨rfl, rfl⟩)
      | (go_at_call 44; (with_reducible refine (H4.out _).mono ?_); rintro e w2 ⟨rfl, rfl⟩)
      | (go_at_call 40; refine (H5.out _).mono ?_; rintro e w2 ⟨rfl, rfl⟩))
    all_goals
      exact bodyPost_ret (results_row_tmp rfl _ _ (w.heap.size + 1) 26 _ (0, 0) _ rfl (heap_snd _ _ _) Try.underlying26 rfl (by kernel_rfl)) rfl ⟨by first | rfl | simp, bl2 (Below.refl w.heap.size w) _ _⟩
theorem resolve_B2 (w : World) (k r n s0 s1 s2 ro rp mo mp fo fp : Int)  (h1 : okK k = true) (h2 : n = 0 ∨ n = 1) (h3 : ¬ mo < 0) (h4 : ¬ mp < 0) (h5 : okP s0 s1 s2 = true) (h6 : okR ro = false) : Calls Try.prog 33 #[vd k r, .int .i64 n, .int .i64 s0, .int .i64 s1, .int .i64 s2, .int .i64 ro, .int .i64 rp, .int .i64 mo, .int .i64 mp, .int .u32 fo, .int .u32 fp] w fun e w' => e = .returned (setV (resv k r n s0 s1 s2 ro rp mo mp (fd fo) (fd fp))) ∧ Below w.heap.size w w' := by
  have H1 := hide fun w => validKind_any w k
  have H2 := hide fun w => validPolicies_any w s0 s1 s2
  have H3 := hide fun w => validRole_any w ro
  have H4 := hide fun w => validRole_any w rp
  have H5 := hide fun w => isSplit_any w k
  rw [show resv k r n s0 s1 s2 ro rp mo mp (fd fo) (fd fp) = (0, 0, 61) by unfold resv; rw [if_neg (by simp [h1, h2]; omega), if_pos (Or.inr (Or.inl h6))]]
  rw [h1] at H1
  rw [h5] at H2
  rw [h6] at H3
  clear h1 h5 h6
  unfold setV vd
  dsimp only
  rcases h2 with rfl | rfl
  all_goals
    go_enter Try.func33, Try.ntmps33
    go_wp2_with (first
      | (go_at_call 29; refine (H1.out _).mono ?_; rintro e w2 ⟨rfl, rfl⟩)
      | (go_at_call 43; refine (H2.out _).mono ?_; rintro e w2 ⟨rfl, rfl⟩)
      | (go_at_call 44; (with_reducible refine (H3.out _).mono ?_); rintro e w2 ⟨rfl, rfl⟩)
      | (go_at_call 44; (with_reducible refine (H4.out _).mono ?_); rintro e w2 ⟨rfl, rfl⟩)
      | (go_at_call 40; refine (H5.out _).mono ?_; rintro e w2 ⟨rfl, rfl⟩))
    all_goals
      exact bodyPost_ret (results_row_tmp rfl _ _ (w.heap.size + 1) 26 _ (0, 0) _ rfl (heap_snd _ _ _) Try.underlying26 rfl (by kernel_rfl)) rfl ⟨by first | rfl | simp, bl2 (Below.refl w.heap.size w) _ _⟩
theorem resolve_B3 (w : World) (k r n s0 s1 s2 ro rp mo mp fo fp : Int)  (h1 : okK k = true) (h2 : n = 0 ∨ n = 1) (h3 : ¬ mo < 0) (h4 : ¬ mp < 0) (h5 : okP s0 s1 s2 = true) (h6 : okR ro = true) (h7 : okR rp = false) : Calls Try.prog 33 #[vd k r, .int .i64 n, .int .i64 s0, .int .i64 s1, .int .i64 s2, .int .i64 ro, .int .i64 rp, .int .i64 mo, .int .i64 mp, .int .u32 fo, .int .u32 fp] w fun e w' => e = .returned (setV (resv k r n s0 s1 s2 ro rp mo mp (fd fo) (fd fp))) ∧ Below w.heap.size w w' := by
  have H1 := hide fun w => validKind_any w k
  have H2 := hide fun w => validPolicies_any w s0 s1 s2
  have H3 := hide fun w => validRole_any w ro
  have H4 := hide fun w => validRole_any w rp
  have H5 := hide fun w => isSplit_any w k
  rw [show resv k r n s0 s1 s2 ro rp mo mp (fd fo) (fd fp) = (0, 0, 61) by unfold resv; rw [if_neg (by simp [h1, h2]; omega), if_pos (Or.inr (Or.inr h7))]]
  rw [h1] at H1
  rw [h5] at H2
  rw [h6] at H3
  rw [h7] at H4
  clear h1 h5 h6 h7
  unfold setV vd
  dsimp only
  rcases h2 with rfl | rfl
  all_goals
    go_enter Try.func33, Try.ntmps33
    go_wp2_with (first
      | (go_at_call 29; refine (H1.out _).mono ?_; rintro e w2 ⟨rfl, rfl⟩)
      | (go_at_call 43; refine (H2.out _).mono ?_; rintro e w2 ⟨rfl, rfl⟩)
      | (go_at_call 44; (with_reducible refine (H3.out _).mono ?_); rintro e w2 ⟨rfl, rfl⟩)
      | (go_at_call 44; (with_reducible refine (H4.out _).mono ?_); rintro e w2 ⟨rfl, rfl⟩)
      | (go_at_call 40; refine (H5.out _).mono ?_; rintro e w2 ⟨rfl, rfl⟩))
    all_goals
      exact bodyPost_ret (results_row_tmp rfl _ _ (w.heap.size + 1) 26 _ (0, 0) _ rfl (heap_snd _ _ _) Try.underlying26 rfl (by kernel_rfl)) rfl ⟨by first | rfl | simp, bl2 (Below.refl w.heap.size w) _ _⟩
theorem resolve_C (w : World) (k r n s0 s1 s2 ro rp mo mp fo fp : Int)  (h1 : okK k = true) (h2 : n = 0 ∨ n = 1) (h3 : ¬ mo < 0) (h4 : ¬ mp < 0) (h5 : okP s0 s1 s2 = true) (h6 : okR ro = true) (h7 : okR rp = true) (h8 : isSp k = false) : Calls Try.prog 33 #[vd k r, .int .i64 n, .int .i64 s0, .int .i64 s1, .int .i64 s2, .int .i64 ro, .int .i64 rp, .int .i64 mo, .int .i64 mp, .int .u32 fo, .int .u32 fp] w fun e w' => e = .returned (setV (resv k r n s0 s1 s2 ro rp mo mp (fd fo) (fd fp))) ∧ Below w.heap.size w w' := by
  have H1 := hide fun w => validKind_any w k
  have H2 := hide fun w => validPolicies_any w s0 s1 s2
  have H3 := hide fun w => validRole_any w ro
  have H4 := hide fun w => validRole_any w rp
  have H5 := hide fun w => isSplit_any w k
  rw [show resv k r n s0 s1 s2 ro rp mo mp (fd fo) (fd fp) = (k, r, 0) by unfold resv; rw [if_neg (by simp [h1, h2]; omega), if_neg (by simp [h5, h6, h7]), if_pos h8]]
  rw [h1] at H1
  rw [h5] at H2
  rw [h6] at H3
  rw [h7] at H4
  rw [h8] at H5
  clear h1 h5 h6 h7 h8
  unfold setV vd
  dsimp only
  rcases h2 with rfl | rfl
  all_goals
    go_enter Try.func33, Try.ntmps33
    go_wp2_with (first
      | (go_at_call 29; refine (H1.out _).mono ?_; rintro e w2 ⟨rfl, rfl⟩)
      | (go_at_call 43; refine (H2.out _).mono ?_; rintro e w2 ⟨rfl, rfl⟩)
      | (go_at_call 44; (with_reducible refine (H3.out _).mono ?_); rintro e w2 ⟨rfl, rfl⟩)
      | (go_at_call 44; (with_reducible refine (H4.out _).mono ?_); rintro e w2 ⟨rfl, rfl⟩)
      | (go_at_call 40; refine (H5.out _).mono ?_; rintro e w2 ⟨rfl, rfl⟩))
    all_goals
      exact bodyPost_ret (results_row_tmp rfl _ _ (w.heap.size + 1) 26 _ (0, 0) _ rfl (heap_snd _ _ _) Try.underlying26 rfl (by kernel_rfl)) rfl ⟨by first | rfl | simp, bl2 (Below.refl w.heap.size w) _ _⟩
set_option maxHeartbeats 1000000 in
theorem resolve_D (w : World) (k r n s0 s1 s2 ro rp mo mp fo fp : Int)  (h1 : okK k = true) (h2 : n = 0 ∨ n = 1) (h3 : ¬ mo < 0) (h4 : ¬ mp < 0) (h5 : okP s0 s1 s2 = true) (h6 : okR ro = true) (h7 : okR rp = true) (h8 : isSp k = true) (hL : (spOf n s0 s1 ro rp mo mp (fd fo) (fd fp)).gupL = 0) : Calls Try.prog 33 #[vd k r, .int .i64 n, .int .i64 s0, .int .i64 s1, .int .i64 s2, .int .i64 ro, .int .i64 rp, .int .i64 mo, .int .i64 mp, .int .u32 fo, .int .u32 fp] w fun e w' => e = .returned (setV (resv k r n s0 s1 s2 ro rp mo mp (fd fo) (fd fp))) ∧ Below w.heap.size w w' := by
  have H1 := hide fun w => validKind_any w k
  have H2 := hide fun w => validPolicies_any w s0 s1 s2
  have H3 := hide fun w => validRole_any w ro
  have H4 := hide fun w => validRole_any w rp
  have H5 := hide fun w => isSplit_any w k
  have H6 := hide fun w => newParty_any w ro mo fo
  have H7 := hide fun w => newParty_any w rp mp fp
  have H8 : Hid (∀ w, Calls Try.prog 46 #[.agg #[.int .i64 ro, .int .i64 mo, .bool (fd fo), .int .i64 rp, .int .i64 mp, .bool (fd fp), .int .i64 n, .int .i64 s0, .int .i64 s1]] w fun e w' => e = .returned (.tuple #[.int .i64 (spOf n s0 s1 ro rp mo mp (fd fo) (fd fp)).gupL, .int .i64 (spOf n s0 s1 ro rp mo mp (fd fo) (fd fp)).gupR]) ∧ Below w.heap.size w w') := hide fun w => gup_any w (spOf n s0 s1 ro rp mo mp (fd fo) (fd fp))
  have H9 := hide fun w => isFull_any w k
  rw [show resv k r n s0 s1 s2 ro rp mo mp (fd fo) (fd fp) = (k, r, 0) by unfold resv; rw [if_neg (by simp [h1, h2]; omega), if_neg (by simp [h5, h6, h7]), if_neg (by simp [h8]), if_pos hL]]
  rw [h1] at H1
  rw [h5] at H2
  rw [h6] at H3
  rw [h7] at H4
  rw [h8] at H5
  rcases h2 with rfl | rfl
  all_goals
    generalize spOf _ s0 s1 ro rp mo mp (fd fo) (fd fp) = S at *
    generalize fd fo = d at *
    generalize fd fp = e at *
    rw [hL] at H8
    clear hL
    generalize Sp.gupR _ = R at *
    have H10 : True := trivial
    clear h1 h5 h6 h7 h8
    unfold setV vd at *
    dsimp only at *
    go_enter Try.func33, Try.ntmps33
    go_wp2_with (first
      | (go_at_call 29; refine (H1.out _).mono ?_; rintro e w2 ⟨rfl, rfl⟩)
      | (go_at_call 43; refine (H2.out _).mono ?_; rintro e w2 ⟨rfl, rfl⟩)
      | (go_at_call 44; (with_reducible refine (H3.out _).mono ?_); rintro e w2 ⟨rfl, rfl⟩)
      | (go_at_call 44; (with_reducible refine (H4.out _).mono ?_); rintro e w2 ⟨rfl, rfl⟩)
      | (go_at_call 40; refine (H5.out _).mono ?_; rintro e w2 ⟨rfl, rfl⟩)
      | (go_at_call 45; (with_reducible refine (H6.out _).mono ?_); rintro e w2 ⟨rfl, X, rfl⟩)
      | (go_at_call 45; (with_reducible refine (H7.out _).mono ?_); rintro e w2 ⟨rfl, Y, rfl⟩)
      | (go_at_call 46; refine (H8.out _).mono ?_; rintro e w2 ⟨rfl, hb⟩; have HPv := hide (hp_below (hp_alloc (hp_alloc2 (hp_alloc (hp_new w _) _) _ _) _) hb); have HPr := hide (hp_below (hp_alloc (hp_alloc2 (heap_snd w _ _) _ _) _) hb); have HBW := hide (bel_to (bl1 (bl4 (Below.refl w.heap.size w) _ _ _ _) _) hb); obtain ⟨c0, c1, c2⟩ := hp_cells2 HPv.out; obtain ⟨d0, d1, d2⟩ := hp_cells2 HPr.out; have f0 := frozen_of_row _ _ 0 _ _ HPr.out; have f1 := frozen_of_row _ _ 1 _ _ HPr.out; clear hb)
      | (go_at_call 42; refine (H9.out _).mono ?_; rintro e w2 ⟨rfl, rfl⟩)
      | (go_at_call 41; refine (H10.out _).mono ?_; rintro e w2 ⟨rfl, rfl⟩))
    all_goals
      exact bodyPost_ret (results_row_tmp rfl _ _ (w.heap.size + 1) 26 _ (0, 0) _ rfl (set2 HPr.out _ _) Try.underlying26 rfl (by kernel_rfl)) rfl ⟨by first | rfl | simp, ((HBW.out.setCell (p := ⟨w.heap.size + 1, 0, none⟩) (Nat.le_succ _) _).setCell (p := ⟨w.heap.size + 1, 1, none⟩) (Nat.le_succ _) _)⟩
set_option maxHeartbeats 1000000 in
theorem resolve_E (w : World) (k r n s0 s1 s2 ro rp mo mp fo fp : Int)  (h1 : okK k = true) (h2 : n = 0 ∨ n = 1) (h3 : ¬ mo < 0) (h4 : ¬ mp < 0) (h5 : okP s0 s1 s2 = true) (h6 : okR ro = true) (h7 : okR rp = true) (h8 : isSp k = true) (hL : ¬ (spOf n s0 s1 ro rp mo mp (fd fo) (fd fp)).gupL = 0) : Calls Try.prog 33 #[vd k r, .int .i64 n, .int .i64 s0, .int .i64 s1, .int .i64 s2, .int .i64 ro, .int .i64 rp, .int .i64 mo, .int .i64 mp, .int .u32 fo, .int .u32 fp] w fun e w' => e = .returned (setV (resv k r n s0 s1 s2 ro rp mo mp (fd fo) (fd fp))) ∧ Below w.heap.size w w' := by
  have H1 := hide fun w => validKind_any w k
  have H2 := hide fun w => validPolicies_any w s0 s1 s2
  have H3 := hide fun w => validRole_any w ro
  have H4 := hide fun w => validRole_any w rp
  have H5 := hide fun w => isSplit_any w k
  have H6 := hide fun w => newParty_any w ro mo fo
  have H7 := hide fun w => newParty_any w rp mp fp
  have H8 : Hid (∀ w, Calls Try.prog 46 #[.agg #[.int .i64 ro, .int .i64 mo, .bool (fd fo), .int .i64 rp, .int .i64 mp, .bool (fd fp), .int .i64 n, .int .i64 s0, .int .i64 s1]] w fun e w' => e = .returned (.tuple #[.int .i64 (spOf n s0 s1 ro rp mo mp (fd fo) (fd fp)).gupL, .int .i64 (spOf n s0 s1 ro rp mo mp (fd fo) (fd fp)).gupR]) ∧ Below w.heap.size w w') := hide fun w => gup_any w (spOf n s0 s1 ro rp mo mp (fd fo) (fd fp))
  have H9 := hide fun w => isFull_any w k
  rw [show resv k r n s0 s1 s2 ro rp mo mp (fd fo) (fd fp) = (rk ((spOf n s0 s1 ro rp mo mp (fd fo) (fd fp)).gupL == 2) (isFu k), (spOf n s0 s1 ro rp mo mp (fd fo) (fd fp)).gupR, 0) by unfold resv; rw [if_neg (by simp [h1, h2]; omega), if_neg (by simp [h5, h6, h7]), if_neg (by simp [h8]), if_neg hL]]
  rw [h1] at H1
  rw [h5] at H2
  rw [h6] at H3
  rw [h7] at H4
  rw [h8] at H5
  rcases h2 with rfl | rfl
  all_goals
    generalize spOf _ s0 s1 ro rp mo mp (fd fo) (fd fp) = S at *
    generalize fd fo = d at *
    generalize fd fp = e at *
    generalize Sp.gupL _ = L at *
    generalize Sp.gupR _ = R at *
    generalize isFu k = u at *
    have H10 := hide fun w => resyncKind_any w (L == 2) u
    generalize rk (L == 2) u = K at *
    clear h1 h5 h6 h7 h8
    unfold setV vd at *
    dsimp only at *
    go_enter Try.func33, Try.ntmps33
    go_wp2_with (first
      | (go_at_call 29; refine (H1.out _).mono ?_; rintro e w2 ⟨rfl, rfl⟩)
      | (go_at_call 43; refine (H2.out _).mono ?_; rintro e w2 ⟨rfl, rfl⟩)
      | (go_at_call 44; (with_reducible refine (H3.out _).mono ?_); rintro e w2 ⟨rfl, rfl⟩)
      | (go_at_call 44; (with_reducible refine (H4.out _).mono ?_); rintro e w2 ⟨rfl, rfl⟩)
      | (go_at_call 40; refine (H5.out _).mono ?_; rintro e w2 ⟨rfl, rfl⟩)
      | (go_at_call 45; (with_reducible refine (H6.out _).mono ?_); rintro e w2 ⟨rfl, X, rfl⟩)
      | (go_at_call 45; (with_reducible refine (H7.out _).mono ?_); rintro e w2 ⟨rfl, Y, rfl⟩)
      | (go_at_call 46; refine (H8.out _).mono ?_; rintro e w2 ⟨rfl, hb⟩; have HPv := hide (hp_below (hp_alloc (hp_alloc2 (hp_alloc (hp_new w _) _) _ _) _) hb); have HPr := hide (hp_below (hp_alloc (hp_alloc2 (heap_snd w _ _) _ _) _) hb); have HBW := hide (bel_to (bl1 (bl4 (Below.refl w.heap.size w) _ _ _ _) _) hb); obtain ⟨c0, c1, c2⟩ := hp_cells2 HPv.out; obtain ⟨d0, d1, d2⟩ := hp_cells2 HPr.out; have f0 := frozen_of_row _ _ 0 _ _ HPr.out; have f1 := frozen_of_row _ _ 1 _ _ HPr.out; clear hb)
      | (go_at_call 42; refine (H9.out _).mono ?_; rintro e w2 ⟨rfl, rfl⟩)
      | (go_at_call 41; refine (H10.out _).mono ?_; rintro e w2 ⟨rfl, rfl⟩))
    all_goals
      exact bodyPost_ret (results_row_tmp rfl _ _ (w.heap.size + 1) 26 _ (0, 0) _ rfl (set2 HPr.out _ _) Try.underlying26 rfl (by kernel_rfl)) rfl ⟨by first | rfl | simp, ((HBW.out.setCell (p := ⟨w.heap.size + 1, 0, none⟩) (Nat.le_succ _) _).setCell (p := ⟨w.heap.size + 1, 1, none⟩) (Nat.le_succ _) _)⟩
theorem resolve_any (w : World) (k r n s0 s1 s2 ro rp mo mp fo fp : Int)  : Calls Try.prog 33 #[vd k r, .int .i64 n, .int .i64 s0, .int .i64 s1, .int .i64 s2, .int .i64 ro, .int .i64 rp, .int .i64 mo, .int .i64 mp, .int .u32 fo, .int .u32 fp] w fun e w' => e = .returned (setV (resv k r n s0 s1 s2 ro rp mo mp (fd fo) (fd fp))) ∧ Below w.heap.size w w' := by
  cases h1 : okK k with
  | false => exact resolve_A1 w k r n s0 s1 s2 ro rp mo mp fo fp h1
  | true =>
    by_cases h2 : n = 0 ∨ n = 1
    case neg => exact resolve_A2 w k r n s0 s1 s2 ro rp mo mp fo fp h1 (fun e => h2 (Or.inl e)) (fun e => h2 (Or.inr e))
    by_cases h3 : mo < 0
    · exact resolve_A3 w k r n s0 s1 s2 ro rp mo mp fo fp h1 h2 h3
    by_cases h4 : mp < 0
    · exact resolve_A4 w k r n s0 s1 s2 ro rp mo mp fo fp h1 h2 h3 h4
    cases h5 : okP s0 s1 s2 with
    | false => exact resolve_B1 w k r n s0 s1 s2 ro rp mo mp fo fp h1 h2 h3 h4 h5
    | true =>
      cases h6 : okR ro with
      | false => exact resolve_B2 w k r n s0 s1 s2 ro rp mo mp fo fp h1 h2 h3 h4 h5 h6
      | true =>
        cases h7 : okR rp with
        | false => exact resolve_B3 w k r n s0 s1 s2 ro rp mo mp fo fp h1 h2 h3 h4 h5 h6 h7
        | true =>
          cases h8 : isSp k with
          | false => exact resolve_C w k r n s0 s1 s2 ro rp mo mp fo fp h1 h2 h3 h4 h5 h6 h7 h8
          | true =>
            by_cases hL : (spOf n s0 s1 ro rp mo mp (fd fo) (fd fp)).gupL = 0
            · exact resolve_D w k r n s0 s1 s2 ro rp mo mp fo fp h1 h2 h3 h4 h5 h6 h7 h8 hL
            · exact resolve_E w k r n s0 s1 s2 ro rp mo mp fo fp h1 h2 h3 h4 h5 h6 h7 h8 hL
end Go.Proofs.Ytlmfdbimchhjjaa
