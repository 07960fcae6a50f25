import Derived.Test.YtlmfdbimchhjjabIdVdt0
namespace Go.Proofs.Ytlmfdbimchhjjab
open Go.RowKit
set_option linter.unusedVariables false
set_option linter.unusedSimpArgs false
set_option maxRecDepth 20000

set_option maxHeartbeats 2000000 in
theorem vdt_6 (w : World) (P : Pr) (num kind : Int) : Calls Try.prog 15 #[.agg #[.int .i64 num, .func (.func 34) #[] #[], .int .i64 kind], P.val] w fun e w' => e = .returned (vdt (P.ask 6) (P.tu.ask 6) num kind) ∧ Below w.heap.size w w' := by
  have HF := hide fun w => ask6 w P
  have HG := hide fun w => ask6 w P.tu
  have HT := hide fun w => turned_pr w P
  have HM := hide fun w => mirror_any w kind num
  generalize P.ask 6 = q1 at *
  generalize P.tu.ask 6 = q2 at *
  obtain ⟨⟨c, b, o1, o2⟩, x, ⟨c', b', p1, p2⟩, y, ff⟩ := P
  unfold Pr.tu at *
  unfold Pr.val vdt vd at *
  dsimp only at *
  generalize mirK kind = mk at *
  obtain ⟨h1, h2, h3, h4⟩ := hp4 w (.cells #[.int .i64 num, .func (.func 34) #[] #[], .int .i64 kind] 57) (.cells #[.int .u64 c, .int .u64 b, .int .u64 o1, .int .u64 o2, .bool x, .int .u64 c', .int .u64 b', .int .u64 p1, .int .u64 p2, .bool y, .bool ff] 52) (.cells #[.int .i64 0, .int .i64 0] 27) (.cells #[.int .i64 kind, .int .i64 num] 27)
  have HR0 := hide h1
  have HP0 := hide h2
  have HS0 := hide h3
  have HV0 := hide h4
  have HB0 := hide (bl4 (Below.refl w.heap.size w) (.cells #[.int .i64 num, .func (.func 34) #[] #[], .int .i64 kind] 57) (.cells #[.int .u64 c, .int .u64 b, .int .u64 o1, .int .u64 o2, .bool x, .int .u64 c', .int .u64 b', .int .u64 p1, .int .u64 p2, .bool y, .bool ff] 52) (.cells #[.int .i64 0, .int .i64 0] 27) (.cells #[.int .i64 kind, .int .i64 num] 27))
  clear h1 h2 h3 h4
  cases q1
  case true =>
    go_enter Try.func15, Try.ntmps15
    go_wp2_with ((go_at_call 34; refine (HF.out _).mono ?_; rintro e w2 ⟨rfl, hb⟩; have HR := hide (hp_below HR0.out hb); have HP := hide (hp_below HP0.out hb); have HS := hide (hp_below HS0.out hb); have HV := hide (hp_below HV0.out hb); have HB := hide (bel_to HB0.out hb); clear hb HR0 HP0 HS0 HV0 HB0 HF; obtain ⟨r0, r1, r2, rx⟩ := hp_cells3 HR.out; obtain ⟨d0, d1, d2, d3, d4, d5, d6, d7, d8, d9, d10, dx⟩ := hp_cells11 HP.out; obtain ⟨s0, s1, sx⟩ := hp_cells2 HS.out; obtain ⟨v0, v1, vx⟩ := hp_cells2 HV.out; have f0 := frozen_of_row _ _ 0 _ _ HS.out; have f1 := frozen_of_row _ _ 1 _ _ HS.out))
    exact bodyPost_ret (results_row_tmp rfl _ _ (w.heap.size + 1 + 1) 27 _ (0, 0) _ rfl (set2 HS.out _ _) Try.underlying27 rfl (by kernel_rfl)) rfl ⟨by first | rfl | simp, bel_set2 HB.out (by omega) _ _⟩
  cases q2
  all_goals
    go_enter Try.func15, Try.ntmps15
    go_wp2_with ((go_at_call 34; refine (HF.out _).mono ?_; rintro e w2 ⟨rfl, hb⟩; have HR := hide (hp_below HR0.out hb); have HP := hide (hp_below HP0.out hb); have HS := hide (hp_below HS0.out hb); have HV := hide (hp_below HV0.out hb); have HB := hide (bel_to HB0.out hb); clear hb HR0 HP0 HS0 HV0 HB0 HF; obtain ⟨r0, r1, r2, rx⟩ := hp_cells3 HR.out; obtain ⟨d0, d1, d2, d3, d4, d5, d6, d7, d8, d9, d10, dx⟩ := hp_cells11 HP.out; obtain ⟨s0, s1, sx⟩ := hp_cells2 HS.out; obtain ⟨v0, v1, vx⟩ := hp_cells2 HV.out; have f0 := frozen_of_row _ _ 0 _ _ HS.out; have f1 := frozen_of_row _ _ 1 _ _ HS.out))
    have HK : Hid (∀ w5, Below w2.heap.size w2 w5 → (w5.cell? ⟨w.heap.size, 1, none⟩ = some (.func (.func 34) #[] #[]) ∧ w5.cell? ⟨w.heap.size + 1, 0, none⟩ = some (.int .u64 c) ∧ w5.cell? ⟨w.heap.size + 1, 1, none⟩ = some (.int .u64 b) ∧ w5.cell? ⟨w.heap.size + 1, 2, none⟩ = some (.int .u64 o1) ∧ w5.cell? ⟨w.heap.size + 1, 3, none⟩ = some (.int .u64 o2) ∧ w5.cell? ⟨w.heap.size + 1, 4, none⟩ = some (.bool x) ∧ w5.cell? ⟨w.heap.size + 1, 5, none⟩ = some (.int .u64 c') ∧ w5.cell? ⟨w.heap.size + 1, 6, none⟩ = some (.int .u64 b') ∧ w5.cell? ⟨w.heap.size + 1, 7, none⟩ = some (.int .u64 p1) ∧ w5.cell? ⟨w.heap.size + 1, 8, none⟩ = some (.int .u64 p2) ∧ w5.cell? ⟨w.heap.size + 1, 9, none⟩ = some (.bool y) ∧ w5.cell? ⟨w.heap.size + 1, 10, none⟩ = some (.bool ff))) := hide fun w5 hb => ⟨(hp_cells3 (hp_below HR.out hb)).2.1, (hp_cells11 (hp_below HP.out hb)).1, (hp_cells11 (hp_below HP.out hb)).2.1, (hp_cells11 (hp_below HP.out hb)).2.2.1, (hp_cells11 (hp_below HP.out hb)).2.2.2.1, (hp_cells11 (hp_below HP.out hb)).2.2.2.2.1, (hp_cells11 (hp_below HP.out hb)).2.2.2.2.2.1, (hp_cells11 (hp_below HP.out hb)).2.2.2.2.2.2.1, (hp_cells11 (hp_below HP.out hb)).2.2.2.2.2.2.2.1, (hp_cells11 (hp_below HP.out hb)).2.2.2.2.2.2.2.2.1, (hp_cells11 (hp_below HP.out hb)).2.2.2.2.2.2.2.2.2.1, (hp_cells11 (hp_below HP.out hb)).2.2.2.2.2.2.2.2.2.2.1⟩
    have HD := hide ((Below.refl w2.heap.size w2).drew)
    go_region_held3 (fun w' => w'.cell? ⟨w.heap.size, 1, none⟩ = some (.func (.func 34) #[] #[]) ∧ w'.cell? ⟨w.heap.size + 1, 0, none⟩ = some (.int .u64 c) ∧ w'.cell? ⟨w.heap.size + 1, 1, none⟩ = some (.int .u64 b) ∧ w'.cell? ⟨w.heap.size + 1, 2, none⟩ = some (.int .u64 o1) ∧ w'.cell? ⟨w.heap.size + 1, 3, none⟩ = some (.int .u64 o2) ∧ w'.cell? ⟨w.heap.size + 1, 4, none⟩ = some (.bool x) ∧ w'.cell? ⟨w.heap.size + 1, 5, none⟩ = some (.int .u64 c') ∧ w'.cell? ⟨w.heap.size + 1, 6, none⟩ = some (.int .u64 b') ∧ w'.cell? ⟨w.heap.size + 1, 7, none⟩ = some (.int .u64 p1) ∧ w'.cell? ⟨w.heap.size + 1, 8, none⟩ = some (.int .u64 p2) ∧ w'.cell? ⟨w.heap.size + 1, 9, none⟩ = some (.bool y) ∧ w'.cell? ⟨w.heap.size + 1, 10, none⟩ = some (.bool ff)) (first | exact ⟨r1, d0, d1, d2, d3, d4, d5, d6, d7, d8, d9, d10⟩ | exact HK.out _ HC.out | exact HK.out _ HE.out)
      (first
        | (go_at_call 42; refine (HT.out _).mono ?_; rintro e w5 ⟨rfl, X, Y, h5⟩; have HC : Hid (Below w2.heap.size w2 w5) := hide (by rw [h5]; exact bel_to HD.out bel_2); clear h5)
        | (go_at_call 34; refine (HG.out _).mono ?_; rintro e w6 ⟨rfl, hb⟩; have HE : Hid (Below w2.heap.size w2 w6) := hide (bel_to HC.out hb); clear hb))
    all_goals
      clear r0 r1 r2 rx d0 d1 d2 d3 d4 d5 d6 d7 d8 d9 d10 dx s0 s1 sx v0 v1 vx f0 f1
      have HR6 := hide (hp_below HR.out HE.out)
      have HP6 := hide (hp_below HP.out HE.out)
      have HS6 := hide (hp_below HS.out HE.out)
      have HV6 := hide (hp_below HV.out HE.out)
      have HB6 := hide (bel_to HB.out HE.out)
      obtain ⟨r0, r1, r2, rx⟩ := hp_cells3 HR6.out
      obtain ⟨d0, d1, d2, d3, d4, d5, d6, d7, d8, d9, d10, dx⟩ := hp_cells11 HP6.out
      obtain ⟨s0, s1, sx⟩ := hp_cells2 HS6.out
      obtain ⟨v0, v1, vx⟩ := hp_cells2 HV6.out
      have f0 := frozen_of_row _ _ 0 _ _ HS6.out
      have f1 := frozen_of_row _ _ 1 _ _ HS6.out
      go_wp2_with ((go_at_call 7; refine (HM.out _).mono ?_; rintro e w7 ⟨rfl, A1, A2, rfl⟩))
      first
        | exact bodyPost_ret (results_row_tmp rfl _ _ (w.heap.size + 1 + 1) 27 _ (0, 0) _ rfl (set2 HS6.out _ _) Try.underlying27 rfl (by kernel_rfl)) rfl ⟨by first | rfl | simp, bel_set2 HB6.out (by omega) _ _⟩
        | exact bodyPost_ret (results_row_tmp rfl _ _ (w.heap.size + 1 + 1) 27 _ (0, 0) _ rfl (hp_alloc2 (set2 HS6.out _ _) _ _) Try.underlying27 rfl (by kernel_rfl)) rfl ⟨by first | rfl | simp, bl2 (bel_set2 HB6.out (by omega) _ _) _ _⟩
set_option maxHeartbeats 2000000 in
theorem vdt_7 (w : World) (P : Pr) (num kind : Int) : Calls Try.prog 15 #[.agg #[.int .i64 num, .func (.func 35) #[] #[], .int .i64 kind], P.val] w fun e w' => e = .returned (vdt (P.ask 7) (P.tu.ask 7) num kind) ∧ Below w.heap.size w w' := by
  have HF := hide fun w => ask7 w P
  have HG := hide fun w => ask7 w P.tu
  have HT := hide fun w => turned_pr w P
  have HM := hide fun w => mirror_any w kind num
  generalize P.ask 7 = q1 at *
  generalize P.tu.ask 7 = q2 at *
  obtain ⟨⟨c, b, o1, o2⟩, x, ⟨c', b', p1, p2⟩, y, ff⟩ := P
  unfold Pr.tu at *
  unfold Pr.val vdt vd at *
  dsimp only at *
  generalize mirK kind = mk at *
  obtain ⟨h1, h2, h3, h4⟩ := hp4 w (.cells #[.int .i64 num, .func (.func 35) #[] #[], .int .i64 kind] 57) (.cells #[.int .u64 c, .int .u64 b, .int .u64 o1, .int .u64 o2, .bool x, .int .u64 c', .int .u64 b', .int .u64 p1, .int .u64 p2, .bool y, .bool ff] 52) (.cells #[.int .i64 0, .int .i64 0] 27) (.cells #[.int .i64 kind, .int .i64 num] 27)
  have HR0 := hide h1
  have HP0 := hide h2
  have HS0 := hide h3
  have HV0 := hide h4
  have HB0 := hide (bl4 (Below.refl w.heap.size w) (.cells #[.int .i64 num, .func (.func 35) #[] #[], .int .i64 kind] 57) (.cells #[.int .u64 c, .int .u64 b, .int .u64 o1, .int .u64 o2, .bool x, .int .u64 c', .int .u64 b', .int .u64 p1, .int .u64 p2, .bool y, .bool ff] 52) (.cells #[.int .i64 0, .int .i64 0] 27) (.cells #[.int .i64 kind, .int .i64 num] 27))
  clear h1 h2 h3 h4
  cases q1
  case true =>
    go_enter Try.func15, Try.ntmps15
    go_wp2_with ((go_at_call 35; refine (HF.out _).mono ?_; rintro e w2 ⟨rfl, hb⟩; have HR := hide (hp_below HR0.out hb); have HP := hide (hp_below HP0.out hb); have HS := hide (hp_below HS0.out hb); have HV := hide (hp_below HV0.out hb); have HB := hide (bel_to HB0.out hb); clear hb HR0 HP0 HS0 HV0 HB0 HF; obtain ⟨r0, r1, r2, rx⟩ := hp_cells3 HR.out; obtain ⟨d0, d1, d2, d3, d4, d5, d6, d7, d8, d9, d10, dx⟩ := hp_cells11 HP.out; obtain ⟨s0, s1, sx⟩ := hp_cells2 HS.out; obtain ⟨v0, v1, vx⟩ := hp_cells2 HV.out; have f0 := frozen_of_row _ _ 0 _ _ HS.out; have f1 := frozen_of_row _ _ 1 _ _ HS.out))
    exact bodyPost_ret (results_row_tmp rfl _ _ (w.heap.size + 1 + 1) 27 _ (0, 0) _ rfl (set2 HS.out _ _) Try.underlying27 rfl (by kernel_rfl)) rfl ⟨by first | rfl | simp, bel_set2 HB.out (by omega) _ _⟩
  cases q2
  all_goals
    go_enter Try.func15, Try.ntmps15
    go_wp2_with ((go_at_call 35; refine (HF.out _).mono ?_; rintro e w2 ⟨rfl, hb⟩; have HR := hide (hp_below HR0.out hb); have HP := hide (hp_below HP0.out hb); have HS := hide (hp_below HS0.out hb); have HV := hide (hp_below HV0.out hb); have HB := hide (bel_to HB0.out hb); clear hb HR0 HP0 HS0 HV0 HB0 HF; obtain ⟨r0, r1, r2, rx⟩ := hp_cells3 HR.out; obtain ⟨d0, d1, d2, d3, d4, d5, d6, d7, d8, d9, d10, dx⟩ := hp_cells11 HP.out; obtain ⟨s0, s1, sx⟩ := hp_cells2 HS.out; obtain ⟨v0, v1, vx⟩ := hp_cells2 HV.out; have f0 := frozen_of_row _ _ 0 _ _ HS.out; have f1 := frozen_of_row _ _ 1 _ _ HS.out))
    have HK : Hid (∀ w5, Below w2.heap.size w2 w5 → (w5.cell? ⟨w.heap.size, 1, none⟩ = some (.func (.func 35) #[] #[]) ∧ w5.cell? ⟨w.heap.size + 1, 0, none⟩ = some (.int .u64 c) ∧ w5.cell? ⟨w.heap.size + 1, 1, none⟩ = some (.int .u64 b) ∧ w5.cell? ⟨w.heap.size + 1, 2, none⟩ = some (.int .u64 o1) ∧ w5.cell? ⟨w.heap.size + 1, 3, none⟩ = some (.int .u64 o2) ∧ w5.cell? ⟨w.heap.size + 1, 4, none⟩ = some (.bool x) ∧ w5.cell? ⟨w.heap.size + 1, 5, none⟩ = some (.int .u64 c') ∧ w5.cell? ⟨w.heap.size + 1, 6, none⟩ = some (.int .u64 b') ∧ w5.cell? ⟨w.heap.size + 1, 7, none⟩ = some (.int .u64 p1) ∧ w5.cell? ⟨w.heap.size + 1, 8, none⟩ = some (.int .u64 p2) ∧ w5.cell? ⟨w.heap.size + 1, 9, none⟩ = some (.bool y) ∧ w5.cell? ⟨w.heap.size + 1, 10, none⟩ = some (.bool ff))) := hide fun w5 hb => ⟨(hp_cells3 (hp_below HR.out hb)).2.1, (hp_cells11 (hp_below HP.out hb)).1, (hp_cells11 (hp_below HP.out hb)).2.1, (hp_cells11 (hp_below HP.out hb)).2.2.1, (hp_cells11 (hp_below HP.out hb)).2.2.2.1, (hp_cells11 (hp_below HP.out hb)).2.2.2.2.1, (hp_cells11 (hp_below HP.out hb)).2.2.2.2.2.1, (hp_cells11 (hp_below HP.out hb)).2.2.2.2.2.2.1, (hp_cells11 (hp_below HP.out hb)).2.2.2.2.2.2.2.1, (hp_cells11 (hp_below HP.out hb)).2.2.2.2.2.2.2.2.1, (hp_cells11 (hp_below HP.out hb)).2.2.2.2.2.2.2.2.2.1, (hp_cells11 (hp_below HP.out hb)).2.2.2.2.2.2.2.2.2.2.1⟩
    have HD := hide ((Below.refl w2.heap.size w2).drew)
    go_region_held3 (fun w' => w'.cell? ⟨w.heap.size, 1, none⟩ = some (.func (.func 35) #[] #[]) ∧ w'.cell? ⟨w.heap.size + 1, 0, none⟩ = some (.int .u64 c) ∧ w'.cell? ⟨w.heap.size + 1, 1, none⟩ = some (.int .u64 b) ∧ w'.cell? ⟨w.heap.size + 1, 2, none⟩ = some (.int .u64 o1) ∧ w'.cell? ⟨w.heap.size + 1, 3, none⟩ = some (.int .u64 o2) ∧ w'.cell? ⟨w.heap.size + 1, 4, none⟩ = some (.bool x) ∧ w'.cell? ⟨w.heap.size + 1, 5, none⟩ = some (.int .u64 c') ∧ w'.cell? ⟨w.heap.size + 1, 6, none⟩ = some (.int .u64 b') ∧ w'.cell? ⟨w.heap.size + 1, 7, none⟩ = some (.int .u64 p1) ∧ w'.cell? ⟨w.heap.size + 1, 8, none⟩ = some (.int .u64 p2) ∧ w'.cell? ⟨w.heap.size + 1, 9, none⟩ = some (.bool y) ∧ w'.cell? ⟨w.heap.size + 1, 10, none⟩ = some (.bool ff)) (first | exact ⟨r1, d0, d1, d2, d3, d4, d5, d6, d7, d8, d9, d10⟩ | exact HK.out _ HC.out | exact HK.out _ HE.out)
      (first
        | (go_at_call 42; refine (HT.out _).mono ?_; rintro e w5 ⟨rfl, X, Y, h5⟩; have HC : Hid (Below w2.heap.size w2 w5) := hide (by rw [h5]; exact bel_to HD.out bel_2); clear h5)
        | (go_at_call 35; refine (HG.out _).mono ?_; rintro e w6 ⟨rfl, hb⟩; have HE : Hid (Below w2.heap.size w2 w6) := hide (bel_to HC.out hb); clear hb))
    all_goals
      clear r0 r1 r2 rx d0 d1 d2 d3 d4 d5 d6 d7 d8 d9 d10 dx s0 s1 sx v0 v1 vx f0 f1
      have HR6 := hide (hp_below HR.out HE.out)
      have HP6 := hide (hp_below HP.out HE.out)
      have HS6 := hide (hp_below HS.out HE.out)
      have HV6 := hide (hp_below HV.out HE.out)
      have HB6 := hide (bel_to HB.out HE.out)
      obtain ⟨r0, r1, r2, rx⟩ := hp_cells3 HR6.out
      obtain ⟨d0, d1, d2, d3, d4, d5, d6, d7, d8, d9, d10, dx⟩ := hp_cells11 HP6.out
      obtain ⟨s0, s1, sx⟩ := hp_cells2 HS6.out
      obtain ⟨v0, v1, vx⟩ := hp_cells2 HV6.out
      have f0 := frozen_of_row _ _ 0 _ _ HS6.out
      have f1 := frozen_of_row _ _ 1 _ _ HS6.out
      go_wp2_with ((go_at_call 7; refine (HM.out _).mono ?_; rintro e w7 ⟨rfl, A1, A2, rfl⟩))
      first
        | exact bodyPost_ret (results_row_tmp rfl _ _ (w.heap.size + 1 + 1) 27 _ (0, 0) _ rfl (set2 HS6.out _ _) Try.underlying27 rfl (by kernel_rfl)) rfl ⟨by first | rfl | simp, bel_set2 HB6.out (by omega) _ _⟩
        | exact bodyPost_ret (results_row_tmp rfl _ _ (w.heap.size + 1 + 1) 27 _ (0, 0) _ rfl (hp_alloc2 (set2 HS6.out _ _) _ _) Try.underlying27 rfl (by kernel_rfl)) rfl ⟨by first | rfl | simp, bl2 (bel_set2 HB6.out (by omega) _ _) _ _⟩
set_option maxHeartbeats 2000000 in
theorem vdt_8 (w : World) (P : Pr) (num kind : Int) : Calls Try.prog 15 #[.agg #[.int .i64 num, .func (.func 36) #[] #[], .int .i64 kind], P.val] w fun e w' => e = .returned (vdt (P.ask 8) (P.tu.ask 8) num kind) ∧ Below w.heap.size w w' := by
  have HF := hide fun w => ask8 w P
  have HG := hide fun w => ask8 w P.tu
  have HT := hide fun w => turned_pr w P
  have HM := hide fun w => mirror_any w kind num
  generalize P.ask 8 = q1 at *
  generalize P.tu.ask 8 = q2 at *
  obtain ⟨⟨c, b, o1, o2⟩, x, ⟨c', b', p1, p2⟩, y, ff⟩ := P
  unfold Pr.tu at *
  unfold Pr.val vdt vd at *
  dsimp only at *
  generalize mirK kind = mk at *
  obtain ⟨h1, h2, h3, h4⟩ := hp4 w (.cells #[.int .i64 num, .func (.func 36) #[] #[], .int .i64 kind] 57) (.cells #[.int .u64 c, .int .u64 b, .int .u64 o1, .int .u64 o2, .bool x, .int .u64 c', .int .u64 b', .int .u64 p1, .int .u64 p2, .bool y, .bool ff] 52) (.cells #[.int .i64 0, .int .i64 0] 27) (.cells #[.int .i64 kind, .int .i64 num] 27)
  have HR0 := hide h1
  have HP0 := hide h2
  have HS0 := hide h3
  have HV0 := hide h4
  have HB0 := hide (bl4 (Below.refl w.heap.size w) (.cells #[.int .i64 num, .func (.func 36) #[] #[], .int .i64 kind] 57) (.cells #[.int .u64 c, .int .u64 b, .int .u64 o1, .int .u64 o2, .bool x, .int .u64 c', .int .u64 b', .int .u64 p1, .int .u64 p2, .bool y, .bool ff] 52) (.cells #[.int .i64 0, .int .i64 0] 27) (.cells #[.int .i64 kind, .int .i64 num] 27))
  clear h1 h2 h3 h4
  cases q1
  case true =>
    go_enter Try.func15, Try.ntmps15
    go_wp2_with ((go_at_call 36; refine (HF.out _).mono ?_; rintro e w2 ⟨rfl, hb⟩; have HR := hide (hp_below HR0.out hb); have HP := hide (hp_below HP0.out hb); have HS := hide (hp_below HS0.out hb); have HV := hide (hp_below HV0.out hb); have HB := hide (bel_to HB0.out hb); clear hb HR0 HP0 HS0 HV0 HB0 HF; obtain ⟨r0, r1, r2, rx⟩ := hp_cells3 HR.out; obtain ⟨d0, d1, d2, d3, d4, d5, d6, d7, d8, d9, d10, dx⟩ := hp_cells11 HP.out; obtain ⟨s0, s1, sx⟩ := hp_cells2 HS.out; obtain ⟨v0, v1, vx⟩ := hp_cells2 HV.out; have f0 := frozen_of_row _ _ 0 _ _ HS.out; have f1 := frozen_of_row _ _ 1 _ _ HS.out))
    exact bodyPost_ret (results_row_tmp rfl _ _ (w.heap.size + 1 + 1) 27 _ (0, 0) _ rfl (set2 HS.out _ _) Try.underlying27 rfl (by kernel_rfl)) rfl ⟨by first | rfl | simp, bel_set2 HB.out (by omega) _ _⟩
  cases q2
  all_goals
    go_enter Try.func15, Try.ntmps15
    go_wp2_with ((go_at_call 36; refine (HF.out _).mono ?_; rintro e w2 ⟨rfl, hb⟩; have HR := hide (hp_below HR0.out hb); have HP := hide (hp_below HP0.out hb); have HS := hide (hp_below HS0.out hb); have HV := hide (hp_below HV0.out hb); have HB := hide (bel_to HB0.out hb); clear hb HR0 HP0 HS0 HV0 HB0 HF; obtain ⟨r0, r1, r2, rx⟩ := hp_cells3 HR.out; obtain ⟨d0, d1, d2, d3, d4, d5, d6, d7, d8, d9, d10, dx⟩ := hp_cells11 HP.out; obtain ⟨s0, s1, sx⟩ := hp_cells2 HS.out; obtain ⟨v0, v1, vx⟩ := hp_cells2 HV.out; have f0 := frozen_of_row _ _ 0 _ _ HS.out; have f1 := frozen_of_row _ _ 1 _ _ HS.out))
    have HK : Hid (∀ w5, Below w2.heap.size w2 w5 → (w5.cell? ⟨w.heap.size, 1, none⟩ = some (.func (.func 36) #[] #[]) ∧ w5.cell? ⟨w.heap.size + 1, 0, none⟩ = some (.int .u64 c) ∧ w5.cell? ⟨w.heap.size + 1, 1, none⟩ = some (.int .u64 b) ∧ w5.cell? ⟨w.heap.size + 1, 2, none⟩ = some (.int .u64 o1) ∧ w5.cell? ⟨w.heap.size + 1, 3, none⟩ = some (.int .u64 o2) ∧ w5.cell? ⟨w.heap.size + 1, 4, none⟩ = some (.bool x) ∧ w5.cell? ⟨w.heap.size + 1, 5, none⟩ = some (.int .u64 c') ∧ w5.cell? ⟨w.heap.size + 1, 6, none⟩ = some (.int .u64 b') ∧ w5.cell? ⟨w.heap.size + 1, 7, none⟩ = some (.int .u64 p1) ∧ w5.cell? ⟨w.heap.size + 1, 8, none⟩ = some (.int .u64 p2) ∧ w5.cell? ⟨w.heap.size + 1, 9, none⟩ = some (.bool y) ∧ w5.cell? ⟨w.heap.size + 1, 10, none⟩ = some (.bool ff))) := hide fun w5 hb => ⟨(hp_cells3 (hp_below HR.out hb)).2.1, (hp_cells11 (hp_below HP.out hb)).1, (hp_cells11 (hp_below HP.out hb)).2.1, (hp_cells11 (hp_below HP.out hb)).2.2.1, (hp_cells11 (hp_below HP.out hb)).2.2.2.1, (hp_cells11 (hp_below HP.out hb)).2.2.2.2.1, (hp_cells11 (hp_below HP.out hb)).2.2.2.2.2.1, (hp_cells11 (hp_below HP.out hb)).2.2.2.2.2.2.1, (hp_cells11 (hp_below HP.out hb)).2.2.2.2.2.2.2.1, (hp_cells11 (hp_below HP.out hb)).2.2.2.2.2.2.2.2.1, (hp_cells11 (hp_below HP.out hb)).2.2.2.2.2.2.2.2.2.1, (hp_cells11 (hp_below HP.out hb)).2.2.2.2.2.2.2.2.2.2.1⟩
    have HD := hide ((Below.refl w2.heap.size w2).drew)
    go_region_held3 (fun w' => w'.cell? ⟨w.heap.size, 1, none⟩ = some (.func (.func 36) #[] #[]) ∧ w'.cell? ⟨w.heap.size + 1, 0, none⟩ = some (.int .u64 c) ∧ w'.cell? ⟨w.heap.size + 1, 1, none⟩ = some (.int .u64 b) ∧ w'.cell? ⟨w.heap.size + 1, 2, none⟩ = some (.int .u64 o1) ∧ w'.cell? ⟨w.heap.size + 1, 3, none⟩ = some (.int .u64 o2) ∧ w'.cell? ⟨w.heap.size + 1, 4, none⟩ = some (.bool x) ∧ w'.cell? ⟨w.heap.size + 1, 5, none⟩ = some (.int .u64 c') ∧ w'.cell? ⟨w.heap.size + 1, 6, none⟩ = some (.int .u64 b') ∧ w'.cell? ⟨w.heap.size + 1, 7, none⟩ = some (.int .u64 p1) ∧ w'.cell? ⟨w.heap.size + 1, 8, none⟩ = some (.int .u64 p2) ∧ w'.cell? ⟨w.heap.size + 1, 9, none⟩ = some (.bool y) ∧ w'.cell? ⟨w.heap.size + 1, 10, none⟩ = some (.bool ff)) (first | exact ⟨r1, d0, d1, d2, d3, d4, d5, d6, d7, d8, d9, d10⟩ | exact HK.out _ HC.out | exact HK.out _ HE.out)
      (first
        | (go_at_call 42; refine (HT.out _).mono ?_; rintro e w5 ⟨rfl, X, Y, h5⟩; have HC : Hid (Below w2.heap.size w2 w5) := hide (by rw [h5]; exact bel_to HD.out bel_2); clear h5)
        | (go_at_call 36; refine (HG.out _).mono ?_; rintro e w6 ⟨rfl, hb⟩; have HE : Hid (Below w2.heap.size w2 w6) := hide (bel_to HC.out hb); clear hb))
    all_goals
      clear r0 r1 r2 rx d0 d1 d2 d3 d4 d5 d6 d7 d8 d9 d10 dx s0 s1 sx v0 v1 vx f0 f1
      have HR6 := hide (hp_below HR.out HE.out)
      have HP6 := hide (hp_below HP.out HE.out)
      have HS6 := hide (hp_below HS.out HE.out)
      have HV6 := hide (hp_below HV.out HE.out)
      have HB6 := hide (bel_to HB.out HE.out)
      obtain ⟨r0, r1, r2, rx⟩ := hp_cells3 HR6.out
      obtain ⟨d0, d1, d2, d3, d4, d5, d6, d7, d8, d9, d10, dx⟩ := hp_cells11 HP6.out
      obtain ⟨s0, s1, sx⟩ := hp_cells2 HS6.out
      obtain ⟨v0, v1, vx⟩ := hp_cells2 HV6.out
      have f0 := frozen_of_row _ _ 0 _ _ HS6.out
      have f1 := frozen_of_row _ _ 1 _ _ HS6.out
      go_wp2_with ((go_at_call 7; refine (HM.out _).mono ?_; rintro e w7 ⟨rfl, A1, A2, rfl⟩))
      first
        | exact bodyPost_ret (results_row_tmp rfl _ _ (w.heap.size + 1 + 1) 27 _ (0, 0) _ rfl (set2 HS6.out _ _) Try.underlying27 rfl (by kernel_rfl)) rfl ⟨by first | rfl | simp, bel_set2 HB6.out (by omega) _ _⟩
        | exact bodyPost_ret (results_row_tmp rfl _ _ (w.heap.size + 1 + 1) 27 _ (0, 0) _ rfl (hp_alloc2 (set2 HS6.out _ _) _ _) Try.underlying27 rfl (by kernel_rfl)) rfl ⟨by first | rfl | simp, bl2 (bel_set2 HB6.out (by omega) _ _) _ _⟩
set_option maxHeartbeats 2000000 in
theorem vdt_9 (w : World) (P : Pr) (num kind : Int) : Calls Try.prog 15 #[.agg #[.int .i64 num, .func (.func 37) #[] #[], .int .i64 kind], P.val] w fun e w' => e = .returned (vdt (P.ask 9) (P.tu.ask 9) num kind) ∧ Below w.heap.size w w' := by
  have HF := hide fun w => ask9 w P
  have HG := hide fun w => ask9 w P.tu
  have HT := hide fun w => turned_pr w P
  have HM := hide fun w => mirror_any w kind num
  generalize P.ask 9 = q1 at *
  generalize P.tu.ask 9 = q2 at *
  obtain ⟨⟨c, b, o1, o2⟩, x, ⟨c', b', p1, p2⟩, y, ff⟩ := P
  unfold Pr.tu at *
  unfold Pr.val vdt vd at *
  dsimp only at *
  generalize mirK kind = mk at *
  obtain ⟨h1, h2, h3, h4⟩ := hp4 w (.cells #[.int .i64 num, .func (.func 37) #[] #[], .int .i64 kind] 57) (.cells #[.int .u64 c, .int .u64 b, .int .u64 o1, .int .u64 o2, .bool x, .int .u64 c', .int .u64 b', .int .u64 p1, .int .u64 p2, .bool y, .bool ff] 52) (.cells #[.int .i64 0, .int .i64 0] 27) (.cells #[.int .i64 kind, .int .i64 num] 27)
  have HR0 := hide h1
  have HP0 := hide h2
  have HS0 := hide h3
  have HV0 := hide h4
  have HB0 := hide (bl4 (Below.refl w.heap.size w) (.cells #[.int .i64 num, .func (.func 37) #[] #[], .int .i64 kind] 57) (.cells #[.int .u64 c, .int .u64 b, .int .u64 o1, .int .u64 o2, .bool x, .int .u64 c', .int .u64 b', .int .u64 p1, .int .u64 p2, .bool y, .bool ff] 52) (.cells #[.int .i64 0, .int .i64 0] 27) (.cells #[.int .i64 kind, .int .i64 num] 27))
  clear h1 h2 h3 h4
  cases q1
  case true =>
    go_enter Try.func15, Try.ntmps15
    go_wp2_with ((go_at_call 37; refine (HF.out _).mono ?_; rintro e w2 ⟨rfl, hb⟩; have HR := hide (hp_below HR0.out hb); have HP := hide (hp_below HP0.out hb); have HS := hide (hp_below HS0.out hb); have HV := hide (hp_below HV0.out hb); have HB := hide (bel_to HB0.out hb); clear hb HR0 HP0 HS0 HV0 HB0 HF; obtain ⟨r0, r1, r2, rx⟩ := hp_cells3 HR.out; obtain ⟨d0, d1, d2, d3, d4, d5, d6, d7, d8, d9, d10, dx⟩ := hp_cells11 HP.out; obtain ⟨s0, s1, sx⟩ := hp_cells2 HS.out; obtain ⟨v0, v1, vx⟩ := hp_cells2 HV.out; have f0 := frozen_of_row _ _ 0 _ _ HS.out; have f1 := frozen_of_row _ _ 1 _ _ HS.out))
    exact bodyPost_ret (results_row_tmp rfl _ _ (w.heap.size + 1 + 1) 27 _ (0, 0) _ rfl (set2 HS.out _ _) Try.underlying27 rfl (by kernel_rfl)) rfl ⟨by first | rfl | simp, bel_set2 HB.out (by omega) _ _⟩
  cases q2
  all_goals
    go_enter Try.func15, Try.ntmps15
    go_wp2_with ((go_at_call 37; refine (HF.out _).mono ?_; rintro e w2 ⟨rfl, hb⟩; have HR := hide (hp_below HR0.out hb); have HP := hide (hp_below HP0.out hb); have HS := hide (hp_below HS0.out hb); have HV := hide (hp_below HV0.out hb); have HB := hide (bel_to HB0.out hb); clear hb HR0 HP0 HS0 HV0 HB0 HF; obtain ⟨r0, r1, r2, rx⟩ := hp_cells3 HR.out; obtain ⟨d0, d1, d2, d3, d4, d5, d6, d7, d8, d9, d10, dx⟩ := hp_cells11 HP.out; obtain ⟨s0, s1, sx⟩ := hp_cells2 HS.out; obtain ⟨v0, v1, vx⟩ := hp_cells2 HV.out; have f0 := frozen_of_row _ _ 0 _ _ HS.out; have f1 := frozen_of_row _ _ 1 _ _ HS.out))
    have HK : Hid (∀ w5, Below w2.heap.size w2 w5 → (w5.cell? ⟨w.heap.size, 1, none⟩ = some (.func (.func 37) #[] #[]) ∧ w5.cell? ⟨w.heap.size + 1, 0, none⟩ = some (.int .u64 c) ∧ w5.cell? ⟨w.heap.size + 1, 1, none⟩ = some (.int .u64 b) ∧ w5.cell? ⟨w.heap.size + 1, 2, none⟩ = some (.int .u64 o1) ∧ w5.cell? ⟨w.heap.size + 1, 3, none⟩ = some (.int .u64 o2) ∧ w5.cell? ⟨w.heap.size + 1, 4, none⟩ = some (.bool x) ∧ w5.cell? ⟨w.heap.size + 1, 5, none⟩ = some (.int .u64 c') ∧ w5.cell? ⟨w.heap.size + 1, 6, none⟩ = some (.int .u64 b') ∧ w5.cell? ⟨w.heap.size + 1, 7, none⟩ = some (.int .u64 p1) ∧ w5.cell? ⟨w.heap.size + 1, 8, none⟩ = some (.int .u64 p2) ∧ w5.cell? ⟨w.heap.size + 1, 9, none⟩ = some (.bool y) ∧ w5.cell? ⟨w.heap.size + 1, 10, none⟩ = some (.bool ff))) := hide fun w5 hb => ⟨(hp_cells3 (hp_below HR.out hb)).2.1, (hp_cells11 (hp_below HP.out hb)).1, (hp_cells11 (hp_below HP.out hb)).2.1, (hp_cells11 (hp_below HP.out hb)).2.2.1, (hp_cells11 (hp_below HP.out hb)).2.2.2.1, (hp_cells11 (hp_below HP.out hb)).2.2.2.2.1, (hp_cells11 (hp_below HP.out hb)).2.2.2.2.2.1, (hp_cells11 (hp_below HP.out hb)).2.2.2.2.2.2.1, (hp_cells11 (hp_below HP.out hb)).2.2.2.2.2.2.2.1, (hp_cells11 (hp_below HP.out hb)).2.2.2.2.2.2.2.2.1, (hp_cells11 (hp_below HP.out hb)).2.2.2.2.2.2.2.2.2.1, (hp_cells11 (hp_below HP.out hb)).2.2.2.2.2.2.2.2.2.2.1⟩
    have HD := hide ((Below.refl w2.heap.size w2).drew)
    go_region_held3 (fun w' => w'.cell? ⟨w.heap.size, 1, none⟩ = some (.func (.func 37) #[] #[]) ∧ w'.cell? ⟨w.heap.size + 1, 0, none⟩ = some (.int .u64 c) ∧ w'.cell? ⟨w.heap.size + 1, 1, none⟩ = some (.int .u64 b) ∧ w'.cell? ⟨w.heap.size + 1, 2, none⟩ = some (.int .u64 o1) ∧ w'.cell? ⟨w.heap.size + 1, 3, none⟩ = some (.int .u64 o2) ∧ w'.cell? ⟨w.heap.size + 1, 4, none⟩ = some (.bool x) ∧ w'.cell? ⟨w.heap.size + 1, 5, none⟩ = some (.int .u64 c') ∧ w'.cell? ⟨w.heap.size + 1, 6, none⟩ = some (.int .u64 b') ∧ w'.cell? ⟨w.heap.size + 1, 7, none⟩ = some (.int .u64 p1) ∧ w'.cell? ⟨w.heap.size + 1, 8, none⟩ = some (.int .u64 p2) ∧ w'.cell? ⟨w.heap.size + 1, 9, none⟩ = some (.bool y) ∧ w'.cell? ⟨w.heap.size + 1, 10, none⟩ = some (.bool ff)) (first | exact ⟨r1, d0, d1, d2, d3, d4, d5, d6, d7, d8, d9, d10⟩ | exact HK.out _ HC.out | exact HK.out _ HE.out)
      (first
        | (go_at_call 42; refine (HT.out _).mono ?_; rintro e w5 ⟨rfl, X, Y, h5⟩; have HC : Hid (Below w2.heap.size w2 w5) := hide (by rw [h5]; exact bel_to HD.out bel_2); clear h5)
        | (go_at_call 37; refine (HG.out _).mono ?_; rintro e w6 ⟨rfl, hb⟩; have HE : Hid (Below w2.heap.size w2 w6) := hide (bel_to HC.out hb); clear hb))
    all_goals
      clear r0 r1 r2 rx d0 d1 d2 d3 d4 d5 d6 d7 d8 d9 d10 dx s0 s1 sx v0 v1 vx f0 f1
      have HR6 := hide (hp_below HR.out HE.out)
      have HP6 := hide (hp_below HP.out HE.out)
      have HS6 := hide (hp_below HS.out HE.out)
      have HV6 := hide (hp_below HV.out HE.out)
      have HB6 := hide (bel_to HB.out HE.out)
      obtain ⟨r0, r1, r2, rx⟩ := hp_cells3 HR6.out
      obtain ⟨d0, d1, d2, d3, d4, d5, d6, d7, d8, d9, d10, dx⟩ := hp_cells11 HP6.out
      obtain ⟨s0, s1, sx⟩ := hp_cells2 HS6.out
      obtain ⟨v0, v1, vx⟩ := hp_cells2 HV6.out
      have f0 := frozen_of_row _ _ 0 _ _ HS6.out
      have f1 := frozen_of_row _ _ 1 _ _ HS6.out
      go_wp2_with ((go_at_call 7; refine (HM.out _).mono ?_; rintro e w7 ⟨rfl, A1, A2, rfl⟩))
      first
        | exact bodyPost_ret (results_row_tmp rfl _ _ (w.heap.size + 1 + 1) 27 _ (0, 0) _ rfl (set2 HS6.out _ _) Try.underlying27 rfl (by kernel_rfl)) rfl ⟨by first | rfl | simp, bel_set2 HB6.out (by omega) _ _⟩
        | exact bodyPost_ret (results_row_tmp rfl _ _ (w.heap.size + 1 + 1) 27 _ (0, 0) _ rfl (hp_alloc2 (set2 HS6.out _ _) _ _) Try.underlying27 rfl (by kernel_rfl)) rfl ⟨by first | rfl | simp, bl2 (bel_set2 HB6.out (by omega) _ _) _ _⟩
end Go.Proofs.Ytlmfdbimchhjjab
