import Derived.Test.YtlmfdbimchhjjaaIdSet
import Derived.Test.YtlmfdbimchhjjaaIdSetR
import Derived.Test.YtlmfdbimchhjjaaIdHp
namespace Go.Proofs.Ytlmfdbimchhjjaa
open Go.RowKit
set_option linter.unusedVariables false
set_option linter.unusedSimpArgs false
set_option maxRecDepth 20000

theorem settle_any (w : World) (k r o p : Int) : Calls Try.prog 10 #[vd k r, .int .i64 o, .int .i64 p] w fun e w' => e = .returned (setV (setl k r o p)) ∧ Below w.heap.size w w' := by
  cases h1 : okK k with
  | false => exact settle_bad w k r o p (Or.inl h1)
  | true =>
    cases h2 : okD o with
    | false => exact settle_bad w k r o p (Or.inr (Or.inl h2))
    | true =>
      cases h3 : okD p with
      | false => exact settle_bad w k r o p (Or.inr (Or.inr h3))
      | true => exact settle_good w k r o p h1 h2 h3
theorem settlesLaw (w : World) (k r o p : Int) : Calls Try.prog 4 #[vd k r, .int .i64 o, .int .i64 p] w fun e w' => e = .returned (.bool true) ∧ Below w.heap.size w w' := by
  have H1 := hide fun w => settle_any w k r o p
  have H2 := hide fun w => rsettle_any w k r o p
  have H3 := hide fun w => mirror_any w k r
  have H4 := hide fun w => rmirror_any w k r
  generalize setl k r o p = x at *
  obtain ⟨ak, ar, ae⟩ := x
  generalize mirK k = mk at *
  unfold setV vd at *
  dsimp only at *
  have HP0 := hide (hp_new w (.cells #[.int .i64 k, .int .i64 r] 26))
  have HB0 := hide (bl1 (Below.refl w.heap.size w) (.cells #[.int .i64 k, .int .i64 r] 26))
  go_enter Try.func4, Try.ntmps4
  go_wp2_with (first
      | (go_at_call 10; refine (H1.out _).mono ?_; rintro e w2 ⟨rfl, hb2⟩; have HP1 := hide (hp_below HP0.out hb2); have HB1 := hide (bel_to HB0.out hb2); obtain ⟨c0, c1, c2⟩ := hp_cells2 HP1.out; clear hb2 HP0 HB0 H1)
      | (go_at_call 11; refine (H2.out _).mono ?_; rintro e w3 ⟨rfl, hb3⟩; have HP2 := hide (hp_below (hp_alloc HP1.out _) hb3); have HA2 := hide (hp_below (hp_new w2 _) hb3); have HB2 := hide (bel_to (bl1 HB1.out _) hb3); obtain ⟨d0, d1, d2⟩ := hp_cells2 HP2.out; obtain ⟨e0, e1, e2⟩ := hp_cells2 HA2.out; clear hb3 HP1 HB1 H2)
      | (go_at_call 12; refine (H3.out _).mono ?_; rintro e w4 ⟨rfl, X, Y, rfl⟩)
      | (go_at_call 13; refine (H4.out _).mono ?_; rintro e w4 ⟨rfl, Z, U, V, rfl⟩))
  have HA := hide (hp_alloc HA2.out (.cells #[.int .i64 ak, .int .i64 ar] 26))
  have HV := hide (hp_alloc HP2.out (.cells #[.int .i64 ak, .int .i64 ar] 26))
  have HN := hide (hp_new w3 (.cells #[.int .i64 ak, .int .i64 ar] 26))
  have HBB := hide (bl1 HB2.out (.cells #[.int .i64 ak, .int .i64 ar] 26))
  generalize (w3.alloc (.cells #[.int .i64 ak, .int .i64 ar] 26)) = w4 at *
  generalize w3.heap.size = g3 at *
  generalize w2.heap.size = g2 at *
  clear HA2 HP2 HB2 d0 d1 d2 e0 e1 e2 c0 c1 c2
  obtain ⟨d0, d1, d2⟩ := hp_cells2 HV.out
  obtain ⟨e0, e1, e2⟩ := hp_cells2 HA.out
  obtain ⟨f0, f1, f2⟩ := hp_cells2 HN.out
  have HK : Hid (∀ w5, Below w4.heap.size w4 w5 → (w5.cell? ⟨w.heap.size, 0, none⟩ = some (.int .i64 k) ∧ w5.cell? ⟨w.heap.size, 1, none⟩ = some (.int .i64 r) ∧ w5.cell? ⟨g2, 0, none⟩ = some (.int .i64 ak) ∧ w5.cell? ⟨g2, 1, none⟩ = some (.int .i64 ar) ∧ w5.cell? ⟨g3, 0, none⟩ = some (.int .i64 ak) ∧ w5.cell? ⟨g3, 1, none⟩ = some (.int .i64 ar))) := hide fun w5 hb =>
    ⟨(hp_cells2 (hp_below HV.out hb)).1, (hp_cells2 (hp_below HV.out hb)).2.1, (hp_cells2 (hp_below HA.out hb)).1, (hp_cells2 (hp_below HA.out hb)).2.1, (hp_cells2 (hp_below HN.out hb)).1, (hp_cells2 (hp_below HN.out hb)).2.1⟩
  have HD := hide ((Below.refl w4.heap.size w4).drew)
  go_region_held3 (fun w' => w'.cell? ⟨w.heap.size, 0, none⟩ = some (.int .i64 k) ∧ w'.cell? ⟨w.heap.size, 1, none⟩ = some (.int .i64 r) ∧ w'.cell? ⟨g2, 0, none⟩ = some (.int .i64 ak) ∧ w'.cell? ⟨g2, 1, none⟩ = some (.int .i64 ar) ∧ w'.cell? ⟨g3, 0, none⟩ = some (.int .i64 ak) ∧ w'.cell? ⟨g3, 1, none⟩ = some (.int .i64 ar)) (first | exact ⟨d0, d1, e0, e1, f0, f1⟩ | exact HK.out _ HC.out | exact HK.out _ HE.out)
    (first
      | (go_at_call 12; refine (H3.out _).mono ?_; rintro e w5 ⟨rfl, X, Y, h5⟩; have HC : Hid (Below w4.heap.size w4 w5) := hide (by rw [h5]; exact bel_to HD.out bel_2); clear h5)
      | (go_at_call 13; refine (H4.out _).mono ?_; rintro e w6 ⟨rfl, X, Y, Z, h6⟩; have HE : Hid (Below w4.heap.size w4 w6) := hide (by rw [h6]; exact bl1 (bel_to HC.out bel_2) _); clear h6))
  all_goals
    go_wp2_with fail
    go_ret
    exact ⟨by first | rfl | simp, bel_to HBB.out HE.out⟩
end Go.Proofs.Ytlmfdbimchhjjaa
