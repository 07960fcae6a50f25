import Derived.Test.YtlmfdbimchhjjaaIdRm
import Derived.Test.YtlmfdbimchhjjaaIdRRes4
namespace Go.Proofs.Ytlmfdbimchhjjaa
open Go.RowKit
set_option linter.unusedVariables false
set_option linter.unusedSimpArgs false
set_option maxRecDepth 20000

theorem resolvesLaw (w : World) (k r n s0 s1 s2 ro rp mo mp fo fp : Int) : Calls Try.prog 7 #[.agg #[.int .i64 k, .int .i64 r, .int .i64 n, .int .i64 s0, .int .i64 s1, .int .i64 s2, .int .i64 ro, .int .i64 rp, .int .i64 mo, .int .i64 mp, .int .u32 fo, .int .u32 fp]] w fun e w' => e = .returned (.bool true) ∧ Below w.heap.size w w' := by
  have H1 := hide fun w => resolveM_any w k r n s0 s1 s2 ro rp mo mp fo fp
  have H2 := hide fun w => rresolve_any w k r n s0 s1 s2 ro rp mo mp fo fp
  generalize resv k r n s0 s1 s2 ro rp mo mp (fd fo) (fd fp) = x at *
  obtain ⟨ak, ar, ae⟩ := x
  unfold setV vd at *
  dsimp only at *
  have HP0 := hide (hp_new w (.cells #[.int .i64 k, .int .i64 r, .int .i64 n, .int .i64 s0, .int .i64 s1, .int .i64 s2, .int .i64 ro, .int .i64 rp, .int .i64 mo, .int .i64 mp, .int .u32 fo, .int .u32 fp] 36))
  have HB0 := hide (bl1 (Below.refl w.heap.size w) (.cells #[.int .i64 k, .int .i64 r, .int .i64 n, .int .i64 s0, .int .i64 s1, .int .i64 s2, .int .i64 ro, .int .i64 rp, .int .i64 mo, .int .i64 mp, .int .u32 fo, .int .u32 fp] 36))
  go_enter Try.func7, Try.ntmps7
  go_wp2_with (first
      | (go_at_call 16; refine (H1.out _).mono ?_; rintro e w2 ⟨rfl, hb2⟩; have HP1 := hide (hp_below HP0.out hb2); have HB1 := hide (bel_to HB0.out hb2); obtain ⟨c0, c1, c2, c3, c4, c5, c6, c7, c8, c9, c10, c11, c12⟩ := hp_cells12 HP1.out; clear hb2 HP0 HB0 H1)
      | (go_at_call 17; refine (H2.out _).mono ?_; rintro e w3 ⟨rfl, hb3⟩; have HA2 := hide (hp_below (hp_new w2 _) hb3); have HB2 := hide (bel_to (bl1 HB1.out _) hb3); obtain ⟨e0, e1, e2⟩ := hp_cells2 HA2.out; clear hb3 HP1 HB1 H2))
  all_goals
    go_ret
    exact ⟨by first | rfl | simp, by first | exact HB2.out | exact bl1 HB2.out _⟩
end Go.Proofs.Ytlmfdbimchhjjaa
