import Derived.Test.YtlmfdbimchhjjaaIdRRes1
import Derived.Test.YtlmfdbimchhjjaaIdRRes2
import Derived.Test.YtlmfdbimchhjjaaIdRRes3
namespace Go.Proofs.Ytlmfdbimchhjjaa
open Go.RowKit
set_option linter.unusedVariables false
set_option linter.unusedSimpArgs false
set_option maxRecDepth 20000

theorem resv_gl (k r n s0 s1 s2 ro rp mo mp : Int) (d e : Bool) (g1 : okK k = true) (g2 : n = 0 ∨ n = 1) (g3 : ¬ mo < 0) (g4 : ¬ mp < 0) (g5 : okP s0 s1 s2 = true) (g6 : okR ro = true) (g7 : okR rp = true) (g8 : isSp k = true) :
    resv k r n s0 s1 s2 ro rp mo mp d e = if gl d e ro rp s1 (spOf n s0 s1 ro rp mo mp d e).wop = 0 then (k, r, 0) else (rk (gl d e ro rp s1 (spOf n s0 s1 ro rp mo mp d e).wop == 2) (isFu k), gr d e ro rp, 0) := by
  unfold resv
  rw [if_neg (by simp [g1, g2]; omega), if_neg (by simp [g5, g6, g7]), if_neg (by simp [g8]), (gup_gl _).1, (gup_gl _).2]
  rfl
theorem rresolve_any (w : World) (k r n s0 s1 s2 ro rp mo mp fo fp : Int)  : Calls Try.prog 17 #[vd k r, .int .i64 n, .int .i64 s0, .int .i64 s1, .int .i64 s2, .int .i64 ro, .int .i64 rp, .int .i64 mo, .int .i64 mp, .int .u32 fo, .int .u32 fp] w fun e w' => e = .returned (setV (resv k r n s0 s1 s2 ro rp mo mp (fd fo) (fd fp))) ∧ Below w.heap.size w w' := by
  by_cases h1 : okK k = false ∨ ¬ (n = 0 ∨ n = 1) ∨ mo < 0 ∨ mp < 0
  · exact rres_1 w k r n s0 s1 s2 ro rp mo mp fo fp h1
  have g1 : okK k = true := by
    cases e : okK k
    · exact absurd (Or.inl e) h1
    · rfl
  have g2 : n = 0 ∨ n = 1 := by omega
  have g3 : ¬ mo < 0 := fun e => h1 (Or.inr (Or.inr (Or.inl e)))
  have g4 : ¬ mp < 0 := fun e => h1 (Or.inr (Or.inr (Or.inr e)))
  by_cases h2 : okP s0 s1 s2 = false ∨ okR ro = false ∨ okR rp = false
  · exact rres_61 w k r n s0 s1 s2 ro rp mo mp fo fp g1 g2 g3 g4 h2
  have g5 : okP s0 s1 s2 = true := by
    cases e : okP s0 s1 s2
    · exact absurd (Or.inl e) h2
    · rfl
  have g6 : okR ro = true := by
    cases e : okR ro
    · exact absurd (Or.inr (Or.inl e)) h2
    · rfl
  have g7 : okR rp = true := by
    cases e : okR rp
    · exact absurd (Or.inr (Or.inr e)) h2
    · rfl
  cases g8 : isSp k with
  | false => exact rres_C w k r n s0 s1 s2 ro rp mo mp fo fp g1 g2 g3 g4 g5 g6 g7 g8
  | true =>
    have q1 : 0 ≤ k ∧ k ≤ 7 := by simpa [okK] using g1
    have n1 : ¬ k < 0 := by omega
    have n2 : ¬ 7 < k := by omega
    have n3 : ¬ n < 0 := by omega
    have n4 : ¬ 1 < n := by omega
    rw [resv_gl k r n s0 s1 s2 ro rp mo mp _ _ g1 g2 g3 g4 g5 g6 g7 g8]
    have H1 := hide fun w => wrong_0 w k r n s0 s1 s2 ro rp mo mp n1 n2 n3 n4 g3 g4 g5 g6 g7
    have H2 := hide fun w => by0_any w (spOf n s0 s1 ro rp mo mp (fd fo) (fd fp)) g2 g3 g4
    have H2 : Hid (∀ w, Calls Try.prog 35 #[.int .i64 s0, .int .i64 n, .int .i64 mo, .int .i64 mp] w fun e w' => e = .returned (.int .i64 ((spOf n s0 s1 ro rp mo mp (fd fo) (fd fp)).wop - 1)) ∧ w' = w) := H2
    have hq := wop_cases (spOf n s0 s1 ro rp mo mp (fd fo) (fd fp))
    have hs : s1 = 0 ∨ s1 = 5 ∨ s1 = 6 := by
      simp only [okP, decide_eq_true_eq] at g5
      exact g5.2.2.1
    have hk : k = 5 ∨ k = 6 := by simpa [isSp] using g8
    have h6 : ro = 0 ∨ ro = 1 := by simpa [okR] using g6
    have h7 : rp = 0 ∨ rp = 1 := by simpa [okR] using g7
    generalize (spOf n s0 s1 ro rp mo mp (fd fo) (fd fp)).wop = q at *
    clear g1 g2 g3 g4 g5 g6 g7 g8 q1 n1 n2 n3 n4 h1 h2
    have hfo : Hid ((bits BinOp.and IntKind.u32 fo 16 != 0) = fd fo) := hide rfl
    have hfp : Hid ((bits BinOp.and IntKind.u32 fp 16 != 0) = fd fp) := hide rfl
    generalize fd fo = d at *
    generalize fd fp = e at *
    have hfo := hfo.out
    have hfp := hfp.out
    rcases hk with rfl | rfl
    · cases d <;> cases e <;> rcases h6 with rfl | rfl <;> rcases h7 with rfl | rfl
      · rcases hq with rfl | rfl | rfl
        · exact rres_0000q0_5 w r n s0 s1 s2 mo mp fo fp hfo hfp H1 H2
        · exact rres_0000q1_5 w r n s0 s1 s2 mo mp fo fp hfo hfp H1 H2
        · exact rres_0000q2_5 w r n s0 s1 s2 mo mp fo fp hfo hfp H1 H2
      · rcases hs with rfl | rfl | rfl
        · exact rres_0001s0_5 w r n s0 s2 mo mp fo fp q hfo hfp H1 H2
        · exact rres_0001s5_5 w r n s0 s2 mo mp fo fp q hfo hfp H1 H2
        · by_cases hq3 : q = 1
          · subst hq3
            exact rres_0001s6y_5 w r n s0 s2 mo mp fo fp hfo hfp H1 H2
          · exact rres_0001s6n_5 w r n s0 s2 mo mp fo fp q hfo hfp H1 H2 hq3 (by omega)
      · rcases hs with rfl | rfl | rfl
        · exact rres_0010s0_5 w r n s0 s2 mo mp fo fp q hfo hfp H1 H2
        · exact rres_0010s5_5 w r n s0 s2 mo mp fo fp q hfo hfp H1 H2
        · by_cases hq3 : q = 2
          · subst hq3
            exact rres_0010s6y_5 w r n s0 s2 mo mp fo fp hfo hfp H1 H2
          · exact rres_0010s6n_5 w r n s0 s2 mo mp fo fp q hfo hfp H1 H2 hq3 (by omega)
      · exact rres_0011_5 w r n s0 s1 s2 mo mp fo fp q hfo hfp H1 H2
      · exact rres_0100_5 w r n s0 s1 s2 mo mp fo fp q hfo hfp H1 H2
      · rcases hs with rfl | rfl | rfl
        · exact rres_0101s0_5 w r n s0 s2 mo mp fo fp q hfo hfp H1 H2
        · exact rres_0101s5_5 w r n s0 s2 mo mp fo fp q hfo hfp H1 H2
        · by_cases hq3 : q = 1
          · subst hq3
            exact rres_0101s6y_5 w r n s0 s2 mo mp fo fp hfo hfp H1 H2
          · exact rres_0101s6n_5 w r n s0 s2 mo mp fo fp q hfo hfp H1 H2 hq3 (by omega)
      · exact rres_0110_5 w r n s0 s1 s2 mo mp fo fp q hfo hfp H1 H2
      · exact rres_0111_5 w r n s0 s1 s2 mo mp fo fp q hfo hfp H1 H2
      · exact rres_1000_5 w r n s0 s1 s2 mo mp fo fp q hfo hfp H1 H2
      · exact rres_1001_5 w r n s0 s1 s2 mo mp fo fp q hfo hfp H1 H2
      · rcases hs with rfl | rfl | rfl
        · exact rres_1010s0_5 w r n s0 s2 mo mp fo fp q hfo hfp H1 H2
        · exact rres_1010s5_5 w r n s0 s2 mo mp fo fp q hfo hfp H1 H2
        · by_cases hq3 : q = 2
          · subst hq3
            exact rres_1010s6y_5 w r n s0 s2 mo mp fo fp hfo hfp H1 H2
          · exact rres_1010s6n_5 w r n s0 s2 mo mp fo fp q hfo hfp H1 H2 hq3 (by omega)
      · exact rres_1011_5 w r n s0 s1 s2 mo mp fo fp q hfo hfp H1 H2
      · rcases hq with rfl | rfl | rfl
        · exact rres_1100q0_5 w r n s0 s1 s2 mo mp fo fp hfo hfp H1 H2
        · exact rres_1100q1_5 w r n s0 s1 s2 mo mp fo fp hfo hfp H1 H2
        · exact rres_1100q2_5 w r n s0 s1 s2 mo mp fo fp hfo hfp H1 H2
      · rcases hs with rfl | rfl | rfl
        · exact rres_1101s0_5 w r n s0 s2 mo mp fo fp q hfo hfp H1 H2
        · exact rres_1101s5_5 w r n s0 s2 mo mp fo fp q hfo hfp H1 H2
        · by_cases hq3 : q = 1
          · subst hq3
            exact rres_1101s6y_5 w r n s0 s2 mo mp fo fp hfo hfp H1 H2
          · exact rres_1101s6n_5 w r n s0 s2 mo mp fo fp q hfo hfp H1 H2 hq3 (by omega)
      · rcases hs with rfl | rfl | rfl
        · exact rres_1110s0_5 w r n s0 s2 mo mp fo fp q hfo hfp H1 H2
        · exact rres_1110s5_5 w r n s0 s2 mo mp fo fp q hfo hfp H1 H2
        · by_cases hq3 : q = 2
          · subst hq3
            exact rres_1110s6y_5 w r n s0 s2 mo mp fo fp hfo hfp H1 H2
          · exact rres_1110s6n_5 w r n s0 s2 mo mp fo fp q hfo hfp H1 H2 hq3 (by omega)
      · exact rres_1111_5 w r n s0 s1 s2 mo mp fo fp q hfo hfp H1 H2
    · cases d <;> cases e <;> rcases h6 with rfl | rfl <;> rcases h7 with rfl | rfl
      · rcases hq with rfl | rfl | rfl
        · exact rres_0000q0_6 w r n s0 s1 s2 mo mp fo fp hfo hfp H1 H2
        · exact rres_0000q1_6 w r n s0 s1 s2 mo mp fo fp hfo hfp H1 H2
        · exact rres_0000q2_6 w r n s0 s1 s2 mo mp fo fp hfo hfp H1 H2
      · rcases hs with rfl | rfl | rfl
        · exact rres_0001s0_6 w r n s0 s2 mo mp fo fp q hfo hfp H1 H2
        · exact rres_0001s5_6 w r n s0 s2 mo mp fo fp q hfo hfp H1 H2
        · by_cases hq3 : q = 1
          · subst hq3
            exact rres_0001s6y_6 w r n s0 s2 mo mp fo fp hfo hfp H1 H2
          · exact rres_0001s6n_6 w r n s0 s2 mo mp fo fp q hfo hfp H1 H2 hq3 (by omega)
      · rcases hs with rfl | rfl | rfl
        · exact rres_0010s0_6 w r n s0 s2 mo mp fo fp q hfo hfp H1 H2
        · exact rres_0010s5_6 w r n s0 s2 mo mp fo fp q hfo hfp H1 H2
        · by_cases hq3 : q = 2
          · subst hq3
            exact rres_0010s6y_6 w r n s0 s2 mo mp fo fp hfo hfp H1 H2
          · exact rres_0010s6n_6 w r n s0 s2 mo mp fo fp q hfo hfp H1 H2 hq3 (by omega)
      · exact rres_0011_6 w r n s0 s1 s2 mo mp fo fp q hfo hfp H1 H2
      · exact rres_0100_6 w r n s0 s1 s2 mo mp fo fp q hfo hfp H1 H2
      · rcases hs with rfl | rfl | rfl
        · exact rres_0101s0_6 w r n s0 s2 mo mp fo fp q hfo hfp H1 H2
        · exact rres_0101s5_6 w r n s0 s2 mo mp fo fp q hfo hfp H1 H2
        · by_cases hq3 : q = 1
          · subst hq3
            exact rres_0101s6y_6 w r n s0 s2 mo mp fo fp hfo hfp H1 H2
          · exact rres_0101s6n_6 w r n s0 s2 mo mp fo fp q hfo hfp H1 H2 hq3 (by omega)
      · exact rres_0110_6 w r n s0 s1 s2 mo mp fo fp q hfo hfp H1 H2
      · exact rres_0111_6 w r n s0 s1 s2 mo mp fo fp q hfo hfp H1 H2
      · exact rres_1000_6 w r n s0 s1 s2 mo mp fo fp q hfo hfp H1 H2
      · exact rres_1001_6 w r n s0 s1 s2 mo mp fo fp q hfo hfp H1 H2
      · rcases hs with rfl | rfl | rfl
        · exact rres_1010s0_6 w r n s0 s2 mo mp fo fp q hfo hfp H1 H2
        · exact rres_1010s5_6 w r n s0 s2 mo mp fo fp q hfo hfp H1 H2
        · by_cases hq3 : q = 2
          · subst hq3
            exact rres_1010s6y_6 w r n s0 s2 mo mp fo fp hfo hfp H1 H2
          · exact rres_1010s6n_6 w r n s0 s2 mo mp fo fp q hfo hfp H1 H2 hq3 (by omega)
      · exact rres_1011_6 w r n s0 s1 s2 mo mp fo fp q hfo hfp H1 H2
      · rcases hq with rfl | rfl | rfl
        · exact rres_1100q0_6 w r n s0 s1 s2 mo mp fo fp hfo hfp H1 H2
        · exact rres_1100q1_6 w r n s0 s1 s2 mo mp fo fp hfo hfp H1 H2
        · exact rres_1100q2_6 w r n s0 s1 s2 mo mp fo fp hfo hfp H1 H2
      · rcases hs with rfl | rfl | rfl
        · exact rres_1101s0_6 w r n s0 s2 mo mp fo fp q hfo hfp H1 H2
        · exact rres_1101s5_6 w r n s0 s2 mo mp fo fp q hfo hfp H1 H2
        · by_cases hq3 : q = 1
          · subst hq3
            exact rres_1101s6y_6 w r n s0 s2 mo mp fo fp hfo hfp H1 H2
          · exact rres_1101s6n_6 w r n s0 s2 mo mp fo fp q hfo hfp H1 H2 hq3 (by omega)
      · rcases hs with rfl | rfl | rfl
        · exact rres_1110s0_6 w r n s0 s2 mo mp fo fp q hfo hfp H1 H2
        · exact rres_1110s5_6 w r n s0 s2 mo mp fo fp q hfo hfp H1 H2
        · by_cases hq3 : q = 2
          · subst hq3
            exact rres_1110s6y_6 w r n s0 s2 mo mp fo fp hfo hfp H1 H2
          · exact rres_1110s6n_6 w r n s0 s2 mo mp fo fp q hfo hfp H1 H2 hq3 (by omega)
      · exact rres_1111_6 w r n s0 s1 s2 mo mp fo fp q hfo hfp H1 H2
end Go.Proofs.Ytlmfdbimchhjjaa
