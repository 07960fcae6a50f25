import Derived.Test.YtijfnacplikibaaKCal
import Derived.Test.YtijfnacplikibaaKNew
import Derived.Test.YtijfnacplikibaaKBook
import Derived.Test.YtijfnacplikibaaKOps
namespace Go.Proofs.Ytijfnacplikibaa
open Go.RowKit
set_option linter.unusedVariables false
set_option linter.unusedSimpArgs false
set_option maxRecDepth 20000

set_option maxHeartbeats 1000000 in
theorem may_any (w : World) (a b : Int) : Calls Try.prog 9 #[.agg #[.int .i64 a, .int .i64 b]] w fun e w' => e = .returned (.bool (okN a b)) ∧ Below w.heap.size w w' := by
  have HB := hide ((Below.refl w.heap.size w).alloc (Nat.le_refl _) (.cells #[.int .i64 a, .int .i64 b] 23))
  cases h : okN a b with
  | true =>
    obtain ⟨h1, h2, h3, h4⟩ := okN_yes h
    clear h
    go_enter Try.func9, Try.ntmps9
    go_wp2_with fail
    try go_quiet (fail)
    try go_wp2_with fail
    go_ret
    exact ⟨by simp [h1, h2, h3, h4], by first | exact HB.out | exact below_drewN HB.out _⟩
  | false =>
    rcases okN_no h with h1 | ⟨h1, h2⟩ | ⟨h1, h2, h3⟩ | ⟨h1, h2, h3, h4⟩
    all_goals
      clear h
      go_enter Try.func9, Try.ntmps9
      go_wp2_with fail
      try go_quiet (fail)
      try go_wp2_with fail
      go_ret
      refine ⟨?_, by first | exact HB.out | exact below_drewN HB.out _⟩
      first | rfl | (simp; done) | (congr 2; done) | (congr 2; simp; omega)
def nilVV : Nat → Value := fun _ => .slice none 0 0
def nilLL : LL := fun _ => []
theorem wf_nil (n : Nat) {ws : Int} (h : 0 ≤ ws ∧ ws ≤ 512) : WF n nilLL ws 0 0 := ⟨h, by
    have : ∀ k, rowsum nilLL k = 0 := fun k => by
      induction k with
      | zero => rfl
      | succ k ih => rw [rowsum, ih]; rfl
    rw [this]; rfl, h.1, fun e => by simp [nilLL]⟩
theorem ok_nil (n : Nat) : Ok n nilLL := fun e _ => ok1_nil
set_option maxHeartbeats 1000000 in
theorem table_any (w : World) (n : Nat) (b : Int) (h : okN n b = true) : Calls Try.prog 10 #[.agg #[.int .i64 (n : Int), .int .i64 b]] w fun e w' => ∃ p b', e = .returned (.pointer (some ⟨p, 0, none⟩)) ∧ TRep w' p b' 0 n nilVV nilLL b 0 ∧ Below w.heap.size w w' ∧ w.heap.size ≤ p ∧ w.heap.size ≤ b' := by
  have HB := hide ((Below.refl w.heap.size w).alloc (Nat.le_refl _) (.cells #[.int .i64 (n : Int), .int .i64 b] 23))
  have HK := hide fun x => kNew_yes x n b h
  have HN := hide fun x => num_any x 0
  clear h
  go_enter Try.func10, Try.ntmps10
  go_wp2_with (first
    | (go_at_call 25; refine (HK.out _).mono ?_; rintro e' w2 ⟨p, b', rfl, hT, hb, h1, h2⟩; have HT := hide hT; have HB2 := hide (HB.out.trans (hb.mono (by simp))); have H1 := hide h1; have H2 := hide h2; clear HK hT hb h1 h2)
    | (go_at_call 15; refine (HN.out _).mono ?_; rintro e' w3 ⟨rfl, hw3⟩; have hw4 := hw3.symm; clear hw3; subst hw4))
  go_ret
  refine ⟨p, b', rfl, HT.out, HB2.out, ?_, ?_⟩
  · have := H1.out; rw [World.size_alloc] at this; omega
  · have := H2.out; rw [World.size_alloc] at this; omega
end Go.Proofs.Ytijfnacplikibaa
