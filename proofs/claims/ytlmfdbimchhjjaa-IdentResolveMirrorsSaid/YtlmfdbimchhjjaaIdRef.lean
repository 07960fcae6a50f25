import Derived.Test.YtlmfdbimchhjjaaIdRes2
namespace Go.Proofs.Ytlmfdbimchhjjaa
open Go.RowKit
set_option linter.unusedVariables false
set_option linter.unusedSimpArgs false
set_option maxRecDepth 20000

theorem wrong_1 (w : World) (k r n s0 s1 s2 ro rp mo mp : Int) (h : okK k = false ∨ ¬ (n = 0 ∨ n = 1) ∨ mo < 0 ∨ mp < 0) : Calls Try.prog 34 #[vd k r, .int .i64 n, .int .i64 s0, .int .i64 s1, .int .i64 s2, .int .i64 ro, .int .i64 rp, .int .i64 mo, .int .i64 mp] w fun e w' => e = .returned (.int .i64 1) ∧ ∃ X, w' = w.alloc X := by
  simp only [okK, decide_eq_false_iff_not] at h
  unfold vd
  by_cases c0 : k < 0
  · clear h
    go_enter Try.func34, Try.ntmps34
    go_wp2_with fail
    go_ret
    exact ⟨by first | rfl | simp, _, rfl⟩
  by_cases c1 : 7 < k
  · clear h
    go_enter Try.func34, Try.ntmps34
    go_wp2_with fail
    go_ret
    exact ⟨by first | rfl | simp, _, rfl⟩
  by_cases c2 : n < 0
  · clear h
    go_enter Try.func34, Try.ntmps34
    go_wp2_with fail
    go_ret
    exact ⟨by first | rfl | simp, _, rfl⟩
  by_cases c3 : 1 < n
  · clear h
    go_enter Try.func34, Try.ntmps34
    go_wp2_with fail
    go_ret
    exact ⟨by first | rfl | simp, _, rfl⟩
  by_cases c4 : mo < 0
  · clear h
    go_enter Try.func34, Try.ntmps34
    go_wp2_with fail
    go_ret
    exact ⟨by first | rfl | simp, _, rfl⟩
  have c5 : mp < 0 := by omega
  clear h
  go_enter Try.func34, Try.ntmps34
  go_wp2_with fail
  go_ret
  exact ⟨by first | rfl | simp, _, rfl⟩
theorem wrong_61 (w : World) (k r n s0 s1 s2 ro rp mo mp : Int) (h1 : ¬ k < 0) (h2 : ¬ 7 < k) (h3 : ¬ n < 0) (h4 : ¬ 1 < n) (h5 : ¬ mo < 0) (h6 : ¬ mp < 0) (h : okP s0 s1 s2 = false ∨ okR ro = false ∨ okR rp = false) : Calls Try.prog 34 #[vd k r, .int .i64 n, .int .i64 s0, .int .i64 s1, .int .i64 s2, .int .i64 ro, .int .i64 rp, .int .i64 mo, .int .i64 mp] w fun e w' => e = .returned (.int .i64 61) ∧ ∃ X, w' = w.alloc X := by
  simp only [okP, okR, decide_eq_false_iff_not] at h
  unfold vd
  by_cases c0 : s0 < 0
  · clear h
    go_enter Try.func34, Try.ntmps34
    go_wp2_with fail
    go_ret
    exact ⟨by first | rfl | simp, _, rfl⟩
  by_cases c1 : 4 < s0
  · clear h
    go_enter Try.func34, Try.ntmps34
    go_wp2_with fail
    go_ret
    exact ⟨by first | rfl | simp, _, rfl⟩
  by_cases c2 : ¬ s1 = 0 ∧ ¬ s1 = 5 ∧ ¬ s1 = 6
  · obtain ⟨x1, x2, x3⟩ := c2
    clear h
    go_enter Try.func34, Try.ntmps34
    go_wp2_with fail
    go_ret
    exact ⟨by first | rfl | simp, _, rfl⟩
  have x : s1 = 0 ∨ s1 = 5 ∨ s1 = 6 := by omega
  by_cases c3 : s2 = 0
  case neg =>
    clear h c2
    rcases x with rfl | rfl | rfl
    all_goals
      go_enter Try.func34, Try.ntmps34
      go_wp2_with fail
      go_ret
      exact ⟨by first | rfl | simp, _, rfl⟩
  subst c3
  by_cases d0 : ro < 0
  · clear h c2
    rcases x with rfl | rfl | rfl
    all_goals
      go_enter Try.func34, Try.ntmps34
      go_wp2_with fail
      go_ret
      exact ⟨by first | rfl | simp, _, rfl⟩
  by_cases d1 : 1 < ro
  · clear h c2
    rcases x with rfl | rfl | rfl
    all_goals
      go_enter Try.func34, Try.ntmps34
      go_wp2_with fail
      go_ret
      exact ⟨by first | rfl | simp, _, rfl⟩
  by_cases d2 : rp < 0
  · clear h c2
    rcases x with rfl | rfl | rfl
    all_goals
      go_enter Try.func34, Try.ntmps34
      go_wp2_with fail
      go_ret
      exact ⟨by first | rfl | simp, _, rfl⟩
  have d3 : 1 < rp := by omega
  clear h c2
  rcases x with rfl | rfl | rfl
  all_goals
    go_enter Try.func34, Try.ntmps34
    go_wp2_with fail
    go_ret
    exact ⟨by first | rfl | simp, _, rfl⟩
theorem wrong_0 (w : World) (k r n s0 s1 s2 ro rp mo mp : Int) (h1 : ¬ k < 0) (h2 : ¬ 7 < k) (h3 : ¬ n < 0) (h4 : ¬ 1 < n) (h5 : ¬ mo < 0) (h6 : ¬ mp < 0) (h : okP s0 s1 s2 = true) (h7 : okR ro = true) (h8 : okR rp = true) : Calls Try.prog 34 #[vd k r, .int .i64 n, .int .i64 s0, .int .i64 s1, .int .i64 s2, .int .i64 ro, .int .i64 rp, .int .i64 mo, .int .i64 mp] w fun e w' => e = .returned (.int .i64 0) ∧ ∃ X, w' = w.alloc X := by
  simp only [okP, okR, decide_eq_true_eq] at h h7 h8
  unfold vd
  obtain ⟨p1, p2, x, rfl⟩ := h
  have q1 : ¬ s0 < 0 := by omega
  have q2 : ¬ 4 < s0 := by omega
  rcases x with rfl | rfl | rfl <;> rcases h7 with rfl | rfl <;> rcases h8 with rfl | rfl
  all_goals
    go_enter Try.func34, Try.ntmps34
    go_wp2_with fail
    go_ret
    exact ⟨by first | rfl | simp, _, rfl⟩
theorem by0_any (w : World) (s : Sp) (hn : s.n = 0 ∨ s.n = 1) (h1 : ¬ s.mo < 0) (h2 : ¬ s.mp < 0) : Calls Try.prog 35 #[.int .i64 s.s0, .int .i64 s.n, .int .i64 s.mo, .int .i64 s.mp] w fun e w' => e = .returned (.int .i64 (s.wop - 1)) ∧ w' = w := by
  obtain ⟨ro, mo, d, rp, mp, e, n, s0, s1⟩ := s
  dsimp only at *
  by_cases c1 : s0 = 1
  · subst c1
    by_cases a1 : mo = 0
    · subst a1
      by_cases a2 : mp = 0
      · subst a2
        rw [show Sp.wop _ - 1 = (-1 : Int) by simp [Sp.wop, Sp.unch, Sp.few, Sp.side]]
        go_enter Try.func35, Try.ntmps35
        go_wp2_with fail
        all_goals
          go_ret
          exact ⟨by first | rfl | simp, rfl⟩
      · have a3 : 0 < mp := by omega
        rw [show Sp.wop _ - 1 = (0 : Int) by simp [Sp.wop, Sp.unch, Sp.few, Sp.side, a2]]
        clear a2 h1 h2
        go_enter Try.func35, Try.ntmps35
        go_wp2_with fail
        all_goals
          go_ret
          exact ⟨by first | rfl | simp, rfl⟩
    · have a3 : 0 < mo := by omega
      by_cases a2 : mp = 0
      · subst a2
        rw [show Sp.wop _ - 1 = (1 : Int) by simp [Sp.wop, Sp.unch, Sp.few, Sp.side, a1]]
        clear h1 h2
        go_enter Try.func35, Try.ntmps35
        go_wp2_with fail
        all_goals
          go_ret
          exact ⟨by first | rfl | simp, rfl⟩
      · rw [show Sp.wop _ - 1 = (-1 : Int) by simp [Sp.wop, Sp.unch, Sp.few, Sp.side, a1, a2]]
        go_enter Try.func35, Try.ntmps35
        go_wp2_with fail
        all_goals
          go_ret
          exact ⟨by first | rfl | simp, rfl⟩
  by_cases c2 : s0 = 2
  · subst c2
    by_cases a1 : mo < mp
    · rw [show Sp.wop _ - 1 = (0 : Int) by simp [Sp.wop, Sp.unch, Sp.few, Sp.side, a1]]
      go_enter Try.func35, Try.ntmps35
      go_wp2_with fail
      all_goals
        go_ret
        exact ⟨by first | rfl | simp, rfl⟩
    by_cases a2 : mp < mo
    · rw [show Sp.wop _ - 1 = (1 : Int) by simp [Sp.wop, Sp.unch, Sp.few, Sp.side, a1, a2]]
      go_enter Try.func35, Try.ntmps35
      go_wp2_with fail
      all_goals
        go_ret
        exact ⟨by first | rfl | simp, rfl⟩
    rcases hn with rfl | rfl
    · rw [show Sp.wop _ - 1 = (1 : Int) by simp [Sp.wop, Sp.unch, Sp.few, Sp.side, a1, a2]]
      go_enter Try.func35, Try.ntmps35
      go_wp2_with fail
      all_goals
        go_ret
        exact ⟨by first | rfl | simp, rfl⟩
    · rw [show Sp.wop _ - 1 = (0 : Int) by simp [Sp.wop, Sp.unch, Sp.few, Sp.side, a1, a2]]
      go_enter Try.func35, Try.ntmps35
      go_wp2_with fail
      all_goals
        go_ret
        exact ⟨by first | rfl | simp, rfl⟩
  by_cases c3 : s0 = 3
  · subst c3
    rcases hn with rfl | rfl
    · rw [show Sp.wop _ - 1 = (0 : Int) by simp [Sp.wop, Sp.unch, Sp.few, Sp.side]]
      go_enter Try.func35, Try.ntmps35
      go_wp2_with fail
      all_goals
        go_ret
        exact ⟨by first | rfl | simp, rfl⟩
    · rw [show Sp.wop _ - 1 = (1 : Int) by simp [Sp.wop, Sp.unch, Sp.few, Sp.side]]
      go_enter Try.func35, Try.ntmps35
      go_wp2_with fail
      all_goals
        go_ret
        exact ⟨by first | rfl | simp, rfl⟩
  by_cases c4 : s0 = 4
  · subst c4
    rcases hn with rfl | rfl
    · rw [show Sp.wop _ - 1 = (1 : Int) by simp [Sp.wop, Sp.unch, Sp.few, Sp.side]]
      go_enter Try.func35, Try.ntmps35
      go_wp2_with fail
      all_goals
        go_ret
        exact ⟨by first | rfl | simp, rfl⟩
    · rw [show Sp.wop _ - 1 = (0 : Int) by simp [Sp.wop, Sp.unch, Sp.few, Sp.side]]
      go_enter Try.func35, Try.ntmps35
      go_wp2_with fail
      all_goals
        go_ret
        exact ⟨by first | rfl | simp, rfl⟩
  · rw [show Sp.wop _ - 1 = (-1 : Int) by simp [Sp.wop, Sp.unch, Sp.few, Sp.side, c1, c2, c3, c4]]
    go_enter Try.func35, Try.ntmps35
    go_wp2_with fail
    all_goals
      go_ret
      exact ⟨by first | rfl | simp, rfl⟩
theorem wop_cases (s : Sp) : s.wop = 0 ∨ s.wop = 1 ∨ s.wop = 2 := by
  unfold Sp.wop Sp.unch Sp.few Sp.side
  split
  · split
    · simp
    · split <;> simp
  · split
    · split
      · simp
      · split
        · simp
        · split <;> simp
    · split
      · split <;> simp
      · split
        · split <;> simp
        · simp
/-- who gives up, of the flags, the roles, the policy and what the other policy says -/
def gl (d e : Bool) (ro rp s1 q : Int) : Int := if d = true ∧ e = false ∧ ro = 0 then 1 else if d = false ∧ e = true ∧ rp = 0 then 2 else if ro = 0 ∧ rp = 0 then q else if ro ≠ rp then (if s1 = 6 then (if q = (if ro = 1 then 2 else 1) then (if ro = 1 then 2 else 1) else 0) else if s1 = 5 then (if ro = 1 then 2 else 1) else 0) else 0
def gr (d e : Bool) (ro rp : Int) : Int := if (d = true ∧ e = false ∧ ro = 0) ∨ (d = false ∧ e = true ∧ rp = 0) then 21 else 22
theorem gup_gl (s : Sp) : s.gupL = gl s.d s.e s.ro s.rp s.s1 s.wop ∧ s.gupR = gr s.d s.e s.ro s.rp := by
  obtain ⟨ro, mo, d, rp, mp, e, n, s0, s1⟩ := s
  unfold Sp.gupL Sp.gupR Sp.wp Sp.sec
  generalize Sp.wop _ = q
  unfold Sp.disc gl gr
  dsimp only
  by_cases a : ro = 0 <;> by_cases b : rp = 0 <;> cases d <;> cases e <;> simp [a, b]
end Go.Proofs.Ytlmfdbimchhjjaa
