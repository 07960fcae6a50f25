import Derived.Test.YtlmfdbimchhjjaaIdHp
namespace Go.Proofs.Ytlmfdbimchhjjaa
open Go.RowKit
set_option linter.unusedVariables false
set_option linter.unusedSimpArgs false
set_option maxRecDepth 20000

/-- a split brain as one node sees it -/
structure Sp where
  ro : Int
  mo : Int
  d : Bool
  rp : Int
  mp : Int
  e : Bool
  n : Int
  s0 : Int
  s1 : Int
def Sp.val (s : Sp) : Value := .agg #[.int .i64 s.ro, .int .i64 s.mo, .bool s.d, .int .i64 s.rp, .int .i64 s.mp, .bool s.e, .int .i64 s.n, .int .i64 s.s0, .int .i64 s.s1]
def Sp.side (s : Sp) (m : Int) : Int := if m = s.n then 1 else 2
def Sp.unch (s : Sp) : Int := if s.mo = 0 ∧ s.mp ≠ 0 then 1 else if s.mp = 0 ∧ s.mo ≠ 0 then 2 else 0
def Sp.few (s : Sp) : Int := if s.mo < s.mp then 1 else if s.mp < s.mo then 2 else s.side 1
def Sp.wop (s : Sp) : Int := if s.s0 = 1 then s.unch else if s.s0 = 2 then s.few else if s.s0 = 3 then s.side 0 else if s.s0 = 4 then s.side 1 else 0
def Sp.sec (s : Sp) : Int := if s.ro = 1 then 2 else 1
def Sp.wp (s : Sp) : Int := if s.s1 = 6 then (if s.wop = s.sec then s.sec else 0) else if s.s1 = 5 then s.sec else 0
def Sp.disc (s : Sp) : Int := if s.d = s.e then 0 else if s.d = true ∧ s.ro = 0 then 1 else if s.e = true ∧ s.rp = 0 then 2 else 0
def Sp.gupL (s : Sp) : Int := if s.disc ≠ 0 then s.disc else if s.ro = 0 ∧ s.rp = 0 then s.wop else if s.ro ≠ s.rp then s.wp else 0
def Sp.gupR (s : Sp) : Int := if s.disc ≠ 0 then 21 else 22
theorem sideOf_any (w : World) (s : Sp) (m : Int) : Calls Try.prog 52 #[s.val, .int .i64 m] w fun e w' => e = .returned (.int .i64 (s.side m)) ∧ Below w.heap.size w w' := by
  obtain ⟨ro, mo, d, rp, mp, e, n, s0, s1⟩ := s
  unfold Sp.side
  have HB0 := hide (bl1 (Below.refl w.heap.size w) (.cells #[.int .i64 ro, .int .i64 mo, .bool d, .int .i64 rp, .int .i64 mp, .bool e, .int .i64 n, .int .i64 s0, .int .i64 s1] 61))
  unfold Sp.val at *
  dsimp only at *
  by_cases h : m = n
  · subst h
    rw [if_pos rfl]
    go_enter Try.func52, Try.ntmps52
    go_wp2_with fail
    all_goals
      go_ret
      exact ⟨by first | rfl | simp, by first | exact HB2.out | exact HB0.out⟩
  · rw [if_neg h]
    go_enter Try.func52, Try.ntmps52
    go_wp2_with fail
    all_goals
      go_ret
      exact ⟨by first | rfl | simp, by first | exact HB2.out | exact HB0.out⟩
theorem unchanged_any (w : World) (s : Sp) : Calls Try.prog 50 #[s.val] w fun e w' => e = .returned (.int .i64 s.unch) ∧ Below w.heap.size w w' := by
  obtain ⟨ro, mo, d, rp, mp, e, n, s0, s1⟩ := s
  unfold Sp.unch
  have HB0 := hide (bl1 (Below.refl w.heap.size w) (.cells #[.int .i64 ro, .int .i64 mo, .bool d, .int .i64 rp, .int .i64 mp, .bool e, .int .i64 n, .int .i64 s0, .int .i64 s1] 61))
  unfold Sp.val at *
  dsimp only at *
  by_cases h1 : mo = 0
  · subst h1
    by_cases h2 : mp = 0
    · subst h2
      rw [if_neg (by simp), if_neg (by simp)]
      go_enter Try.func50, Try.ntmps50
      go_wp2_with fail
      all_goals
        go_ret
        exact ⟨by first | rfl | simp, by first | exact HB2.out | exact HB0.out⟩
    · rw [if_pos ⟨rfl, h2⟩]
      go_enter Try.func50, Try.ntmps50
      go_wp2_with fail
      all_goals
        go_ret
        exact ⟨by first | rfl | simp, by first | exact HB2.out | exact HB0.out⟩
  · rw [if_neg (fun e => h1 e.1)]
    by_cases h2 : mp = 0
    · subst h2
      rw [if_pos ⟨rfl, h1⟩]
      go_enter Try.func50, Try.ntmps50
      go_wp2_with fail
      all_goals
        go_ret
        exact ⟨by first | rfl | simp, by first | exact HB2.out | exact HB0.out⟩
    · rw [if_neg (fun e => h2 e.1)]
      go_enter Try.func50, Try.ntmps50
      go_wp2_with fail
      all_goals
        go_ret
        exact ⟨by first | rfl | simp, by first | exact HB2.out | exact HB0.out⟩
theorem fewest_any (w : World) (s : Sp) : Calls Try.prog 51 #[s.val] w fun e w' => e = .returned (.int .i64 s.few) ∧ Below w.heap.size w w' := by
  have HS := hide fun w => sideOf_any w s 1
  have HE : Hid (s.few = if s.mo < s.mp then 1 else if s.mp < s.mo then 2 else s.side 1) := hide rfl
  generalize s.side 1 = q at *
  rw [HE.out]
  clear HE
  obtain ⟨ro, mo, d, rp, mp, e, n, s0, s1⟩ := s
  have HB0 := hide (bl1 (Below.refl w.heap.size w) (.cells #[.int .i64 ro, .int .i64 mo, .bool d, .int .i64 rp, .int .i64 mp, .bool e, .int .i64 n, .int .i64 s0, .int .i64 s1] 61))
  unfold Sp.val at *
  dsimp only at *
  by_cases h1 : mo < mp
  · rw [if_pos h1]
    go_enter Try.func51, Try.ntmps51
    go_wp2_with (first
      | (go_at_call 52; (with_reducible refine (HS.out _).mono ?_); rintro e w2 ⟨rfl, hb⟩; have HB2 := hide (bel_to HB0.out hb); clear hb))
    all_goals
      go_ret
      exact ⟨by first | rfl | simp, by first | exact HB2.out | exact HB0.out⟩
  · rw [if_neg h1]
    by_cases h2 : mp < mo
    · rw [if_pos h2]
      go_enter Try.func51, Try.ntmps51
      go_wp2_with (first
        | (go_at_call 52; (with_reducible refine (HS.out _).mono ?_); rintro e w2 ⟨rfl, hb⟩; have HB2 := hide (bel_to HB0.out hb); clear hb))
      all_goals
        go_ret
        exact ⟨by first | rfl | simp, by first | exact HB2.out | exact HB0.out⟩
    · rw [if_neg h2]
      go_enter Try.func51, Try.ntmps51
      go_wp2_with (first
        | (go_at_call 52; (with_reducible refine (HS.out _).mono ?_); rintro e w2 ⟨rfl, hb⟩; have HB2 := hide (bel_to HB0.out hb); clear hb))
      all_goals
        go_ret
        exact ⟨by first | rfl | simp, by first | exact HB2.out | exact HB0.out⟩
set_option maxHeartbeats 1000000 in
theorem wop_any (w : World) (s : Sp) : Calls Try.prog 48 #[s.val] w fun e w' => e = .returned (.int .i64 s.wop) ∧ Below w.heap.size w w' := by
  have H0 := hide fun w => sideOf_any w s 0
  have H1 := hide fun w => sideOf_any w s 1
  have H2 := hide fun w => unchanged_any w s
  have H3 := hide fun w => fewest_any w s
  have HE : Hid (s.wop = if s.s0 = 1 then s.unch else if s.s0 = 2 then s.few else if s.s0 = 3 then s.side 0 else if s.s0 = 4 then s.side 1 else 0) := hide rfl
  generalize s.side 0 = q0 at *
  generalize s.side 1 = q1 at *
  generalize s.unch = q2 at *
  generalize s.few = q3 at *
  rw [HE.out]
  clear HE
  obtain ⟨ro, mo, d, rp, mp, e, n, s0, s1⟩ := s
  have HB0 := hide (bl1 (Below.refl w.heap.size w) (.cells #[.int .i64 ro, .int .i64 mo, .bool d, .int .i64 rp, .int .i64 mp, .bool e, .int .i64 n, .int .i64 s0, .int .i64 s1] 61))
  unfold Sp.val at *
  dsimp only at *
  by_cases h1 : s0 = 1
  · subst h1
    rw [if_pos rfl]
    go_enter Try.func48, Try.ntmps48
    go_wp2_with (first
      | (go_at_call 50; (with_reducible refine (H2.out _).mono ?_); rintro e w2 ⟨rfl, hb⟩; have HB2 := hide (bel_to HB0.out hb); clear hb)
      | (go_at_call 51; (with_reducible refine (H3.out _).mono ?_); rintro e w2 ⟨rfl, hb⟩; have HB2 := hide (bel_to HB0.out hb); clear hb)
      | (go_at_call 52; (with_reducible refine (H0.out _).mono ?_); rintro e w2 ⟨rfl, hb⟩; have HB2 := hide (bel_to HB0.out hb); clear hb)
      | (go_at_call 52; (with_reducible refine (H1.out _).mono ?_); rintro e w2 ⟨rfl, hb⟩; have HB2 := hide (bel_to HB0.out hb); clear hb))
    all_goals
      go_ret
      exact ⟨by first | rfl | simp, by first | exact HB2.out | exact HB0.out⟩
  rw [if_neg h1]
  by_cases h2 : s0 = 2
  · subst h2
    rw [if_pos rfl]
    go_enter Try.func48, Try.ntmps48
    go_wp2_with (first
      | (go_at_call 50; (with_reducible refine (H2.out _).mono ?_); rintro e w2 ⟨rfl, hb⟩; have HB2 := hide (bel_to HB0.out hb); clear hb)
      | (go_at_call 51; (with_reducible refine (H3.out _).mono ?_); rintro e w2 ⟨rfl, hb⟩; have HB2 := hide (bel_to HB0.out hb); clear hb)
      | (go_at_call 52; (with_reducible refine (H0.out _).mono ?_); rintro e w2 ⟨rfl, hb⟩; have HB2 := hide (bel_to HB0.out hb); clear hb)
      | (go_at_call 52; (with_reducible refine (H1.out _).mono ?_); rintro e w2 ⟨rfl, hb⟩; have HB2 := hide (bel_to HB0.out hb); clear hb))
    all_goals
      go_ret
      exact ⟨by first | rfl | simp, by first | exact HB2.out | exact HB0.out⟩
  rw [if_neg h2]
  by_cases h3 : s0 = 3
  · subst h3
    rw [if_pos rfl]
    go_enter Try.func48, Try.ntmps48
    go_wp2_with (first
      | (go_at_call 50; (with_reducible refine (H2.out _).mono ?_); rintro e w2 ⟨rfl, hb⟩; have HB2 := hide (bel_to HB0.out hb); clear hb)
      | (go_at_call 51; (with_reducible refine (H3.out _).mono ?_); rintro e w2 ⟨rfl, hb⟩; have HB2 := hide (bel_to HB0.out hb); clear hb)
      | (go_at_call 52; (with_reducible refine (H0.out _).mono ?_); rintro e w2 ⟨rfl, hb⟩; have HB2 := hide (bel_to HB0.out hb); clear hb)
      | (go_at_call 52; (with_reducible refine (H1.out _).mono ?_); rintro e w2 ⟨rfl, hb⟩; have HB2 := hide (bel_to HB0.out hb); clear hb))
    all_goals
      go_ret
      exact ⟨by first | rfl | simp, by first | exact HB2.out | exact HB0.out⟩
  rw [if_neg h3]
  by_cases h4 : s0 = 4
  · subst h4
    rw [if_pos rfl]
    go_enter Try.func48, Try.ntmps48
    go_wp2_with (first
      | (go_at_call 50; (with_reducible refine (H2.out _).mono ?_); rintro e w2 ⟨rfl, hb⟩; have HB2 := hide (bel_to HB0.out hb); clear hb)
      | (go_at_call 51; (with_reducible refine (H3.out _).mono ?_); rintro e w2 ⟨rfl, hb⟩; have HB2 := hide (bel_to HB0.out hb); clear hb)
      | (go_at_call 52; (with_reducible refine (H0.out _).mono ?_); rintro e w2 ⟨rfl, hb⟩; have HB2 := hide (bel_to HB0.out hb); clear hb)
      | (go_at_call 52; (with_reducible refine (H1.out _).mono ?_); rintro e w2 ⟨rfl, hb⟩; have HB2 := hide (bel_to HB0.out hb); clear hb))
    all_goals
      go_ret
      exact ⟨by first | rfl | simp, by first | exact HB2.out | exact HB0.out⟩
  · rw [if_neg h4]
    go_enter Try.func48, Try.ntmps48
    go_wp2_with (first
      | (go_at_call 50; (with_reducible refine (H2.out _).mono ?_); rintro e w2 ⟨rfl, hb⟩; have HB2 := hide (bel_to HB0.out hb); clear hb)
      | (go_at_call 51; (with_reducible refine (H3.out _).mono ?_); rintro e w2 ⟨rfl, hb⟩; have HB2 := hide (bel_to HB0.out hb); clear hb)
      | (go_at_call 52; (with_reducible refine (H0.out _).mono ?_); rintro e w2 ⟨rfl, hb⟩; have HB2 := hide (bel_to HB0.out hb); clear hb)
      | (go_at_call 52; (with_reducible refine (H1.out _).mono ?_); rintro e w2 ⟨rfl, hb⟩; have HB2 := hide (bel_to HB0.out hb); clear hb))
    all_goals
      go_ret
      exact ⟨by first | rfl | simp, by first | exact HB2.out | exact HB0.out⟩
set_option maxHeartbeats 1000000 in
theorem wp_any (w : World) (s : Sp) : Calls Try.prog 49 #[s.val] w fun e w' => e = .returned (.int .i64 s.wp) ∧ Below w.heap.size w w' := by
  have H0 := hide fun w => wop_any w s
  unfold Sp.wp Sp.sec
  generalize s.wop = q at *
  obtain ⟨ro, mo, d, rp, mp, e, n, s0, s1⟩ := s
  have HB0 := hide (bl1 (Below.refl w.heap.size w) (.cells #[.int .i64 ro, .int .i64 mo, .bool d, .int .i64 rp, .int .i64 mp, .bool e, .int .i64 n, .int .i64 s0, .int .i64 s1] 61))
  unfold Sp.val at *
  dsimp only at *
  by_cases h6 : s1 = 6
  · subst h6
    rw [if_pos rfl]
    by_cases hr : ro = 1
    · subst hr
      try simp only [if_true, if_pos]
      by_cases hq : q = 2
      · subst hq
        rw [if_pos rfl]
        go_enter Try.func49, Try.ntmps49
        go_wp2_with (first
          | (go_at_call 48; (with_reducible refine (H0.out _).mono ?_); rintro e w2 ⟨rfl, hb⟩; have HB2 := hide (bel_to HB0.out hb); clear hb))
        all_goals
          go_ret
          exact ⟨by first | rfl | simp, by first | exact HB2.out | exact HB0.out⟩
      · rw [if_neg hq]
        go_enter Try.func49, Try.ntmps49
        go_wp2_with (first
          | (go_at_call 48; (with_reducible refine (H0.out _).mono ?_); rintro e w2 ⟨rfl, hb⟩; have HB2 := hide (bel_to HB0.out hb); clear hb))
        all_goals
          go_ret
          exact ⟨by first | rfl | simp, by first | exact HB2.out | exact HB0.out⟩
    · try simp only [if_neg hr]
      by_cases hq : q = 1
      · subst hq
        rw [if_pos rfl]
        go_enter Try.func49, Try.ntmps49
        go_wp2_with (first
          | (go_at_call 48; (with_reducible refine (H0.out _).mono ?_); rintro e w2 ⟨rfl, hb⟩; have HB2 := hide (bel_to HB0.out hb); clear hb))
        all_goals
          go_ret
          exact ⟨by first | rfl | simp, by first | exact HB2.out | exact HB0.out⟩
      · rw [if_neg hq]
        go_enter Try.func49, Try.ntmps49
        go_wp2_with (first
          | (go_at_call 48; (with_reducible refine (H0.out _).mono ?_); rintro e w2 ⟨rfl, hb⟩; have HB2 := hide (bel_to HB0.out hb); clear hb))
        all_goals
          go_ret
          exact ⟨by first | rfl | simp, by first | exact HB2.out | exact HB0.out⟩
  rw [if_neg h6]
  by_cases h5 : s1 = 5
  · subst h5
    rw [if_pos rfl]
    by_cases hr : ro = 1
    · subst hr
      try simp only [if_true, if_pos]
      go_enter Try.func49, Try.ntmps49
      go_wp2_with (first
        | (go_at_call 48; (with_reducible refine (H0.out _).mono ?_); rintro e w2 ⟨rfl, hb⟩; have HB2 := hide (bel_to HB0.out hb); clear hb))
      all_goals
        go_ret
        exact ⟨by first | rfl | simp, by first | exact HB2.out | exact HB0.out⟩
    · try simp only [if_neg hr]
      go_enter Try.func49, Try.ntmps49
      go_wp2_with (first
        | (go_at_call 48; (with_reducible refine (H0.out _).mono ?_); rintro e w2 ⟨rfl, hb⟩; have HB2 := hide (bel_to HB0.out hb); clear hb))
      all_goals
        go_ret
        exact ⟨by first | rfl | simp, by first | exact HB2.out | exact HB0.out⟩
  · rw [if_neg h5]
    by_cases hr : ro = 1
    · subst hr
      try simp only [if_true, if_pos]
      go_enter Try.func49, Try.ntmps49
      go_wp2_with (first
        | (go_at_call 48; (with_reducible refine (H0.out _).mono ?_); rintro e w2 ⟨rfl, hb⟩; have HB2 := hide (bel_to HB0.out hb); clear hb))
      all_goals
        go_ret
        exact ⟨by first | rfl | simp, by first | exact HB2.out | exact HB0.out⟩
    · try simp only [if_neg hr]
      go_enter Try.func49, Try.ntmps49
      go_wp2_with (first
        | (go_at_call 48; (with_reducible refine (H0.out _).mono ?_); rintro e w2 ⟨rfl, hb⟩; have HB2 := hide (bel_to HB0.out hb); clear hb))
      all_goals
        go_ret
        exact ⟨by first | rfl | simp, by first | exact HB2.out | exact HB0.out⟩
theorem disc_any (w : World) (s : Sp) : Calls Try.prog 47 #[s.val] w fun e w' => e = .returned (.int .i64 s.disc) ∧ ∃ X, w' = w.alloc X := by
  obtain ⟨ro, mo, d, rp, mp, e, n, s0, s1⟩ := s
  unfold Sp.disc
  have HB0 := hide (bl1 (Below.refl w.heap.size w) (.cells #[.int .i64 ro, .int .i64 mo, .bool d, .int .i64 rp, .int .i64 mp, .bool e, .int .i64 n, .int .i64 s0, .int .i64 s1] 61))
  unfold Sp.val at *
  dsimp only at *
  cases d <;> cases e
  · rw [if_pos rfl]
    go_enter Try.func47, Try.ntmps47
    go_wp2_with fail
    all_goals
      go_ret
      exact ⟨by first | rfl | simp, _, rfl⟩
  · by_cases h : rp = 0
    · subst h
      rw [if_neg (by simp), if_neg (by simp), if_pos ⟨rfl, rfl⟩]
      go_enter Try.func47, Try.ntmps47
      go_wp2_with fail
      all_goals
        go_ret
        exact ⟨by first | rfl | simp, _, rfl⟩
    · rw [if_neg (by simp), if_neg (by simp), if_neg (fun e => h e.2)]
      go_enter Try.func47, Try.ntmps47
      go_wp2_with fail
      all_goals
        go_ret
        exact ⟨by first | rfl | simp, _, rfl⟩
  · by_cases h : ro = 0
    · subst h
      rw [if_neg (by simp), if_pos ⟨rfl, rfl⟩]
      go_enter Try.func47, Try.ntmps47
      go_wp2_with fail
      all_goals
        go_ret
        exact ⟨by first | rfl | simp, _, rfl⟩
    · rw [if_neg (by simp), if_neg (fun e => h e.2), if_neg (by simp)]
      go_enter Try.func47, Try.ntmps47
      go_wp2_with fail
      all_goals
        go_ret
        exact ⟨by first | rfl | simp, _, rfl⟩
  · rw [if_pos rfl]
    go_enter Try.func47, Try.ntmps47
    go_wp2_with fail
    all_goals
      go_ret
      exact ⟨by first | rfl | simp, _, rfl⟩
set_option maxHeartbeats 1000000 in
theorem gup_any (w : World) (s : Sp) : Calls Try.prog 46 #[s.val] w fun e w' => e = .returned (.tuple #[.int .i64 s.gupL, .int .i64 s.gupR]) ∧ Below w.heap.size w w' := by
  have H0 := hide fun w => disc_any w s
  have H1 := hide fun w => wop_any w s
  have H2 := hide fun w => wp_any w s
  unfold Sp.gupL Sp.gupR
  generalize s.disc = q0 at *
  generalize s.wop = q1 at *
  generalize s.wp = q2 at *
  obtain ⟨ro, mo, d, rp, mp, e, n, s0, s1⟩ := s
  have HB0 := hide (bl1 (Below.refl w.heap.size w) (.cells #[.int .i64 ro, .int .i64 mo, .bool d, .int .i64 rp, .int .i64 mp, .bool e, .int .i64 n, .int .i64 s0, .int .i64 s1] 61))
  unfold Sp.val at *
  dsimp only at *
  by_cases hq : q0 = 0
  · subst hq
    simp only [ne_eq, not_true_eq_false, if_false]
    by_cases h1 : ro = 0
    · subst h1
      by_cases h2 : rp = 0
      · subst h2
        rw [if_pos ⟨rfl, rfl⟩]
        go_enter Try.func46, Try.ntmps46
        go_wp2_with (first
          | (go_at_call 47; refine (H0.out _).mono ?_; rintro e w2 ⟨rfl, X, rfl⟩)
          | (go_at_call 48; refine (H1.out _).mono ?_; rintro e w2 ⟨rfl, hb⟩; have HB2 := hide (bel_to (bl1 HB0.out _) hb); clear hb)
          | (go_at_call 49; refine (H2.out _).mono ?_; rintro e w2 ⟨rfl, hb⟩; have HB2 := hide (bel_to (bl1 HB0.out _) hb); clear hb))
        all_goals
          go_ret2
          exact ⟨by first | rfl | simp, by first | exact HB2.out | exact bl1 HB0.out _⟩
      · have h3 : ¬ (0 : Int) = rp := fun e => h2 e.symm
        rw [if_neg (fun e => h2 e.2), if_pos h3]
        go_enter Try.func46, Try.ntmps46
        go_wp2_with (first
          | (go_at_call 47; refine (H0.out _).mono ?_; rintro e w2 ⟨rfl, X, rfl⟩)
          | (go_at_call 48; refine (H1.out _).mono ?_; rintro e w2 ⟨rfl, hb⟩; have HB2 := hide (bel_to (bl1 HB0.out _) hb); clear hb)
          | (go_at_call 49; refine (H2.out _).mono ?_; rintro e w2 ⟨rfl, hb⟩; have HB2 := hide (bel_to (bl1 HB0.out _) hb); clear hb))
        all_goals
          go_ret2
          exact ⟨by first | rfl | simp, by first | exact HB2.out | exact bl1 HB0.out _⟩
    · rw [if_neg (fun e => h1 e.1)]
      by_cases h2 : ro = rp
      · subst h2
        rw [if_neg (by simp)]
        go_enter Try.func46, Try.ntmps46
        go_wp2_with (first
          | (go_at_call 47; refine (H0.out _).mono ?_; rintro e w2 ⟨rfl, X, rfl⟩)
          | (go_at_call 48; refine (H1.out _).mono ?_; rintro e w2 ⟨rfl, hb⟩; have HB2 := hide (bel_to (bl1 HB0.out _) hb); clear hb)
          | (go_at_call 49; refine (H2.out _).mono ?_; rintro e w2 ⟨rfl, hb⟩; have HB2 := hide (bel_to (bl1 HB0.out _) hb); clear hb))
        all_goals
          go_ret2
          exact ⟨by first | rfl | simp, by first | exact HB2.out | exact bl1 HB0.out _⟩
      · rw [if_pos h2]
        go_enter Try.func46, Try.ntmps46
        go_wp2_with (first
          | (go_at_call 47; refine (H0.out _).mono ?_; rintro e w2 ⟨rfl, X, rfl⟩)
          | (go_at_call 48; refine (H1.out _).mono ?_; rintro e w2 ⟨rfl, hb⟩; have HB2 := hide (bel_to (bl1 HB0.out _) hb); clear hb)
          | (go_at_call 49; refine (H2.out _).mono ?_; rintro e w2 ⟨rfl, hb⟩; have HB2 := hide (bel_to (bl1 HB0.out _) hb); clear hb))
        all_goals
          go_ret2
          exact ⟨by first | rfl | simp, by first | exact HB2.out | exact bl1 HB0.out _⟩
  · rw [if_pos hq, if_pos hq]
    go_enter Try.func46, Try.ntmps46
    go_wp2_with (first
      | (go_at_call 47; refine (H0.out _).mono ?_; rintro e w2 ⟨rfl, X, rfl⟩)
      | (go_at_call 48; refine (H1.out _).mono ?_; rintro e w2 ⟨rfl, hb⟩; have HB2 := hide (bel_to (bl1 HB0.out _) hb); clear hb)
      | (go_at_call 49; refine (H2.out _).mono ?_; rintro e w2 ⟨rfl, hb⟩; have HB2 := hide (bel_to (bl1 HB0.out _) hb); clear hb))
    all_goals
      go_ret2
      exact ⟨by first | rfl | simp, by first | exact HB2.out | exact bl1 HB0.out _⟩
end Go.Proofs.Ytlmfdbimchhjjaa
