import Derived.Test.YtcdmkbjibcahcabTRq
namespace Go.Proofs.Ytcdmkbjibcahcab
open Go.RowKit
set_option linter.unusedVariables false
set_option linter.unusedSimpArgs false
set_option maxRecDepth 20000

/-- may this epoch leave, as the document says it? -/
def rbB (S : LS) (ep cnt : Int) : Bool := !(decide (S.ls.length = 0)) && (!((S.ls.getD 0 l0).1.2.2 == (S.now : Int)) && ((S.ls.getD 0 l0).1.2.2 == ep && ((ofN S.ls ep : Nat) : Int) == cnt))
set_option maxHeartbeats 2000000 in
theorem rbar_no {w : World} {q : Nat} {v : Value} {S : LS} (h : DL w q v S) (hl : S.ls.length ≤ 2000) (ep cnt : Int) (hb : rbB S ep cnt = false) : Calls Try.prog 31 #[.pointer (some ⟨q, 0, none⟩), .int .i64 ep, .int .i64 cnt] w fun e' w' => e' = .returned (.tuple #[.slice none 0 0, .int .i64 101]) ∧ ∃ m, w' = w.drewN m := by
  obtain ⟨a, c, rfl, b1, b2, hc⟩ := h.own.form
  unfold maxLen at b2
  have HO := hide fun m => rof_any (h.drewN m) hl ep
  have c0 := h.c0
  have c1 := h.c1
  have hob := ofN_le S.ls ep
  unfold rbB at hb
  clear h
  by_cases e1 : S.ls.length = 0
  · rw [e1] at c0
    clear hc hob b1 hb
    go_enter Try.func31, Try.ntmps31
    go_wp2_with fail
    go_quiet (first | (go_at_call 41; with_reducible exact Calls.quiet_of_same (HO.out _)))
    go_wp2_with fail
    refine bodyPost_ret (results_tmp2 rfl _ _ _) rfl ?_
    exact ⟨rfl, _, rfl⟩
  · obtain ⟨g, rfl, -, -, d2, -⟩ := hc 0 (by omega)
    rw [Nat.zero_mul, Nat.zero_add] at d2
    have e1i : (((S.ls.length : Nat) : Int) == 0) = false := by simpa using e1
    have e1b : decide (S.ls.length = 0) = false := by simpa using e1
    have hpos : 0 < S.ls.length := by omega
    rw [e1b] at hb
    clear hc
    generalize (S.ls.getD 0 l0).1.2.2 = z at *
    generalize ofN S.ls ep = k at *
    generalize S.ls.length = n at *
    generalize (S.now : Int) = now at *
    cases e2 : (z == now) with
    | true =>
      go_enter Try.func31, Try.ntmps31
      go_wp2_with fail
      go_quiet (first | (go_at_call 41; with_reducible exact Calls.quiet_of_same (HO.out _)))
      go_wp2_with fail
      refine bodyPost_ret (results_tmp2 rfl _ _ _) rfl ?_
      exact ⟨rfl, _, rfl⟩
    | false =>
      cases e3 : (z == ep) with
      | false =>
        have e3b : (z != ep) = true := by rw [bne, e3]; rfl
        go_enter Try.func31, Try.ntmps31
        go_wp2_with fail
        go_quiet (first | (go_at_call 41; with_reducible exact Calls.quiet_of_same (HO.out _)))
        go_wp2_with fail
        refine bodyPost_ret (results_tmp2 rfl _ _ _) rfl ?_
        exact ⟨rfl, _, rfl⟩
      | true =>
        have e3b : (z != ep) = false := by rw [bne, e3]; rfl
        have e4 : (((k : Nat) : Int) == cnt) = false := by
          rw [e2, e3] at hb
          simpa using hb
        have e4b : (((k : Nat) : Int) != cnt) = true := by rw [bne, e4]; rfl
        go_enter Try.func31, Try.ntmps31
        go_wp2_with fail
        go_quiet (first | (go_at_call 41; with_reducible exact Calls.quiet_of_same (HO.out _)))
        go_wp2_with fail
        refine bodyPost_ret (results_tmp2 rfl _ _ _) rfl ?_
        exact ⟨rfl, _, rfl⟩
end Go.Proofs.Ytcdmkbjibcahcab
