import Derived.Test.YtijfnacplikibabKPa
namespace Go.Proofs.Ytijfnacplikibab
open Go.RowKit
set_option linter.unusedVariables false
set_option linter.unusedSimpArgs false
set_option maxRecDepth 20000

set_option maxHeartbeats 2000000 in
theorem rfind_any {w : World} {q : Nat} {v : Value} {n room : Nat} {P : List Pc} {T : Nat} (h : RT w q v n room P T) (hl : P.length ≤ 10000000) (e o : Int) : Calls Try.prog 34 #[.pointer (some ⟨q, 0, none⟩), .int .i64 e, .int .i64 o] w fun e' w' => e' = .returned (.int .i64 (ixB (fnd e o) P)) ∧ w' = w := by
  obtain ⟨a, c, rfl, b1, b2, hc⟩ := h.own.form
  unfold maxLen at b2
  have c2 := h.c2
  have HC := hide hc
  have HY := hide fun (k : Nat) (hk : k < P.length) he hn => ixB_at (f := fnd e o) (l := P) hk he hn
  have HX := hide (ixB_no (f := fnd e o) (l := P))
  clear h hc
  generalize ixB (fnd e o) P = R at *
  generalize P.length = N at *
  go_enter Try.func34, Try.ntmps34
  go_wp2_with fail
  go_loopw [7] (fun y wr => ∃ k : Nat, k ≤ N ∧ y = .int .i64 (k : Int) ∧ Hid (∀ j, j < k → (fnd e o) (P.getD j p0) = false) ∧ wr = w) (fun y _ => N - (intOf y).toNat)
  case atStart => exact ⟨0, Nat.zero_le _, rfl, hide fun j hj => by omega, rfl⟩
  case round =>
    obtain ⟨k, hk, rfl, HP, hwr⟩ := hrel
    have hwr2 := hwr.symm
    clear hwr
    subst hwr2
    by_cases hlt : k < N
    · obtain ⟨g, rfl, d0, d1, d2, d3, d4⟩ := HC.out k hlt
      clear HC
      have hli : (k : Int) < (N : Int) := by omega
      have HN : Hid ((fnd e o) (P.getD k p0) = false → ∀ j, j < k + 1 → (fnd e o) (P.getD j p0) = false) := hide fun hx j hj => by
        by_cases e : j = k
        · rw [e]; exact hx
        · exact HP.out j (by omega)
      have HYk := hide fun he => HY.out k hlt he HP.out
      clear HY HX HP
      by_cases h1 : (P.getD k p0).ext = e
      · have h1e : ((P.getD k p0).ext == e) = true := by simpa using h1
        by_cases h2 : (P.getD k p0).own = o
        · have h2e : ((P.getD k p0).own == o) = true := by simpa using h2
          have hR := HYk.out (by unfold fnd; rw [h1e, h2e]; rfl)
          subst hR
          clear HYk HN
          generalize P.getD k p0 = z at *
          go_wp2_with fail
          go_ret
          exact ⟨rfl, rfl⟩
        · have h2e : ((P.getD k p0).own == o) = false := by simpa using h2
          have HN2 := hide (HN.out (by unfold fnd; rw [h1e, h2e]; rfl))
          clear HYk HN
          generalize hz : P.getD k p0 = z at *
          go_wp2_with fail
          go_roundw
          case rel => exact ⟨k + 1, by omega, by go_num, HN2, trivial⟩
          case measure => simp [intOf]; omega
      · have h1e : ((P.getD k p0).ext == e) = false := by simpa using h1
        have HN2 := hide (HN.out (by unfold fnd; rw [h1e]; rfl))
        clear HYk HN
        generalize hz : P.getD k p0 = z at *
        go_wp2_with fail
        go_roundw
        case rel => exact ⟨k + 1, by omega, by go_num, HN2, trivial⟩
        case measure => simp [intOf]; omega
    · have ek : k = N := by omega
      subst ek
      have hli : ¬ (k : Int) < (k : Int) := by omega
      have hR := HX.out HP.out
      subst hR
      go_wp2_with fail
      go_ret
      exact ⟨rfl, rfl⟩
set_option maxHeartbeats 2000000 in
theorem rfirst_any {w : World} {q : Nat} {v : Value} {n room : Nat} {P : List Pc} {T : Nat} (h : RT w q v n room P T) (hl : P.length ≤ 10000000) (e : Int) : Calls Try.prog 36 #[.pointer (some ⟨q, 0, none⟩), .int .i64 e] w fun e' w' => e' = .returned (.int .i64 (ixB (fst1 e) P)) ∧ w' = w := by
  obtain ⟨a, c, rfl, b1, b2, hc⟩ := h.own.form
  unfold maxLen at b2
  have c2 := h.c2
  have HC := hide hc
  have HY := hide fun (k : Nat) (hk : k < P.length) he hn => ixB_at (f := fst1 e) (l := P) hk he hn
  have HX := hide (ixB_no (f := fst1 e) (l := P))
  clear h hc
  generalize ixB (fst1 e) P = R at *
  generalize P.length = N at *
  go_enter Try.func36, Try.ntmps36
  go_wp2_with fail
  go_loopw [5] (fun y wr => ∃ k : Nat, k ≤ N ∧ y = .int .i64 (k : Int) ∧ Hid (∀ j, j < k → (fst1 e) (P.getD j p0) = false) ∧ wr = w) (fun y _ => N - (intOf y).toNat)
  case atStart => exact ⟨0, Nat.zero_le _, rfl, hide fun j hj => by omega, rfl⟩
  case round =>
    obtain ⟨k, hk, rfl, HP, hwr⟩ := hrel
    have hwr2 := hwr.symm
    clear hwr
    subst hwr2
    by_cases hlt : k < N
    · obtain ⟨g, rfl, d0, d1, d2, d3, d4⟩ := HC.out k hlt
      clear HC
      have hli : (k : Int) < (N : Int) := by omega
      have HN : Hid ((fst1 e) (P.getD k p0) = false → ∀ j, j < k + 1 → (fst1 e) (P.getD j p0) = false) := hide fun hx j hj => by
        by_cases e : j = k
        · rw [e]; exact hx
        · exact HP.out j (by omega)
      have HYk := hide fun he => HY.out k hlt he HP.out
      clear HY HX HP
      by_cases h1 : (P.getD k p0).ext = e
      · have h1e : ((P.getD k p0).ext == e) = true := by simpa using h1
        by_cases h2 : (P.getD k p0).held = false
        · have h2e := h2
          rw [h2] at d3
          have hR := HYk.out (by unfold fst1; rw [h1e, h2e]; rfl)
          subst hR
          clear HYk HN
          generalize P.getD k p0 = z at *
          go_wp2_with fail
          go_ret
          exact ⟨rfl, rfl⟩
        · have h2e : (P.getD k p0).held = true := by simpa using h2
          rw [h2e] at d3
          have HN2 := hide (HN.out (by unfold fst1; rw [h1e, h2e]; rfl))
          clear HYk HN
          generalize hz : P.getD k p0 = z at *
          go_wp2_with fail
          go_roundw
          case rel => exact ⟨k + 1, by omega, by go_num, HN2, trivial⟩
          case measure => simp [intOf]; omega
      · have h1e : ((P.getD k p0).ext == e) = false := by simpa using h1
        have HN2 := hide (HN.out (by unfold fst1; rw [h1e]; rfl))
        clear HYk HN
        generalize hz : P.getD k p0 = z at *
        go_wp2_with fail
        go_roundw
        case rel => exact ⟨k + 1, by omega, by go_num, HN2, trivial⟩
        case measure => simp [intOf]; omega
    · have ek : k = N := by omega
      subst ek
      have hli : ¬ (k : Int) < (k : Int) := by omega
      have hR := HX.out HP.out
      subst hR
      go_wp2_with fail
      go_ret
      exact ⟨rfl, rfl⟩
end Go.Proofs.Ytijfnacplikibab
