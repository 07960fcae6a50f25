import Derived.Test.YtcdmkbjibcahcabTLg
namespace Go.Proofs.Ytcdmkbjibcahcab
open Go.RowKit
set_option linter.unusedVariables false
set_option linter.unusedSimpArgs false
set_option maxRecDepth 20000

set_option maxHeartbeats 1000000 in
theorem front_any (w : World) (p bm : Nat) (v : Value) (S : LS) (h : LRep w p bm v S) (hl : S.es.length ≤ 2000) : Calls Try.prog 42 #[.pointer (some ⟨p, 0, none⟩)] w fun e w' => e = .returned (.int .i64 (frontN S : Int)) ∧ ∃ m, w' = w.drewN m := by
  obtain ⟨a, c, rfl, b1, b2, hc⟩ := h.lst.form
  unfold maxLen at b2
  have c3 := h.c3
  have HC := hide hc
  have HS : Hid (∀ j, _ → _ → _ → frontN S = j) := hide (frontN_stop S)
  clear h hc
  generalize S.es.length = n at *
  generalize frontN S = R at *
  generalize hE : S.es = E at *
  go_enter Try.func42, Try.ntmps42
  go_wp2_with fail
  go_loopw [3] (fun x wr => ∃ j : Nat, j ≤ n ∧ x = .int .i64 (j : Int) ∧ (∃ m, wr = w.drewN m) ∧ ∀ i, i < j → (E.getD i e0).2.2 = (E.getD 0 e0).2.2) (fun x _ => n - (intOf x).toNat)
  case atStart => exact ⟨0, Nat.zero_le _, rfl, ⟨0, rfl⟩, fun i hi => by omega⟩
  case round =>
    obtain ⟨j, hj, rfl, ⟨m0, rfl⟩, hz⟩ := hrel
    have HZ := hide hz
    clear hz
    by_cases hlt : j < n
    · obtain ⟨g, off, rfl, _, _, _, d1⟩ := HC.out j hlt
      obtain ⟨g', off', e', _, _, _, d2⟩ := HC.out 0 (by omega)
      simp only [Option.some.injEq, Addr.mk.injEq] at e'
      obtain ⟨rfl, rfl, -⟩ := e'
      simp only [Nat.zero_mul, Nat.add_zero] at d2
      by_cases hxy : (E.getD j e0).2.2 = (E.getD 0 e0).2.2
      · have HN : Hid (∀ i, i < j + 1 → (E.getD i e0).2.2 = (E.getD 0 e0).2.2) := hide fun i hi => by
          by_cases e : i = j
          · rw [e]; exact hxy
          · exact HZ.out i (by omega)
        rw [hxy] at d1
        clear hxy HZ HS HC
        generalize (E.getD 0 e0).2.2 = x at *
        have hpos : 0 < n := by omega
        go_wp2_with fail
        go_quiet (fail)
        go_wp2_with fail
        go_roundw
        case rel => exact ⟨j + 1, by omega, by go_num, ⟨_, rfl⟩, HN.out⟩
        case measure => simp [intOf]; omega
      · have hR := HS.out j HZ.out (by omega) fun _ => hxy
        subst hR
        have hne : ((E.getD R e0).2.2 == (E.getD 0 e0).2.2) = false := by simpa using hxy
        clear hxy HZ HS HC
        have hpos : 0 < n := by omega
        generalize (E.getD R e0).2.2 = x at *
        generalize (E.getD 0 e0).2.2 = y at *
        go_wp2_with fail
        go_quiet (fail)
        go_wp2_with fail
        go_ret
        exact ⟨rfl, m0 + nq, World.drewN_drewN ..⟩
    · have ej : j = n := by omega
      subst ej
      have hR := HS.out j HZ.out (Nat.le_refl _) fun h => absurd h (by omega)
      subst hR
      clear HC HS HZ
      go_wp2_with fail
      go_quiet (fail)
      go_wp2_with fail
      go_ret
      exact ⟨rfl, m0 + nq, World.drewN_drewN ..⟩
set_option maxHeartbeats 1000000 in
theorem oldest_any (w : World) (p bm : Nat) (v : Value) (S : LS) (h : LRep w p bm v S) (hl : S.es.length ≤ 2000) : Calls Try.prog 34 #[.pointer (some ⟨p, 0, none⟩)] w fun e w' => e = .returned (.int .i64 (oldE S)) ∧ ∃ m, w' = w.drewN m := by
  obtain ⟨a, c, rfl, b1, b2, hc⟩ := h.lst.form
  unfold maxLen at b2
  have c2 := h.c2
  have c3 := h.c3
  by_cases hn : S.es.length = 0
  · have hR : oldE S = (S.now : Int) := if_pos hn
    rw [hR]
    rw [hn] at c3 b1
    clear h hc hR hn
    go_enter Try.func34, Try.ntmps34
    go_wp2_with fail
    go_ret
    exact ⟨rfl, 0, rfl⟩
  · have hR : oldE S = (S.es.getD 0 e0).2.2 := if_neg hn
    rw [hR]
    obtain ⟨g, off, rfl, _, _, _, d2⟩ := hc 0 (by omega)
    simp only [Nat.zero_mul, Nat.add_zero] at d2
    have hpos : 0 < S.es.length := by omega
    have hne : ((S.es.length : Int) == 0) = false := by rw [beq_eq_false_iff_ne]; omega
    clear h hc hR hn
    generalize S.es.length = n at *
    generalize (S.es.getD 0 e0).2.2 = x at *
    go_enter Try.func34, Try.ntmps34
    go_wp2_with fail
    go_ret
    exact ⟨rfl, 0, rfl⟩
theorem Open_any (w : World) (p bm : Nat) (v : Value) (S : LS) (h : LRep w p bm v S) : Calls Try.prog 11 #[.pointer (some ⟨p, 0, none⟩)] w fun e w' => e = .returned (.int .i64 (S.now : Int)) ∧ ∃ m, w' = w.drewN m := by
  have c2 := h.c2
  go_enter Try.func11, Try.ntmps11
  go_wp2_with fail
  go_ret
  exact ⟨rfl, 0, rfl⟩
theorem Size_any (w : World) (p bm : Nat) (v : Value) (S : LS) (h : LRep w p bm v S) : Calls Try.prog 13 #[.pointer (some ⟨p, 0, none⟩)] w fun e w' => e = .returned (.int .i64 (S.es.length : Int)) ∧ ∃ m, w' = w.drewN m := by
  obtain ⟨a, c, rfl, b1, b2, hc⟩ := h.lst.form
  have c3 := h.c3
  go_enter Try.func13, Try.ntmps13
  go_wp2_with fail
  go_ret
  exact ⟨rfl, 0, rfl⟩
set_option maxHeartbeats 1000000 in
theorem Settled_any (w : World) (p bm : Nat) (v : Value) (S : LS) (x : Int) (h : LRep w p bm v S) (hl : S.es.length ≤ 2000) : Calls Try.prog 21 #[.pointer (some ⟨p, 0, none⟩), .int .i64 x] w fun e w' => e = .returned (.bool (decide (S.es.length = 0) || decide (x < (S.es.getD 0 e0).2.2))) ∧ ∃ m, w' = w.drewN m := by
  obtain ⟨a, c, rfl, b1, b2, hc⟩ := h.lst.form
  unfold maxLen at b2
  have c3 := h.c3
  by_cases hn : S.es.length = 0
  · rw [hn] at c3 b1
    have hR : (decide (S.es.length = 0) || decide (x < (S.es.getD 0 e0).2.2)) = true := by simp [hn]
    rw [hR]
    clear h hc hn hR
    go_enter Try.func21, Try.ntmps21
    go_wp2_with fail
    go_ret
    exact ⟨rfl, 0, rfl⟩
  · obtain ⟨g, off, rfl, _, _, _, d2⟩ := hc 0 (by omega)
    simp only [Nat.zero_mul, Nat.add_zero] at d2
    have hpos : 0 < S.es.length := by omega
    have hne : ((S.es.length : Int) == 0) = false := by rw [beq_eq_false_iff_ne]; omega
    have hR : (decide (S.es.length = 0) || decide (x < (S.es.getD 0 e0).2.2)) = decide (x < (S.es.getD 0 e0).2.2) := by simp [hn]
    rw [hR]
    clear h hc hn hR
    generalize S.es.length = n at *
    generalize (S.es.getD 0 e0).2.2 = y at *
    go_enter Try.func21, Try.ntmps21
    go_wp2_with fail
    go_ret
    exact ⟨rfl, 0, rfl⟩
end Go.Proofs.Ytcdmkbjibcahcab
