import Derived.Test.YtcdmkbjibcahcaaTHp
namespace Go.Proofs.Ytcdmkbjibcahcaa
open Go.RowKit
set_option linter.unusedVariables false
set_option linter.unusedSimpArgs false
set_option maxRecDepth 20000

/-- how many writes of a list's first j have that epoch -/
def cntE (l : List En) (x : Int) : Nat := (l.map fun y => y.2.2).count x
theorem cntE_succ {l : List En} {j : Nat} {x : Int} (h : j < l.length) : cntE (l.take (j + 1)) x = cntE (l.take j) x + if (l.getD j e0).2.2 = x then 1 else 0 := by
  unfold cntE
  rw [List.take_add_one, List.map_append, List.count_append]
  have e : l[j]? = some (l.getD j e0) := by simp [List.getD, h]
  rw [e]
  simp only [Option.toList_some, List.map_cons, List.map_nil, List.count_singleton, beq_iff_eq]
theorem cntE_le (l : List En) (x : Int) : cntE l x ≤ l.length := by
  unfold cntE
  have := List.count_le_length (a := x) (l := l.map fun y => y.2.2)
  simpa using this
set_option maxHeartbeats 1000000 in
theorem lOldest_any (w : World) (v : Value) (l : List En) (h : ERow w v l) (hn : l ≠ []) : Calls Try.prog 21 #[v] w fun e w' => e = .returned (.tuple #[.int .i64 (l.getD 0 e0).2.2, .int .i64 (cntE l (l.getD 0 e0).2.2 : Int)]) ∧ ∃ m, w' = w.drewN m := by
  obtain ⟨a, c, rfl, b1, b2, hc⟩ := h.form
  unfold maxLen at b2
  have hpos : 0 < l.length := List.length_pos_iff.2 hn
  have hne : ((l.length : Int) == 0) = false := by rw [beq_eq_false_iff_ne]; omega
  obtain ⟨g, off, rfl, _, _, _, f2⟩ := hc 0 hpos
  simp only [Nat.zero_mul, Nat.add_zero] at f2
  have HC : Hid (∀ j, j < l.length → w.cell? ⟨g, off + j * 3 + 2, none⟩ = some (.int .i64 (l.getD j e0).2.2)) := hide fun j hj => by
    obtain ⟨g', off', e, _, _, _, d⟩ := hc j hj
    simp only [Option.some.injEq, Addr.mk.injEq] at e
    obtain ⟨rfl, rfl, -⟩ := e
    exact d
  have HS : Hid (∀ j, j < l.length → cntE (l.take (j + 1)) (l.getD 0 e0).2.2 = cntE (l.take j) (l.getD 0 e0).2.2 + if (l.getD j e0).2.2 = (l.getD 0 e0).2.2 then 1 else 0) := hide fun j hj => cntE_succ hj
  have HL : Hid (∀ j, cntE (l.take j) (l.getD 0 e0).2.2 ≤ j) := hide fun j => Nat.le_trans (cntE_le _ _) (List.length_take_le _ _)
  have HT : Hid (cntE (l.take l.length) (l.getD 0 e0).2.2 = cntE l (l.getD 0 e0).2.2) := hide (by rw [List.take_length])
  have H0 : Hid (cntE (l.take 0) (l.getD 0 e0).2.2 = 0) := hide rfl
  clear h hc hn
  generalize cntE l (l.getD 0 e0).2.2 = R at *
  generalize hx : (l.getD 0 e0).2.2 = x at *
  generalize l.length = n at *
  go_enter Try.func21, Try.ntmps21
  go_wp2_with fail
  go_loopw [4, 5] (fun z i wr => ∃ j : Nat, j ≤ n ∧ i = .int .i64 (j : Int) ∧ z = .int .i64 (cntE (l.take j) x : Int) ∧ ∃ m, wr = w.drewN m) (fun _ i _ => n - (intOf i).toNat)
  case atStart => exact ⟨0, Nat.zero_le _, rfl, by rw [H0.out]; rfl, 0, rfl⟩
  case round =>
    obtain ⟨j, hj, rfl, rfl, m0, rfl⟩ := hrel
    by_cases hlt : j < n
    · have d2 := HC.out j hlt
      have hs := HS.out j hlt
      have hle := HL.out j
      generalize cntE (l.take j) x = z at *
      by_cases hxy : (l.getD j e0).2.2 = x
      · rw [if_pos hxy] at hs
        rw [hxy] at d2
        have HZ := hide hs
        clear HC HS HL hs hxy HT H0
        go_wp2_with fail
        try go_quiet (fail)
        try go_wp2_with fail
        go_roundw
        case rel => exact ⟨j + 1, by omega, by go_num, by rw [HZ.out]; go_num, _, rfl⟩
        case measure => simp [intOf]; omega
      · rw [if_neg hxy] at hs
        have HZ := hide hs
        have hne2 : ((l.getD j e0).2.2 == x) = false := by simpa using hxy
        generalize (l.getD j e0).2.2 = y at *
        clear HC HS HL hs hxy HT H0
        go_wp2_with fail
        try go_quiet (fail)
        try go_wp2_with fail
        go_roundw
        case rel => exact ⟨j + 1, by omega, by go_num, by rw [HZ.out]; go_num, _, rfl⟩
        case measure => simp [intOf]; omega
    · have ej : j = n := by omega
      subst ej
      have hR := HT.out
      rw [hR]
      clear HC HS HL HT H0 hR
      go_wp2_with fail
      (try simp only [Exit.inBlock, Exit.then]); refine bodyPost_ret (results_tmp2 rfl _ _ _) rfl ?_
      exact ⟨rfl, _, rfl⟩
set_option maxHeartbeats 1000000 in
theorem lOldest_nil (w : World) (v : Value) (h : ERow w v []) : Calls Try.prog 21 #[v] w fun e w' => e = .returned (.tuple #[.int .i64 0, .int .i64 0]) ∧ ∃ m, w' = w.drewN m := by
  obtain ⟨a, c, rfl, b1, b2, hc⟩ := h.form
  simp only [List.length_nil] at *
  clear h hc
  go_enter Try.func21, Try.ntmps21
  go_wp2_with fail
  (try simp only [Exit.inBlock, Exit.then]); refine bodyPost_ret (results_tmp2 rfl _ _ _) rfl ?_
  exact ⟨rfl, 0, rfl⟩
end Go.Proofs.Ytcdmkbjibcahcaa
