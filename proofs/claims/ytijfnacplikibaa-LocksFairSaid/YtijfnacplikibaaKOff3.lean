import Derived.Test.YtijfnacplikibaaKOff2
namespace Go.Proofs.Ytijfnacplikibaa
open Go.RowKit
set_option linter.unusedVariables false
set_option linter.unusedSimpArgs false
set_option maxRecDepth 20000

set_option maxHeartbeats 1000000 in
theorem has_off (w : World) (a1 : Option Addr) (c1 : Nat) (l : List Int) (o : Int) (b1 : l.length ≤ c1) (b2 : c1 ≤ maxLen) (hc : ∀ j, j < l.length → ∃ g off, a1 = some ⟨g, off, none⟩ ∧ w.cell? ⟨g, off + j, none⟩ = some (.int .i64 (l.getD j 0))) : Calls Try.prog 20 #[.slice a1 l.length c1, .int .i64 o] w fun e w' => e = .returned (.bool (l.contains o)) ∧ w' = w := by
  unfold maxLen at b2
  have HC := hide hc
  have HY : Hid (∀ j, j < l.length → l.getD j 0 = o → l.contains o = true) := hide fun j hj e => by
    rw [List.contains_iff_mem]
    rw [← e]
    simp [List.getD, hj]
  have HNO : Hid ((∀ j, j < l.length → l.getD j 0 ≠ o) → l.contains o = false) := hide fun h => by
    rw [← Bool.not_eq_true, List.contains_iff_mem]
    intro hm
    obtain ⟨j, hj, e⟩ := List.mem_iff_getElem.1 hm
    exact h j hj (by simp [List.getD, hj, e])
  clear hc
  generalize l.length = n at *
  generalize l.contains o = R at *
  go_enter Try.func20, Try.ntmps20
  go_wp2_with fail
  go_loopw [5] (fun x wr => ∃ j : Nat, j ≤ n ∧ x = .int .i64 (j : Int) ∧ wr = w ∧ ∀ i, i < j → l.getD i 0 ≠ o) (fun x _ => n - (intOf x).toNat)
  case atStart => exact ⟨0, Nat.zero_le _, rfl, rfl, fun i hi => by omega⟩
  case round =>
    obtain ⟨j, hj, rfl, rfl, hz⟩ := hrel
    have HZ := hide hz
    clear hz
    by_cases hlt : j < n
    · obtain ⟨g, off, rfl, d1⟩ := HC.out j hlt
      by_cases hxy : l.getD j 0 = o
      · have hR := HY.out j hlt hxy
        subst hR
        rw [hxy] at d1
        clear HC HY HNO HZ hxy
        go_wp2_with fail
        go_ret
        exact ⟨rfl, rfl⟩
      · have HN : Hid (∀ i, i < j + 1 → l.getD i 0 ≠ o) := hide fun i hi => by
          by_cases e : i = j
          · rw [e]; exact hxy
          · exact HZ.out i (by omega)
        have hne : (l.getD j 0 == o) = false := by simpa using hxy
        clear hxy HZ HC HY HNO
        generalize l.getD j 0 = x at *
        go_wp2_with fail
        go_roundw
        case rel => exact ⟨j + 1, by omega, by go_num, trivial, HN.out⟩
        case measure => simp [intOf]; omega
    · have ej : j = n := by omega
      subst ej
      have hR := HNO.out HZ.out
      subst hR
      clear HC HY HNO HZ
      go_wp2_with fail
      go_ret
      exact ⟨rfl, rfl⟩
theorem ORow.form {w : World} {v : Value} {l : List Int} (h : ORow w v l) : ∃ a c, v = .slice a l.length c ∧ l.length ≤ c ∧ c ≤ maxLen ∧ ∀ j, j < l.length → ∃ g off, a = some ⟨g, off, none⟩ ∧ w.cell? ⟨g, off + j, none⟩ = some (.int .i64 (l.getD j 0)) := by
  have h' := h
  rcases h with ⟨rfl, rfl⟩ | ⟨g, off, cap, cur, rfl, hg, h1, h2, h3, h4⟩
  · exact ⟨none, 0, rfl, Nat.le_refl _, Nat.zero_le _, fun j hj => by simp at hj⟩
  · refine ⟨_, cap, rfl, h2, h3, fun j hj => ?_⟩
    obtain ⟨g', off', cap', e, _, hc⟩ := h'.cell hj
    simp only [Value.slice.injEq] at e
    exact ⟨g', off', e.1, hc⟩
theorem hasO_any (w : World) (v : Value) (l : List Int) (o : Int) (h : ORow w v l) : Calls Try.prog 20 #[v, .int .i64 o] w fun e w' => e = .returned (.bool (l.contains o)) ∧ w' = w := by
  obtain ⟨a, c, rfl, h1, h2, h3⟩ := h.form
  exact has_off w a c l o h1 h2 h3
end Go.Proofs.Ytijfnacplikibaa
