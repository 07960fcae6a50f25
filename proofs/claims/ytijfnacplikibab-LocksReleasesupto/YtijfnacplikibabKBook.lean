import Derived.Test.YtijfnacplikibabKTab
namespace Go.Proofs.Ytijfnacplikibab
open Go.RowKit
set_option linter.unusedVariables false
set_option linter.unusedSimpArgs false
set_option maxRecDepth 20000

theorem IRow.cell {w : World} {v : Value} {l : List Int} (h : IRow w v l) {j : Nat} {z : Int} (hj : l[j]? = some z) : ∃ g cap, v = .slice (some ⟨g, 0, none⟩) l.length cap ∧ g < w.heap.size ∧ w.cell? ⟨g, j, none⟩ = some (.int .i64 z) := by
  have hl : j < l.length := (List.getElem?_eq_some_iff.1 hj).1
  have hlt := @IRow.lt w v l h
  have h' : w.ownsRow 0 3 1 v l.length (l.map iV) := h
  have h2 := h'
  rcases h'.2 with ⟨_, e⟩ | ⟨g, cap, cur, rfl, _, hg, _⟩
  · omega
  · refine ⟨g, cap, rfl, hlt rfl, ?_⟩
    rw [h2.cellAt j (by omega), List.getElem?_map, hj]
    rfl
set_option maxHeartbeats 1000000 in
theorem same_any (w : World) (u v : Value) (l k : List Int) (hu : IRow w u l) (hv : IRow w v k) : Calls Try.prog 19 #[u, v] w fun e w' => e = .returned (.bool (decide (l = k))) ∧ Below w.heap.size w w' := by
  obtain ⟨a1, c1, rfl, b1, b2⟩ := rowForm hu
  obtain ⟨a2, c2, rfl, b3, b4⟩ := rowForm hv
  unfold maxLen at b2 b4
  by_cases hl : l.length = k.length
  · have HC : Hid (∀ j, j < l.length → ∃ g g', a1 = some ⟨g, 0, none⟩ ∧ a2 = some ⟨g', 0, none⟩ ∧ g < w.heap.size ∧ g' < w.heap.size ∧ w.cell? ⟨g, j, none⟩ = some (.int .i64 (l.getD j 0)) ∧ w.cell? ⟨g', j, none⟩ = some (.int .i64 (k.getD j 0))) := hide fun j hj => by
      obtain ⟨g, cp, e, hg, hc⟩ := hu.cell (j := j) (z := l.getD j 0) (by simp [List.getD, hj])
      obtain ⟨g', cp', e', hg', hc'⟩ := hv.cell (j := j) (z := k.getD j 0) (by simp [List.getD, hl ▸ hj])
      simp only [Value.slice.injEq] at e e'
      exact ⟨g, g', e.1, e'.1, hg, hg', hc, hc'⟩
    have HE : Hid ((∀ j, j < l.length → l.getD j 0 = k.getD j 0) → decide (l = k) = true) := hide fun h => decide_eq_true (List.ext_getElem hl fun j h1 h2 => by
      have := h j h1
      simpa [List.getD, h1, h2] using this)
    have HNE : Hid (∀ j, j < l.length → l.getD j 0 ≠ k.getD j 0 → decide (l = k) = false) := hide fun j hj h => decide_eq_false fun e => h (by rw [e])
    have hne : (((l.length : Nat) : Int) != ((k.length : Nat) : Int)) = false := by rw [hl]; simp
    clear hu hv
    rw [← hl] at *
    clear hl
    generalize l.length = n at *
    generalize decide (l = k) = R at *
    go_enter Try.func19, Try.ntmps19
    go_wp2_with fail
    go_loopw [5] (fun x wr => ∃ j : Nat, j ≤ n ∧ x = .int .i64 (j : Int) ∧ Below w.heap.size w wr ∧ ∀ i, i < j → l.getD i 0 = k.getD i 0) (fun x _ => n - (intOf x).toNat)
    case atStart => exact ⟨0, Nat.zero_le _, rfl, Below.refl _ _, fun i hi => by omega⟩
    case round =>
      obtain ⟨j, hj, rfl, hbe, hz⟩ := hrel
      have HZ := hide hz
      have HBE := hide hbe
      clear hz hbe
      by_cases hlt : j < n
      · obtain ⟨g, g', rfl, rfl, hg, hg', hc, hc'⟩ := HC.out j hlt
        have d1 := (below_cell HBE.out hg j).trans hc
        have d2 := (below_cell HBE.out hg' j).trans hc'
        clear hc hc' HC
        by_cases hxy : l.getD j 0 = k.getD j 0
        · have HN : Hid (∀ i, i < j + 1 → l.getD i 0 = k.getD i 0) := hide fun i hi => by
            by_cases e : i = j
            · rw [e]; exact hxy
            · exact HZ.out i (by omega)
          rw [← hxy] at d2
          clear hxy HZ HE HNE
          generalize l.getD j 0 = x at *
          have hne : ((x : Int) != (x : Int)) = false := by simp
          go_wp2_with fail
          go_quiet (fail)
          go_wp2_with fail
          go_roundw
          case rel => exact ⟨j + 1, by omega, by go_num, below_drewN HBE.out _, HN.out⟩
          case measure => simp [intOf]; omega
        · have hF := HNE.out j hlt hxy
          subst hF
          have hne : (l.getD j 0 != k.getD j 0) = true := by simpa using hxy
          clear hxy HZ HE HNE
          generalize l.getD j 0 = x at *
          generalize k.getD j 0 = y at *
          go_wp2_with fail
          go_quiet (fail)
          go_wp2_with fail
          go_ret
          exact ⟨rfl, below_drewN HBE.out _⟩
      · have ej : j = n := by omega
        subst ej
        have hT := HE.out HZ.out
        subst hT
        clear HC HE HNE HZ
        go_wp2_with fail
        go_ret
        exact ⟨rfl, HBE.out⟩
  · have hF : decide (l = k) = false := decide_eq_false fun e => hl (by rw [e])
    have hne : (((l.length : Nat) : Int) != ((k.length : Nat) : Int)) = true := by simp; omega
    rw [hF]
    clear hu hv hF hl
    generalize l.length = n at *
    generalize k.length = m at *
    go_enter Try.func19, Try.ntmps19
    go_wp2_with fail
    go_ret
    exact ⟨rfl, Below.refl _ _⟩
end Go.Proofs.Ytijfnacplikibab
