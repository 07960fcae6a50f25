import Derived.Test.YtijfnacplikibabKKeep
namespace Go.Proofs.Ytijfnacplikibab
open Go.RowKit
set_option linter.unusedVariables false
set_option linter.unusedSimpArgs false
set_option maxRecDepth 20000

/-- nothing but the tape has turned -/
def Qt (w w' : World) : Prop := w'.heap = w.heap ∧ Below w.heap.size w w'
theorem Qt.refl (w : World) : Qt w w := ⟨rfl, Below.refl _ _⟩
theorem Qt.drewN {w w1 : World} (h : Qt w w1) (n : Nat) : Qt w (w1.drewN n) := ⟨by rw [← h.1]; induction n with | zero => rfl | succ n ih => exact ih, below_drewN h.2 n⟩
theorem Qt.trans {a b c : World} (h : Qt a b) (k : Qt b c) : Qt a c := ⟨k.1.trans h.1, h.2.trans (k.2.mono h.2.size)⟩
theorem Qt.drew {w w1 : World} (h : Qt w w1) : Qt w w1.drew := ⟨h.1, h.2.drew⟩
theorem isl_row {w : World} {v : Value} {l : List Int} (h : IRow w v l) : ISl w v l := by
  obtain ⟨a, cap, e, h1, h2⟩ := rowForm h
  subst e
  have h' : w.ownsRow 0 3 1 (.slice a l.length cap) l.length (l.map iV) := h
  refine ⟨a, cap, rfl, h1, h2, fun e => ?_, fun hp => ?_⟩
  · subst e
    rcases h'.2 with ⟨e, _⟩ | ⟨g, _, _, e, _⟩
    · simp only [Value.slice.injEq] at e; exact e.2.2
    · simp at e
  · obtain ⟨g, cp, e, _, _⟩ := h.cell (j := 0) (z := l.getD 0 0) (by simp [List.getD, hp])
    simp only [Value.slice.injEq] at e
    refine ⟨g, 0, e.1, fun i hi => ?_⟩
    obtain ⟨g', cp', e', _, hc⟩ := h.cell (j := i) (z := l.getD i 0) (by simp [List.getD, hi])
    simp only [Value.slice.injEq] at e'
    have : g = g' := by have := e.1.symm.trans e'.1; simpa using this
    subst this
    rw [Nat.zero_add]
    exact hc
set_option maxHeartbeats 1000000 in
theorem same_isl {w : World} {u v : Value} {l k : List Int} (hu : ISl w u l) (hv : ISl w v k) : Calls Try.prog 19 #[u, v] w fun e w' => e = .returned (.bool (decide (l = k))) ∧ Qt w w' := by
  obtain ⟨a1, c1, rfl, b1, b2, -, d1⟩ := hu
  obtain ⟨a2, c2, rfl, b3, b4, -, d2⟩ := hv
  unfold maxLen at b2 b4
  by_cases hl : l.length = k.length
  · have HC : Hid (∀ j, j < l.length → ∃ g o g' o', a1 = some ⟨g, o, none⟩ ∧ a2 = some ⟨g', o', none⟩ ∧ w.cell? ⟨g, o + j, none⟩ = some (.int .i64 (l.getD j 0)) ∧ w.cell? ⟨g', o' + j, none⟩ = some (.int .i64 (k.getD j 0))) := hide fun j hj => by
      obtain ⟨g, o, e, hc⟩ := d1 (by omega)
      obtain ⟨g', o', e', hc'⟩ := d2 (by omega)
      exact ⟨g, o, g', o', e, e', hc j hj, hc' j (by omega)⟩
    have HE : Hid ((∀ j, j < l.length → l.getD j 0 = k.getD j 0) → decide (l = k) = true) := hide fun h => decide_eq_true (List.ext_getElem hl fun j h1 h2 => by
      have := h j h1
      simpa [List.getD, h1, h2] using this)
    have HNE : Hid (∀ j, j < l.length → l.getD j 0 ≠ k.getD j 0 → decide (l = k) = false) := hide fun j hj h => decide_eq_false fun e => h (by rw [e])
    have hne : (((l.length : Nat) : Int) != ((k.length : Nat) : Int)) = false := by rw [hl]; simp
    clear d1 d2
    rw [← hl] at *
    clear hl
    generalize l.length = n at *
    generalize decide (l = k) = R at *
    go_enter Try.func19, Try.ntmps19
    go_wp2_with fail
    go_loopw [5] (fun x wr => ∃ j : Nat, j ≤ n ∧ x = .int .i64 (j : Int) ∧ (∃ m, wr = w.drewN m) ∧ ∀ i, i < j → l.getD i 0 = k.getD i 0) (fun x _ => n - (intOf x).toNat)
    case atStart => exact ⟨0, Nat.zero_le _, rfl, ⟨0, rfl⟩, fun i hi => by omega⟩
    case round =>
      obtain ⟨j, hj, rfl, ⟨m0, rfl⟩, hz⟩ := hrel
      have HZ := hide hz
      clear hz
      by_cases hlt : j < n
      · obtain ⟨g, o, g', o', rfl, rfl, d1, d2⟩ := HC.out j hlt
        clear HC
        by_cases hxy : l.getD j 0 = k.getD j 0
        · have HN : Hid (∀ i, i < j + 1 → l.getD i 0 = k.getD i 0) := hide fun i hi => by
            by_cases e : i = j
            · rw [e]; exact hxy
            · exact HZ.out i (by omega)
          rw [← hxy] at d2
          clear hxy HZ HE HNE
          generalize l.getD j 0 = x at *
          have hne : ((x : Int) != (x : Int)) = false := by simp
          go_wp2_with fail
          go_quiet (fail)
          go_wp2_with fail
          go_roundw
          case rel => exact ⟨j + 1, by omega, by go_num, ⟨_, rfl⟩, HN.out⟩
          case measure => simp [intOf]; omega
        · have hF := HNE.out j hlt hxy
          subst hF
          have hne : (l.getD j 0 != k.getD j 0) = true := by simpa using hxy
          clear hxy HZ HE HNE
          generalize l.getD j 0 = x at *
          generalize k.getD j 0 = y at *
          go_wp2_with fail
          go_quiet (fail)
          go_wp2_with fail
          go_ret
          exact ⟨rfl, ((Qt.refl w).drewN m0).drewN nq⟩
      · have ej : j = n := by omega
        subst ej
        have hT := HE.out HZ.out
        subst hT
        clear HC HE HNE HZ
        go_wp2_with fail
        go_ret
        exact ⟨rfl, (Qt.refl w).drewN _⟩
  · have hF : decide (l = k) = false := decide_eq_false fun e => hl (by rw [e])
    have hne : (((l.length : Nat) : Int) != ((k.length : Nat) : Int)) = true := by simp; omega
    rw [hF]
    clear d1 d2 hF hl
    generalize l.length = n at *
    generalize k.length = m at *
    go_enter Try.func19, Try.ntmps19
    go_wp2_with fail
    go_ret
    exact ⟨rfl, Qt.refl w⟩
end Go.Proofs.Ytijfnacplikibab
