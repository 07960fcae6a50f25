import Derived.Test.YtijfnacplikibaaKOff3
import Derived.Test.YtijfnacplikibaaKSame
namespace Go.Proofs.Ytijfnacplikibaa
open Go.RowKit
set_option linter.unusedVariables false
set_option linter.unusedSimpArgs false
set_option maxRecDepth 20000

set_option maxHeartbeats 1000000 in
theorem sameO_drew (w : World) (u v : Value) (l k : List Int) (hu : ORow w u l) (hv : ORow w v k) : Calls Try.prog 17 #[u, v] w fun e w' => e = .returned (.bool (decide (l = k))) ∧ ∃ m, w' = w.drewN m := by
  obtain ⟨a1, c1, rfl, b1, b2, hu3⟩ := hu.form
  obtain ⟨a2, c2, rfl, b3, b4, hv3⟩ := hv.form
  unfold maxLen at b2 b4
  by_cases hl : l.length = k.length
  · have HC : Hid (∀ j, j < l.length → ∃ g o1 g' o2, a1 = some ⟨g, o1, none⟩ ∧ a2 = some ⟨g', o2, none⟩ ∧ w.cell? ⟨g, o1 + j, none⟩ = some (.int .i64 (l.getD j 0)) ∧ w.cell? ⟨g', o2 + j, none⟩ = some (.int .i64 (k.getD j 0))) := hide fun j hj => by
      obtain ⟨g, o1, e1, hc⟩ := hu3 j hj
      obtain ⟨g', o2, e2, hc'⟩ := hv3 j (by omega)
      exact ⟨g, o1, g', o2, e1, e2, hc, hc'⟩
    have HE : Hid ((∀ j, j < l.length → l.getD j 0 = k.getD j 0) → decide (l = k) = true) := hide fun h => decide_eq_true (List.ext_getElem hl fun j h1 h2 => by
      have := h j h1
      simpa [List.getD, h1, h2] using this)
    have HNE : Hid (∀ j, j < l.length → l.getD j 0 ≠ k.getD j 0 → decide (l = k) = false) := hide fun j hj h => decide_eq_false fun e => h (by rw [e])
    have hne : (((l.length : Nat) : Int) != ((k.length : Nat) : Int)) = false := by rw [hl]; simp
    clear hu hv hu3 hv3
    rw [← hl] at *
    clear hl
    generalize l.length = n at *
    generalize decide (l = k) = R at *
    go_enter Try.func17, Try.ntmps17
    go_wp2_with fail
    go_loopw [5] (fun x wr => ∃ j : Nat, j ≤ n ∧ x = .int .i64 (j : Int) ∧ (∃ m, wr = w.drewN m) ∧ ∀ i, i < j → l.getD i 0 = k.getD i 0) (fun x _ => n - (intOf x).toNat)
    case atStart => exact ⟨0, Nat.zero_le _, rfl, ⟨0, rfl⟩, fun i hi => by omega⟩
    case round =>
      obtain ⟨j, hj, rfl, ⟨m0, rfl⟩, hz⟩ := hrel
      have HZ := hide hz
      clear hz
      by_cases hlt : j < n
      · obtain ⟨g, o1, g', o2, rfl, rfl, hc, hc'⟩ := HC.out j hlt
        have d1 := hc
        have d2 := hc'
        clear hc hc' HC
        by_cases hxy : l.getD j 0 = k.getD j 0
        · have HN : Hid (∀ i, i < j + 1 → l.getD i 0 = k.getD i 0) := hide fun i hi => by
            by_cases e : i = j
            · rw [e]; exact hxy
            · exact HZ.out i (by omega)
          rw [← hxy] at d2
          clear hxy HZ HE HNE
          generalize l.getD j 0 = x at *
          have hne : ((x : Int) != (x : Int)) = false := by simp
          go_wp2_with fail
          go_quiet (fail)
          go_wp2_with fail
          go_roundw
          case rel => exact ⟨j + 1, by omega, by go_num, ⟨_, rfl⟩, HN.out⟩
          case measure => simp [intOf]; omega
        · have hF := HNE.out j hlt hxy
          subst hF
          have hne : (l.getD j 0 != k.getD j 0) = true := by simpa using hxy
          clear hxy HZ HE HNE
          generalize l.getD j 0 = x at *
          generalize k.getD j 0 = y at *
          go_wp2_with fail
          go_quiet (fail)
          go_wp2_with fail
          go_ret
          exact ⟨rfl, m0 + nq, World.drewN_drewN ..⟩
      · have ej : j = n := by omega
        subst ej
        have hT := HE.out HZ.out
        subst hT
        clear HC HE HNE HZ
        go_wp2_with fail
        go_ret
        exact ⟨rfl, _, rfl⟩
  · have hF : decide (l = k) = false := decide_eq_false fun e => hl (by rw [e])
    have hne : (((l.length : Nat) : Int) != ((k.length : Nat) : Int)) = true := by simp; omega
    rw [hF]
    clear hu hv hu3 hv3 hF hl
    generalize l.length = n at *
    generalize k.length = m at *
    go_enter Try.func17, Try.ntmps17
    go_wp2_with fail
    go_ret
    exact ⟨rfl, 0, rfl⟩
end Go.Proofs.Ytijfnacplikibaa
