import Derived.Test.YtglajdmkbckjjaaDoorBMu
namespace Go.Proofs.YtglajdmkbckjjaaDoor
open Go.RowKit Go.Shelf
set_option linter.unusedVariables false
set_option linter.unusedSimpArgs false
set_option maxRecDepth 20000

set_option maxHeartbeats 1000000 in
theorem mu_walk {w : World} {va vb : Value} {la lb : List Nat} (n : Int) (hT : TabAt w) (hva : WSl w va la) (hra : la.length ≤ 17592186044416) (hvb : WSl w vb lb) (hrb : lb.length ≤ 17592186044416) :
    Calls Tryd.prog 4 #[.int .i64 n, va, vb] w fun e w' => e = .returned (.bool true) ∧ Below w.heap.size w w' := by
  by_cases hc : canB n la = true ∧ canB n lb = true
  · obtain ⟨m, rfl, h1, h2, he⟩ := canB_true hc.1
    obtain ⟨m', e, _, _, he2⟩ := canB_true hc.2
    obtain rfl : m = m' := by omega
    exact mu_main m hT hva hra hvb hrb h1 h2 he he2
  · have HLA : Hid (∀ W, Qt w W → Calls Tryd.prog 9 #[.int .i64 n, va] W fun e w' => e = .returned (.bool (canB n la)) ∧ w' = W) := hide fun W hq => listed_any n (hq.wsl hva)
    have HLB : Hid (∀ W, Qt w W → Calls Tryd.prog 9 #[.int .i64 n, vb] W fun e w' => e = .returned (.bool (canB n lb)) ∧ w' = W) := hide fun W hq => listed_any n (hq.wsl hvb)
    have hq0 := Qt.refl w
    obtain ⟨aa, capa, rfl⟩ := hva.val
    obtain ⟨ab, capb, rfl⟩ := hvb.val
    clear hva hvb hra hrb hT
    generalize la.length = lla at *
    generalize lb.length = llb at *
    cases ha : canB n la
    · rw [ha] at HLA
      clear hc ha
      cases hb : canB n lb
      all_goals
        rw [hb] at HLB
        clear hb
        go_enter Tryd.func4, Tryd.ntmps4
        go_wp2_with (first
          | (go_at_call 9; (refine (HLA.out _ hq0).mono ?_); clear HLA; rintro e w' ⟨rfl, hw'⟩; subst hw')
          | (go_at_call 9; (refine (HLB.out _ hq0).mono ?_); clear HLB; rintro e w' ⟨rfl, hw'⟩; subst hw'))
        go_ret
        exact ⟨rfl, Below.refl _ _⟩
    · have hb : canB n lb = false := by
        cases hb : canB n lb
        · rfl
        · exact absurd ⟨ha, hb⟩ hc
      rw [ha] at HLA
      rw [hb] at HLB
      clear hc ha hb
      go_enter Tryd.func4, Tryd.ntmps4
      go_wp2_with (first
        | (go_at_call 9; (refine (HLA.out _ hq0).mono ?_); clear HLA; rintro e w' ⟨rfl, hw'⟩; subst hw')
        | (go_at_call 9; (refine (HLB.out _ hq0).mono ?_); clear HLB; rintro e w' ⟨rfl, hw'⟩; subst hw'))
      go_ret
      exact ⟨rfl, Below.refl _ _⟩
end Go.Proofs.YtglajdmkbckjjaaDoor
