import Derived.Test.YtlmfdbimchhjjabIdCmpM
namespace Go.Proofs.Ytlmfdbimchhjjab
open Go.RowKit
set_option linter.unusedVariables false
set_option linter.unusedSimpArgs false
set_option maxRecDepth 20000

theorem fr_rf : ∀ N1 N2 E x y Z1 Z2 am bm ao bo m sh : Bool, fr (aq true N1 N2 E x y Z1 Z2 am ao m sh bm bo) (aq false N2 N1 E y x Z2 Z1 bm bo m sh am ao) 14 0 = rf N1 N2 E x y Z1 Z2 am bm ao bo m sh := by decide +kernel
theorem fr_mr : ∀ N1 N2 E x y Z1 Z2 am bm ao bo m sh : Bool, fr (aq false N2 N1 E y x Z2 Z1 bm bo m sh am ao) (aq true N1 N2 E x y Z1 Z2 am ao m sh bm bo) 14 0 = (mirK (rf N1 N2 E x y Z1 Z2 am bm ao bo m sh).1, (rf N1 N2 E x y Z1 Z2 am bm ao bo m sh).2) := by decide +kernel
theorem rf_ok : ∀ N1 N2 E x y Z1 Z2 am bm ao bo m sh : Bool, (0 ≤ (rf N1 N2 E x y Z1 Z2 am bm ao bo m sh).1 ∧ (rf N1 N2 E x y Z1 Z2 am bm ao bo m sh).1 ≤ 7) ∧ 1 ≤ (rf N1 N2 E x y Z1 Z2 am bm ao bo m sh).2 ∧ (rf N1 N2 E x y Z1 Z2 am bm ao bo m sh).2 ≤ 14 := by decide +kernel
theorem cmp_rf (P : Pr) (hf : P.f = true) : P.cmp = P.rf := by
  unfold Pr.cmp Pr.rf
  rw [from_fr, show P.ask = _ from funext (ask_aq P), show P.tu.ask = _ from funext (tu_aq P), hf]
  exact fr_rf _ _ _ _ _ _ _ _ _ _ _ _ _
theorem cmp_tu (P : Pr) (hf : P.f = true) : P.tu.cmp = (mirK P.cmp.1, P.cmp.2) := by
  rw [cmp_rf P hf]
  have h2 : P.tu.tu = P := by cases P; simp [Pr.tu]
  unfold Pr.cmp Pr.rf
  rw [from_fr, h2, show P.ask = _ from funext (ask_aq P), show P.tu.ask = _ from funext (tu_aq P), hf]
  exact fr_mr _ _ _ _ _ _ _ _ _ _ _ _ _
theorem cmp_ok (P : Pr) (hf : P.f = true) : (0 ≤ P.cmp.1 ∧ P.cmp.1 ≤ 7) ∧ 1 ≤ P.cmp.2 ∧ P.cmp.2 ≤ 14 := by
  rw [cmp_rf P hf]
  exact rf_ok _ _ _ _ _ _ _ _ _ _ _ _ _
theorem mirK_mir (k : Int) : mirK (mirK k) = k := by unfold mirK; split <;> (try split) <;> (try split) <;> (try split) <;> simp_all
end Go.Proofs.Ytlmfdbimchhjjab
