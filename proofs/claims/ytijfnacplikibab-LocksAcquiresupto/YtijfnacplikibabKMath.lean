import Derived.Test.YtijfnacplikibabKRel
namespace Go.Proofs.Ytijfnacplikibab
open Go.RowKit
set_option linter.unusedVariables false
set_option linter.unusedSimpArgs false

abbrev LL := Nat → List (Int × Int)
/-- how many wait -/
def rowsum (L : LL) : Nat → Nat
  | 0 => 0
  | n + 1 => rowsum L n + (L (n * 2 + 1)).length
theorem rowsum_congr {L M : LL} : ∀ {n : Nat}, (∀ e, e < n → (L (e * 2 + 1)).length = (M (e * 2 + 1)).length) → rowsum L n = rowsum M n
  | 0, _ => rfl
  | n + 1, h => by rw [rowsum, rowsum, rowsum_congr fun e he => h e (by omega), h n (by omega)]
theorem rowsum_upd (L : LL) (e : Nat) (x : List (Int × Int)) : ∀ {n : Nat}, e < n → rowsum (upd L (e * 2 + 1) x) n + (L (e * 2 + 1)).length = rowsum L n + x.length
  | 0, h => by omega
  | n + 1, h => by
    by_cases he : e = n
    · subst he
      rw [rowsum, rowsum, upd_same, rowsum_congr (M := L) fun i hi => by rw [upd_other _ _ _ (by omega)]]
      omega
    · have := rowsum_upd L e x (n := n) (by omega)
      rw [rowsum, rowsum, upd_other _ _ _ (by omega)]
      omega
theorem rowsum_even (L : LL) (e : Nat) (x : List (Int × Int)) (n : Nat) : rowsum (upd L (e * 2) x) n = rowsum L n := rowsum_congr fun i hi => by rw [upd_other _ _ _ (by omega)]
theorem rowsum_ge (L : LL) (e : Nat) : ∀ {n : Nat}, e < n → (L (e * 2 + 1)).length ≤ rowsum L n
  | 0, h => by omega
  | n + 1, h => by
    by_cases he : e = n
    · subst he; rw [rowsum]; omega
    · have := rowsum_ge L e (n := n) (by omega)
      rw [rowsum]; omega
/-- a table's state is sound: B bounds each extent's places -/
structure WF (n : Nat) (L : LL) (ws wt : Int) (B : Nat) : Prop where
  ws0 : 0 ≤ ws ∧ ws ≤ 512
  sum : wt = (rowsum L n : Int)
  le : wt ≤ ws
  len : ∀ e, (L (e * 2)).length + (L (e * 2 + 1)).length ≤ B
theorem WF.all {n : Nat} {L : LL} {ws wt : Int} {B : Nat} (h : WF n L ws wt B) (k : Nat) : (L k).length ≤ B := by
  have := h.len (k / 2)
  rcases (by omega : k = k / 2 * 2 ∨ k = k / 2 * 2 + 1) with e | e
  · rw [← e] at this; omega
  · rw [← e] at this; omega
theorem WF.row {n : Nat} {L : LL} {ws wt : Int} {B : Nat} (h : WF n L ws wt B) {e : Nat} (he : e < n) : ((L (e * 2 + 1)).length : Int) ≤ wt := by
  have := rowsum_ge L e he
  have := h.sum
  omega
theorem WF.mono {n : Nat} {L : LL} {ws wt : Int} {B C : Nat} (h : WF n L ws wt B) (hc : B ≤ C) : WF n L ws wt C := ⟨h.ws0, h.sum, h.le, fun e => by have := h.len e; omega⟩
/-- what Acquire says and does -/
structure AR where
  err : Int
  gr : Bool
  L : LL
  wt : Int
def acq (n : Nat) (L : LL) (ws wt e o md : Int) : AR :=
  if ¬ md = 1 ∧ ¬ md = 2 then ⟨1, false, L, wt⟩ else if ¬ (0 ≤ e ∧ e < (n : Int)) then ⟨2, false, L, wt⟩
  else if has (L (e.toNat * 2)) o || has (L (e.toNat * 2 + 1)) o then ⟨91, false, L, wt⟩
  else if L (e.toNat * 2 + 1) = [] ∧ goesB (L (e.toNat * 2)) md = true then ⟨0, true, upd L (e.toNat * 2) (L (e.toNat * 2) ++ [(o, md)]), wt⟩
  else if ws ≤ wt then ⟨4, false, L, wt⟩
  else ⟨0, false, upd L (e.toNat * 2 + 1) (L (e.toNat * 2 + 1) ++ [(o, md)]), wt + 1⟩
theorem acq_wf {n : Nat} {L : LL} {ws wt : Int} {B : Nat} (h : WF n L ws wt B) (e o md : Int) : WF n (acq n L ws wt e o md).L ws (acq n L ws wt e o md).wt (B + 1) := by
  unfold acq
  have h' := h.mono (Nat.le_succ B)
  split
  · exact h'
  · split
    · exact h'
    · rename_i he
      have he : 0 ≤ e ∧ e < (n : Int) := Classical.not_not.1 he
      have hen : e.toNat < n := by omega
      split
      · exact h'
      · split
        · refine ⟨h.ws0, by rw [rowsum_even]; exact h.sum, h.le, fun k => ?_⟩
          have hk := h.len k
          dsimp only
          by_cases hke : k = e.toNat
          · subst hke
            rw [upd_same, upd_other _ _ _ (by omega), List.length_append]
            simp
            omega
          · rw [upd_other _ _ _ (by omega), upd_other _ _ _ (by omega)]
            omega
        · split
          · exact h'
          · rename_i hlt
            have hs := rowsum_upd L e.toNat (L (e.toNat * 2 + 1) ++ [(o, md)]) hen
            rw [List.length_append, List.length_singleton] at hs
            refine ⟨h.ws0, ?_, by show wt + 1 ≤ ws; omega, fun k => ?_⟩
            · show wt + 1 = ((rowsum (upd L (e.toNat * 2 + 1) (L (e.toNat * 2 + 1) ++ [(o, md)])) n : Nat) : Int)
              have := h.sum
              omega
            · have hk := h.len k
              dsimp only
              by_cases hke : k = e.toNat
              · subst hke
                rw [upd_same, upd_other _ _ _ (by omega), List.length_append]
                simp
                omega
              · rw [upd_other _ _ _ (by omega), upd_other _ _ _ (by omega)]
                omega
/-- what Release says and does -/
def relWt (L : LL) (wt : Int) (e : Nat) (o : Int) : Int := wt - (((L (e * 2 + 1)).length : Int) - ((relL L e o (e * 2 + 1)).length : Int))
theorem relL_other {L : LL} {e : Nat} {o : Int} {k : Nat} (h0 : k ≠ e * 2) (h1 : k ≠ e * 2 + 1) : relL L e o k = L k := by
  unfold relL leaveL
  rw [upd_other _ _ _ h1, upd_other _ _ _ h0]
  split
  · rw [upd_other _ _ _ h0]
  · split
    · rw [upd_other _ _ _ h1]
    · rfl
theorem relL_sum (L : LL) (e : Nat) (o : Int) : (relL L e o (e * 2)).length + (relL L e o (e * 2 + 1)).length ≤ (L (e * 2)).length + (L (e * 2 + 1)).length := by
  have h0 := leaveL_len L e o (e * 2)
  have h1 := leaveL_len L e o (e * 2 + 1)
  unfold relL
  rw [upd_same, upd_other _ _ _ (by omega), upd_same, List.length_append, List.length_take, List.length_drop]
  omega
theorem rel_wf {n : Nat} {L : LL} {ws wt : Int} {B : Nat} (h : WF n L ws wt B) {e : Nat} (he : e < n) (o : Int) : WF n (relL L e o) ws (relWt L wt e o) B := by
  have hs : rowsum (relL L e o) n + (L (e * 2 + 1)).length = rowsum L n + (relL L e o (e * 2 + 1)).length := by
    have h1 := rowsum_upd L e (relL L e o (e * 2 + 1)) he
    rw [← h1]
    congr 1
    exact rowsum_congr fun i hi => by
      by_cases hie : i = e
      · subst hie; rw [upd_same]
      · rw [upd_other _ _ _ (by omega), relL_other (by omega) (by omega)]
  have hle := relL_len L e o (e * 2 + 1) (by omega)
  refine ⟨h.ws0, ?_, ?_, fun k => ?_⟩
  · unfold relWt
    have := h.sum
    omega
  · unfold relWt
    have := h.le
    omega
  · have hk := h.len k
    by_cases hke : k = e
    · subst hke
      have := relL_sum L k o
      omega
    · rw [relL_other (by omega) (by omega), relL_other (by omega) (by omega)]
      exact hk
theorem relIn_len (L : LL) (e : Nat) (o : Int) : (relIn L e o).length + (relL L e o (e * 2 + 1)).length ≤ (L (e * 2 + 1)).length := by
  have h1 := leaveL_len L e o (e * 2 + 1)
  unfold relIn relL
  rw [upd_same, List.length_map, List.length_take, List.length_drop]
  omega
end Go.Proofs.Ytijfnacplikibab
