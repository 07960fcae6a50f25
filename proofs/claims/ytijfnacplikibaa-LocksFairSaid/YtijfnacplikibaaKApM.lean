import Derived.Test.YtijfnacplikibaaKTwo
namespace Go.Proofs.Ytijfnacplikibaa
open Go.RowKit
set_option linter.unusedVariables false
set_option linter.unusedSimpArgs false
set_option maxRecDepth 20000

/-- two tables that agree at one extent -/
def Ag (La Lb : LL) (e : Nat) : Prop := La (e * 2) = Lb (e * 2) ∧ La (e * 2 + 1) = Lb (e * 2 + 1)
theorem acq_ag {n : Nat} {La Lb : LL} {ws wa wb : Int} {e : Nat} {o md : Int} (he : e < n) (h : Ag La Lb e) (ha : wa < ws) (hb : wb < ws) : (acq n La ws wa e o md).gr = (acq n Lb ws wb e o md).gr ∧ (acq n La ws wa e o md).err = (acq n Lb ws wb e o md).err ∧ Ag (acq n La ws wa e o md).L (acq n Lb ws wb e o md).L e := by
  have hne : ¬ ¬ (0 ≤ (e : Int) ∧ (e : Int) < (n : Int)) := fun hc => hc ⟨by omega, by omega⟩
  have ee : e * 2 + 1 ≠ e * 2 := by omega
  have ee' : e * 2 ≠ e * 2 + 1 := by omega
  unfold acq
  simp only [Int.toNat_natCast]
  rw [h.1, h.2]
  split
  · exact ⟨rfl, rfl, h⟩
  · first | rw [if_neg hne, if_neg hne] | rw [if_neg hne] | skip
    split
    · exact ⟨rfl, rfl, h⟩
    · split
      · refine ⟨rfl, rfl, ?_⟩
        unfold Ag
        dsimp only
        rw [upd_same, upd_same, upd_other _ _ _ ee, upd_other _ _ _ ee]
        exact ⟨rfl, h.2⟩
      · rw [if_neg (by omega), if_neg (by omega)]
        refine ⟨rfl, rfl, ?_⟩
        unfold Ag
        dsimp only
        rw [upd_same, upd_same, upd_other _ _ _ ee', upd_other _ _ _ ee']
        exact ⟨h.1, rfl⟩
theorem rls_ag {n : Nat} {La Lb : LL} {wa wb : Int} {e : Nat} {o : Int} (he : e < n) (h : Ag La Lb e) : (rls n La wa e o).err = (rls n Lb wb e o).err ∧ (rls n La wa e o).inn = (rls n Lb wb e o).inn ∧ Ag (rls n La wa e o).L (rls n Lb wb e o).L e := by
  have hne : ¬ ¬ (0 ≤ (e : Int) ∧ (e : Int) < (n : Int)) := fun hc => hc ⟨by omega, by omega⟩
  have ee : e * 2 + 1 ≠ e * 2 := by omega
  have ee' : e * 2 ≠ e * 2 + 1 := by omega
  have hl : leaveL La e o (e * 2) = leaveL Lb e o (e * 2) ∧ leaveL La e o (e * 2 + 1) = leaveL Lb e o (e * 2 + 1) := by
    unfold leaveL
    rw [h.1, h.2]
    split
    · rw [upd_same, upd_same, upd_other _ _ _ ee, upd_other _ _ _ ee]
      exact ⟨rfl, h.2⟩
    · split
      · rw [upd_same, upd_same, upd_other _ _ _ ee', upd_other _ _ _ ee']
        exact ⟨h.1, rfl⟩
      · exact h
  have hk : relK La e o = relK Lb e o := by unfold relK; rw [hl.1, hl.2]
  unfold rls
  rw [if_neg hne, if_neg hne]
  simp only [Int.toNat_natCast]
  rw [h.1, h.2]
  split
  · refine ⟨rfl, ?_, ?_⟩
    · show relIn La e o = relIn Lb e o
      unfold relIn
      rw [hl.2, hk]
    · show Ag (relL La e o) (relL Lb e o) e
      unfold Ag relL
      rw [upd_same, upd_same, upd_other _ _ _ ee', upd_other _ _ _ ee', upd_same, upd_same, hl.1, hl.2, hk]
      exact ⟨rfl, rfl⟩
  · exact ⟨rfl, rfl, h⟩
/-- a call elsewhere does not touch the extent -/
theorem cal_other {n : Nat} {L : LL} {ws wt kind e md o : Int} {x : Nat} (hx : x < n) (he : e ≠ (x : Int)) (hk : kind ≠ 3) : Ag (cal n L ws wt kind e md o).1 L x := by
  unfold cal
  split
  · show Ag (acq n L ws wt e o md).L L x
    unfold acq
    split
    · exact ⟨rfl, rfl⟩
    · split
      · exact ⟨rfl, rfl⟩
      · rename_i hh
        have hh : 0 ≤ e ∧ e < (n : Int) := Classical.not_not.1 hh
        have hne : e.toNat ≠ x := by omega
        split
        · exact ⟨rfl, rfl⟩
        · split
          · exact ⟨upd_other _ _ _ (by omega), upd_other _ _ _ (by omega)⟩
          · split
            · exact ⟨rfl, rfl⟩
            · exact ⟨upd_other _ _ _ (by omega), upd_other _ _ _ (by omega)⟩
  · split
    · show Ag (rls n L wt e o).L L x
      unfold rls
      split
      · exact ⟨rfl, rfl⟩
      · rename_i hh
        have hh : 0 ≤ e ∧ e < (n : Int) := Classical.not_not.1 hh
        have hne : e.toNat ≠ x := by omega
        split
        · exact ⟨relL_other (by omega) (by omega), relL_other (by omega) (by omega)⟩
        · exact ⟨rfl, rfl⟩
    · first | rw [if_neg hk] | skip
      exact ⟨rfl, rfl⟩
/-- no more wait than calls came, and one less if any waits -/
def Few (i : Nat) (L : LL) (wt : Int) : Prop := (i = 0 → L = nilLL ∧ wt = 0) ∧ (wt + 1 ≤ i ∨ wt = 0)
theorem acq_wt {n : Nat} {L : LL} {ws wt e o md : Int} : (acq n L ws wt e o md).wt ≤ wt + 1 := by
  unfold acq
  repeat' split
  all_goals (dsimp only; omega)
theorem acq_wt0 {n : Nat} {ws e o md : Int} : (acq n nilLL ws 0 e o md).wt = 0 := by
  unfold acq
  have hg : (nilLL (e.toNat * 2 + 1) = [] ∧ goesB (nilLL (e.toNat * 2)) md = true) := ⟨rfl, rfl⟩
  rw [if_pos hg]
  repeat' split
  all_goals rfl
theorem Few.acq {n i : Nat} {L : LL} {ws wt : Int} (h : Few i L wt) (hw : 0 ≤ wt) (e o md : Int) : Few (i + 1) (acq n L ws wt e o md).L (acq n L ws wt e o md).wt := by
  refine ⟨fun e => by omega, ?_⟩
  by_cases hi : i = 0
  · obtain ⟨e1, e2⟩ := h.1 hi
    subst e1 e2
    exact .inr acq_wt0
  · have := acq_wt (n := n) (L := L) (ws := ws) (wt := wt) (e := e) (o := o) (md := md)
    rcases h.2 with h2 | h2
    · left; omega
    · left; omega
theorem Few.rls {n i : Nat} {L : LL} {wt : Int} (h : Few i L wt) (hw : ∀ e o, 0 ≤ (rls n L wt e o).wt) (e o : Int) : Few (i + 1) (rls n L wt e o).L (rls n L wt e o).wt := by
  refine ⟨fun e => by omega, ?_⟩
  have := rls_len (n := n) (L := L) (wt := wt) (e := e) (o := o)
  have := hw e o
  rcases h.2 with h2 | h2
  · left; omega
  · right; omega
theorem Few.same {i : Nat} {L : LL} {wt : Int} (h : Few i L wt) : Few (i + 1) L wt := ⟨fun e => by omega, by rcases h.2 with h | h; left; omega; exact .inr h⟩
theorem rls_wt0 {n : Nat} {L : LL} {ws wt : Int} {B : Nat} (h : WF n L ws wt B) (e o : Int) : 0 ≤ (rls n L wt e o).wt := by
  have := (rls_wf h e o).sum
  omega
theorem Few.cal {n i : Nat} {L : LL} {ws wt : Int} {B : Nat} (h : Few i L wt) (hw : WF n L ws wt B) (kind e md o : Int) (hk : kind ≠ 3) : Few (i + 1) (cal n L ws wt kind e md o).1 (cal n L ws wt kind e md o).2 := by
  have hw0 : 0 ≤ wt := by have := hw.sum; omega
  unfold Go.Proofs.Ytijfnacplikibaa.cal
  split
  · exact h.acq hw0 e o md
  · split
    · exact h.rls (rls_wt0 hw) e o
    · first | rw [if_neg hk] | skip
      exact h.same
theorem Few.lt {i : Nat} {L : LL} {wt : Int} (h : Few i L wt) (hi : i ≤ 512) : wt < 512 := by
  rcases h.2 with h | h <;> omega
end Go.Proofs.Ytijfnacplikibaa
