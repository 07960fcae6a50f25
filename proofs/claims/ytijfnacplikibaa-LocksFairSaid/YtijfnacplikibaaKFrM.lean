import Derived.Test.YtijfnacplikibaaKTwo
namespace Go.Proofs.Ytijfnacplikibaa
open Go.RowKit
set_option linter.unusedVariables false
set_option linter.unusedSimpArgs false
set_option maxRecDepth 20000

/-- a row without one owner, as the ledger does it -/
def wo (l : List (Int × Int)) (o : Int) : List (Int × Int) := l.filter fun c => c.1 != o
theorem wo_none {l : List (Int × Int)} {o : Int} (h : o ∉ l.map Prod.fst) : wo l o = l := by
  unfold wo
  rw [List.filter_eq_self]
  intro c hc
  have : c.1 ≠ o := fun e => h (e ▸ List.mem_map_of_mem hc)
  simpa using this
theorem wo_not {l : List (Int × Int)} {o : Int} (h : has l o = false) : wo l o = l := wo_none (has_not.1 h)
theorem rem_wo {l : List (Int × Int)} {o : Int} (hnd : (l.map Prod.fst).Nodup) (h : has l o = true) : rem l o = wo l o := by
  have hp := has_iff.1 h
  have hat := pl_at hp
  have hat : (l.getD (pl l o) (0, 0)).1 = o := by simpa using hat
  have hspl : l = l.take (pl l o) ++ l[pl l o] :: l.drop (pl l o + 1) := by
    rw [List.getElem_cons_drop, List.take_append_drop]
  have hg : l[pl l o].1 = o := by simpa [List.getD, hp] using hat
  have hno := rem_no hnd h
  have e1 : wo (rem l o) o = rem l o := wo_none hno
  have e2 : wo l o = wo (rem l o) o := by
    unfold wo rem
    conv => lhs; rw [hspl]
    rw [List.filter_append, List.filter_append, List.filter_cons_of_neg (by simp [hg])]
  rw [e2, e1]
theorem leave_wo {n : Nat} {L : LL} (hok : Ok n L) {e : Nat} (he : e < n) (o : Int) : leaveL L e o (e * 2) = wo (L (e * 2)) o ∧ leaveL L e o (e * 2 + 1) = wo (L (e * 2 + 1)) o := by
  have hnd := (hok e he).nd
  rw [List.map_append, List.nodup_append] at hnd
  unfold leaveL
  split
  · rename_i hh
    rw [upd_same, upd_other _ _ _ (by omega), rem_wo hnd.1 hh, wo_none (l := L (e * 2 + 1)) fun hm => hnd.2.2 o (has_mem.1 hh) o hm rfl]
    exact ⟨rfl, rfl⟩
  · rename_i hh
    have hh : has (L (e * 2)) o = false := by simpa using hh
    rw [wo_not hh]
    split
    · rename_i h2
      rw [upd_same, upd_other _ _ _ (by omega), rem_wo hnd.2.1 h2]
      exact ⟨rfl, rfl⟩
    · rename_i h2
      have h2 : has (L (e * 2 + 1)) o = false := by simpa using h2
      rw [wo_not h2]
      exact ⟨rfl, rfl⟩
/-- each who comes in may -/
theorem lin_all : ∀ (r hs : List (Int × Int)) (i : Nat), i < lin hs r → goesB (hs ++ r.take i) (r.getD i (0, 0)).2 = true
  | [], hs, i, h => by simp [lin] at h
  | c :: r, hs, i, h => by
    by_cases hg : goesB hs c.2 = true
    · have e : lin hs (c :: r) = lin (hs ++ [c]) r + 1 := by rw [lin, if_pos hg]
      cases i with
      | zero => simpa using hg
      | succ i =>
        have := lin_all r (hs ++ [c]) i (by omega)
        simpa [List.append_assoc] using this
    · have e : lin hs (c :: r) = 0 := by rw [lin, if_neg hg]
      omega
theorem goes_come {hs : List (Int × Int)} {m : Int} (h : goesB hs m = true) : ¬ (m = 2 ∧ 0 < hs.length) := by
  rintro ⟨rfl, h2⟩
  cases hs with
  | nil => simp at h2
  | cons a l => simp [goesB] at h
/-- a call for a lock, as the ledger sees it -/
theorem fair_held {n : Nat} {L : LL} {ws wt o md : Int} {e : Nat} (he : e < n) (hm : md = 1 ∨ md = 2) (h : (has (L (e * 2)) o || has (L (e * 2 + 1)) o) = true) : acq n L ws wt e o md = ⟨91, false, L, wt⟩ := by
  have hne : ¬ ¬ (0 ≤ (e : Int) ∧ (e : Int) < (n : Int)) := fun hc => hc ⟨by omega, by omega⟩
  unfold acq
  rw [if_neg (by omega), if_neg hne]
  simp only [Int.toNat_natCast]
  rw [if_pos h]
theorem fair_acq {n : Nat} {L : LL} {ws wt o md : Int} {e : Nat} (hok : Ok n L) (he : e < n) (hm : md = 1 ∨ md = 2) (hw : wt < ws) (h : (has (L (e * 2)) o || has (L (e * 2 + 1)) o) = false) :
    (L (e * 2 + 1) = [] ∧ acq n L ws wt e o md = ⟨0, true, upd L (e * 2) (L (e * 2) ++ [(o, md)]), wt⟩) ∨ (L (e * 2) ≠ [] ∧ acq n L ws wt e o md = ⟨0, false, upd L (e * 2 + 1) (L (e * 2 + 1) ++ [(o, md)]), wt + 1⟩) := by
  have hne : ¬ ¬ (0 ≤ (e : Int) ∧ (e : Int) < (n : Int)) := fun hc => hc ⟨by omega, by omega⟩
  unfold acq
  rw [if_neg (by omega), if_neg hne]
  simp only [Int.toNat_natCast]
  rw [if_neg (by rw [h]; simp)]
  by_cases hg : L (e * 2 + 1) = [] ∧ goesB (L (e * 2)) md = true
  · left
    rw [if_pos hg]
    exact ⟨hg.1, rfl⟩
  · right
    rw [if_neg hg, if_neg (by omega)]
    refine ⟨?_, rfl⟩
    by_cases hr : L (e * 2 + 1) = []
    · exact fun e0 => hg ⟨hr, by rw [e0]; rfl⟩
    · exact (hok e he).ne hr
/-- a lock given back, as the ledger sees it -/
theorem fair_rls {n : Nat} {L : LL} {wt o : Int} {e : Nat} (hok : Ok n L) (he : e < n) (h : (has (L (e * 2)) o || has (L (e * 2 + 1)) o) = true) :
    (rls n L wt e o).err = 0 ∧ (rls n L wt e o).inn = ((wo (L (e * 2 + 1)) o).take (lin (wo (L (e * 2)) o) (wo (L (e * 2 + 1)) o))).map Prod.fst ∧
    (rls n L wt e o).L (e * 2) = wo (L (e * 2)) o ++ (wo (L (e * 2 + 1)) o).take (lin (wo (L (e * 2)) o) (wo (L (e * 2 + 1)) o)) ∧
    (rls n L wt e o).L (e * 2 + 1) = (wo (L (e * 2 + 1)) o).drop (lin (wo (L (e * 2)) o) (wo (L (e * 2 + 1)) o)) := by
  have hne : ¬ ¬ (0 ≤ (e : Int) ∧ (e : Int) < (n : Int)) := fun hc => hc ⟨by omega, by omega⟩
  obtain ⟨l0, l1⟩ := leave_wo hok he o
  unfold rls
  rw [if_neg hne]
  simp only [Int.toNat_natCast]
  rw [if_pos h]
  refine ⟨rfl, ?_, ?_, ?_⟩
  · show relIn L e o = _
    unfold relIn relK
    rw [l0, l1]
  · show relL L e o (e * 2) = _
    unfold relL relK
    rw [upd_other _ _ _ (by omega), upd_same, l0, l1]
  · show relL L e o (e * 2 + 1) = _
    unfold relL relK
    rw [upd_same, l0, l1]
theorem fair_end {n : Nat} {L : LL} (hok : Ok n L) {e : Nat} (he : e < n) : L (e * 2 + 1) = [] ∨ L (e * 2) ≠ [] := by
  by_cases hr : L (e * 2 + 1) = []
  · exact .inl hr
  · exact .inr ((hok e he).ne hr)
end Go.Proofs.Ytijfnacplikibaa
