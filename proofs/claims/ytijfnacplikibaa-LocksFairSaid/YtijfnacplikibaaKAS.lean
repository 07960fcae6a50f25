import Derived.Test.YtijfnacplikibaaKTbl
namespace Go.Proofs.Ytijfnacplikibaa
open Go.RowKit
set_option linter.unusedVariables false
set_option linter.unusedSimpArgs false
set_option maxRecDepth 20000

/-- a table in a law's run that began at w -/
structure AS (w x : World) (p b n : Nat) (V : Nat → Value) (L : LL) (ws wt : Int) (B : Nat) : Prop where
  t : TRep x p b 0 n V L ws wt
  wf : WF n L ws wt B
  ok : Ok n L
  bel : Below w.heap.size w x
  lo : ∀ g, TU p b n V g → w.heap.size ≤ g
section
variable {w x y : World} {p b n : Nat} {V V' : Nat → Value} {L L' : LL} {ws wt wt' : Int} {B B' : Nat}
theorem AS.step (h : AS w x p b n V L ws wt B) (ht : TRep y p b 0 n V' L' ws wt') (hw : WF n L' ws wt' B') (ho : Ok n L') {R : Nat → Prop} (htr : Tr R x y (TU p b n V) (TU p b n V')) (hR : ∀ g, R g → w.heap.size ≤ g) : AS w y p b n V' L' ws wt' B' := by
  have hs := h.bel.size
  refine ⟨ht, hw, ho, h.bel.trans (htr.chg.below hs fun g hg => hg.elim (h.lo g) (hR g)), fun g hg => ?_⟩
  rcases htr.loc g hg with h1 | h1
  · exact h.lo g h1
  · omega
theorem AS.asked (h : AS w x p b n V L ws wt B) (ht : TRep y p b 0 n V L ws wt) (hc : Chg (· = p) x y) : AS w y p b n V L ws wt B :=
  h.step ht h.wf h.ok (R := fun _ => False) ⟨hc.mono fun g _ e => .inl (.inl e), fun g hg => .inl hg⟩ fun g h => h.elim
theorem AS.below (h : AS w x p b n V L ws wt B) (hb : Below x.heap.size x y) : AS w y p b n V L ws wt B := h.step (h.t.below hb) h.wf h.ok (R := fun _ => False) (Tr.ofBelow hb) fun g h => h.elim
theorem AS.drew (h : AS w x p b n V L ws wt B) : AS w x.drew p b n V L ws wt B := h.below ⟨rfl, rfl, rfl, Nat.le_refl _, fun _ _ => rfl⟩
theorem AS.mono (h : AS w x p b n V L ws wt B) (hB : B ≤ B') : AS w x p b n V L ws wt B' := ⟨h.t, h.wf.mono hB, h.ok, h.bel, h.lo⟩
/-- a list of numbers beside the table stays -/
theorem AS.irow (h : AS w x p b n V L ws wt B) {v : Value} {l : List Int} (hv : IRow x v l) (htr : Tr (fun _ => False) x y (TU p b n V) (TU p b n V')) : IRow y v l := h.t.irow hv htr
theorem AS.irowA (h : AS w x p b n V L ws wt B) {v : Value} {l : List Int} (hv : IRow x v l) (hc : Chg (· = p) x y) : IRow y v l := hv.kept fun g hg => hc.keep g (hv.lt hg) fun e => by
  obtain ⟨cs, hcs⟩ := rowCells hv hg
  exact neType hcs h.t.row (by decide) e
end
theorem as_new {w x : World} {p b n : Nat} {ws : Int} (h1 : TRep x p b 0 n nilVV nilLL ws 0) (h2 : Below w.heap.size w x) (h3 : w.heap.size ≤ p) (h4 : w.heap.size ≤ b) (hws : 0 ≤ ws ∧ ws ≤ 512) : AS w x p b n nilVV nilLL ws 0 0 :=
  ⟨h1, wf_nil n hws, ok_nil n, h2, fun g hg => by
    rcases hg with e | e | ⟨k, hk, e⟩
    · omega
    · omega
    · simp [nilVV, Value.ownBlock] at e⟩
/-- one who holds gives back: he is the first -/
theorem rls_first {n : Nat} {L : LL} {wt : Int} {e : Nat} {c : Int × Int} {hs : List (Int × Int)} (he : e < n) (hh : L (e * 2) = c :: hs) :
    (rls n L wt e c.1).err = 0 ∧ (rls n L wt e c.1).inn = ((L (e * 2 + 1)).take (lin hs (L (e * 2 + 1)))).map Prod.fst ∧ (rls n L wt e c.1).L (e * 2) = hs ++ (L (e * 2 + 1)).take (lin hs (L (e * 2 + 1))) ∧ (rls n L wt e c.1).L (e * 2 + 1) = (L (e * 2 + 1)).drop (lin hs (L (e * 2 + 1))) := by
  have hne : ¬ ¬ (0 ≤ (e : Int) ∧ (e : Int) < (n : Int)) := fun hc => hc ⟨by omega, by omega⟩
  have hp : pl (c :: hs) c.1 = 0 := by simp [pl, List.findIdx_cons]
  have hha : has (L (e * 2)) c.1 = true := by rw [hh, has_iff, hp]; simp
  have hor : (has (L (e * 2)) c.1 || has (L (e * 2 + 1)) c.1) = true := by rw [hha]; rfl
  have hl : leaveL L e c.1 = upd L (e * 2) hs := by
    unfold leaveL
    rw [if_pos hha, hh]
    unfold rem
    rw [hp]
    rfl
  have hl0 : leaveL L e c.1 (e * 2) = hs := by rw [hl, upd_same]
  have hl1 : leaveL L e c.1 (e * 2 + 1) = L (e * 2 + 1) := by rw [hl, upd_other _ _ _ (by omega)]
  unfold rls
  rw [if_neg hne]
  simp only [Int.toNat_natCast]
  rw [if_pos hor]
  refine ⟨rfl, ?_, ?_, ?_⟩
  · show relIn L e c.1 = _
    unfold relIn relK
    rw [hl0, hl1]
  · show relL L e c.1 (e * 2) = _
    unfold relL relK
    rw [upd_other _ _ _ (by omega), upd_same, hl0, hl1]
  · show relL L e c.1 (e * 2 + 1) = _
    unfold relL relK
    rw [upd_same, hl0, hl1]
theorem Ok1.ne {hs rw : List (Int × Int)} (h : Ok1 hs rw) (hr : rw ≠ []) : hs ≠ [] := by
  intro e
  cases hrw : rw with
  | nil => exact hr hrw
  | cons c r =>
    have := h.go c r hrw
    rw [e] at this
    simp [goesB] at this
/-- behind a call for an Exclusive lock somebody holds it -/
theorem acq_hold {n : Nat} {L : LL} (h : Ok n L) (ws wt o : Int) {e : Nat} (he : e < n) : (acq n L ws wt e o 2).L (e * 2) ≠ [] := by
  have h1 := h e he
  have hne : ¬ ¬ (0 ≤ (e : Int) ∧ (e : Int) < (n : Int)) := fun hc => hc ⟨by omega, by omega⟩
  unfold acq
  rw [if_neg (by omega), if_neg hne]
  simp only [Int.toNat_natCast]
  split
  · rename_i hh
    intro e0
    have e0 : L (e * 2) = [] := e0
    by_cases hr : L (e * 2 + 1) = []
    · rw [e0, hr] at hh
      simp [has, plV, pl] at hh
    · exact h1.ne hr e0
  · split
    · show upd L (e * 2) (L (e * 2) ++ [(o, 2)]) (e * 2) ≠ []
      rw [upd_same]
      simp
    · rename_i hg
      have key : L (e * 2) ≠ [] := by
        by_cases hr : L (e * 2 + 1) = []
        · intro e0
          exact hg ⟨hr, by rw [e0]; rfl⟩
        · exact h1.ne hr
      split
      · exact key
      · show upd L (e * 2 + 1) _ (e * 2) ≠ []
        rw [upd_other _ _ _ (by omega)]
        exact key
end Go.Proofs.Ytijfnacplikibaa
