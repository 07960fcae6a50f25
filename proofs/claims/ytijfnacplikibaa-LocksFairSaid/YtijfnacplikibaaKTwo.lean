import Derived.Test.YtijfnacplikibaaKAS2
namespace Go.Proofs.Ytijfnacplikibaa
open Go.RowKit
set_option linter.unusedVariables false
set_option linter.unusedSimpArgs false
set_option maxRecDepth 20000

/-- a call in a drawn region, guarded -/
theorem step_callToW {P : Program} {ops : Array Oper} {o : Oper} {a : Act} {w : World} {K : Act → World → Prop} {Q : Exit → Act → World → Prop} {E : Prop} (hw : Region.wanted o (yielded ops a.tmps) = true) (f : FuncId) (args : Array Value) (hrun : (execOp a.eval o).run P w = .ok (.enter f args) w)
    {post : Ending → World → Prop} (hc : Calls P f args w post) (hp : ∀ e w', post e w' → ∃ v, e = .returned v) (h : ∀ v w', post (.returned v) w' → K (a.put o.dst v) w') :
    if Region.wanted o (yielded ops a.tmps) = true then Oper.wp P o a w K Q else E := by
  rw [if_pos hw]
  unfold Oper.wp
  rw [hrun, Oper.upon_enter]
  refine hc.mono fun e w'' hh => ?_
  obtain ⟨v, rfl⟩ := hp e w'' hh
  exact h v w'' hh
/-- two tables beside each other -/
structure A2 (w x : World) (n : Nat) (ws : Int) (B : Nat) (pa ba : Nat) (Va : Nat → Value) (La : LL) (wta : Int) (pb bb : Nat) (Vb : Nat → Value) (Lb : LL) (wtb : Int) : Prop where
  a : AS w x pa ba n Va La ws wta B
  b : AS w x pb bb n Vb Lb ws wtb B
  ap : ∀ g, TU pa ba n Va g → ¬ TU pb bb n Vb g
section
variable {w x y : World} {n : Nat} {ws : Int} {B B' : Nat} {pa ba : Nat} {Va Va' : Nat → Value} {La La' : LL} {wta wta' : Int} {pb bb : Nat} {Vb Vb' : Nat → Value} {Lb Lb' : LL} {wtb wtb' : Int}
theorem A2.symm (h : A2 w x n ws B pa ba Va La wta pb bb Vb Lb wtb) : A2 w x n ws B pb bb Vb Lb wtb pa ba Va La wta := ⟨h.b, h.a, fun g h1 h2 => h.ap g h2 h1⟩
theorem A2.mono (h : A2 w x n ws B pa ba Va La wta pb bb Vb Lb wtb) (hB : B ≤ B') : A2 w x n ws B' pa ba Va La wta pb bb Vb Lb wtb := ⟨h.a.mono hB, h.b.mono hB, h.ap⟩
/-- the first one turned -/
theorem A2.stepA (h : A2 w x n ws B pa ba Va La wta pb bb Vb Lb wtb) (hA : AS w y pa ba n Va' La' ws wta' B') (hB : B ≤ B') {R : Nat → Prop} (htr : Tr R x y (TU pa ba n Va) (TU pa ba n Va')) (hR : ∀ g, R g → w.heap.size ≤ g) (hRb : ∀ g, R g → ¬ TU pb bb n Vb g) : A2 w y n ws B' pa ba Va' La' wta' pb bb Vb Lb wtb := by
  have hk : ∀ g, TU pb bb n Vb g → y.heap[g]? = x.heap[g]? := fun g hg => htr.chg.keep g (h.b.t.lt g hg) fun hu => hu.elim (fun h1 => h.ap g h1 hg) fun h1 => hRb g h1 hg
  refine ⟨hA, ⟨h.b.t.kept hk, (h.b.mono hB).wf, h.b.ok, hA.bel, h.b.lo⟩, fun g h1 h2 => ?_⟩
  rcases htr.loc g h1 with h3 | h3
  · exact h.ap g h3 h2
  · have := h.b.t.lt g h2; omega
theorem A2.stepF (h : A2 w x n ws B pa ba Va La wta pb bb Vb Lb wtb) (hA : AS w y pa ba n Va' La' ws wta' B') (hB : B ≤ B') (htr : Tr (fun _ => False) x y (TU pa ba n Va) (TU pa ba n Va')) : A2 w y n ws B' pa ba Va' La' wta' pb bb Vb Lb wtb := h.stepA hA hB htr (fun g h => h.elim) fun g h => h.elim
theorem A2.askA (h : A2 w x n ws B pa ba Va La wta pb bb Vb Lb wtb) (hA : AS w y pa ba n Va La ws wta B) (hc : Chg (· = pa) x y) : A2 w y n ws B pa ba Va La wta pb bb Vb Lb wtb := h.stepF hA (Nat.le_refl _) ⟨hc.mono fun g _ e => .inl (.inl e), fun g hg => .inl hg⟩
theorem A2.below (h : A2 w x n ws B pa ba Va La wta pb bb Vb Lb wtb) (hb : Below x.heap.size x y) : A2 w y n ws B pa ba Va La wta pb bb Vb Lb wtb := h.stepF (h.a.below hb) (Nat.le_refl _) (Tr.ofBelow hb)
/-- a list of numbers grows -/
theorem A2.app (h : A2 w x n ws B pa ba Va La wta pb bb Vb Lb wtb) {v v' : Value} {l : List Int} (hv : IRow x v l) (ha : App x y v v') (hlo : ∀ g, v.ownBlock = some g → w.heap.size ≤ g) : A2 w y n ws B pa ba Va La wta pb bb Vb Lb wtb :=
  h.stepA (h.a.app hv ha hlo) (Nat.le_refl _) (R := fun g => v.ownBlock = some g) ⟨ha.chg.mono fun g _ e => .inr e, fun g hg => .inl hg⟩ hlo fun g e hu => by
    obtain ⟨cs, hc⟩ := rowCells hv e
    exact h.b.t.nt hc (by decide) (by decide) (by decide) hu
/-- a second new table -/
theorem a2_new (h : AS w x pa ba n nilVV nilLL ws 0 0) (h1 : TRep y pb bb 0 n nilVV nilLL ws 0) (h2 : Below x.heap.size x y) (h3 : x.heap.size ≤ pb) (h4 : x.heap.size ≤ bb) : A2 w y n ws 0 pa ba nilVV nilLL 0 pb bb nilVV nilLL 0 := by
  have hs := h.bel.size
  have ha := h.below h2
  refine ⟨ha, ⟨h1, h.wf, h.ok, ha.bel, fun g hg => ?_⟩, fun g hg hg2 => ?_⟩
  · rcases hg with e | e | ⟨k, hk, e⟩
    · omega
    · omega
    · simp [nilVV, Value.ownBlock] at e
  · have := h.t.lt g hg
    rcases hg2 with e | e | ⟨k, hk, e⟩
    · omega
    · omega
    · simp [nilVV, Value.ownBlock] at e
end
/-- extents ahead are not touched by Drop -/
theorem rls_other {n : Nat} {L : LL} {wt : Int} {e : Nat} {o : Int} {k : Nat} (h0 : k ≠ e * 2) (h1 : k ≠ e * 2 + 1) : (rls n L wt e o).L k = L k := by
  unfold rls
  split
  · rfl
  · split
    · simp only [Int.toNat_natCast]
      exact relL_other h0 h1
    · rfl
theorem drp_at {n : Nat} {L : LL} {wt o : Int} : ∀ (i k : Nat), i * 2 ≤ k → (drp n L wt o i).L k = L k
  | 0, _, _ => rfl
  | i + 1, k, h => by
    show (rls n (drp n L wt o i).L (drp n L wt o i).wt i o).L k = L k
    rw [rls_other (by omega) (by omega)]
    exact drp_at i k (by omega)
theorem drp_past {n : Nat} {L : LL} {wt o : Int} (e : Nat) : ∀ (i k : Nat), e < i → (k = e * 2 ∨ k = e * 2 + 1) → (drp n L wt o i).L k = (drp n L wt o (e + 1)).L k
  | 0, _, h, _ => by omega
  | i + 1, k, h, hk => by
    by_cases he : e = i
    · subst he; rfl
    · show (rls n (drp n L wt o i).L (drp n L wt o i).wt i o).L k = _
      rw [rls_other (by omega) (by omega)]
      exact drp_past e i k (by omega) hk
/-- who has left has no place there, and is not among those who come in -/
theorem rem_no {l : List (Int × Int)} {o : Int} (hnd : (l.map Prod.fst).Nodup) (h : has l o = true) : o ∉ (rem l o).map Prod.fst := by
  have hp := has_iff.1 h
  have hat := pl_at hp
  have hat : (l.getD (pl l o) (0, 0)).1 = o := by simpa using hat
  have hspl : l = l.take (pl l o) ++ l[pl l o] :: l.drop (pl l o + 1) := by
    rw [List.getElem_cons_drop, List.take_append_drop]
  have hg : l[pl l o].1 = o := by simpa [List.getD, hp] using hat
  intro hm
  unfold rem at hm
  rw [hspl, List.map_append, List.map_cons, hg, List.nodup_append] at hnd
  rw [List.map_append, List.mem_append] at hm
  rcases hm with hm | hm
  · exact hnd.2.2 o hm o (by simp) rfl
  · exact (List.nodup_cons.1 hnd.2.1).1 hm
theorem rel_gone {n : Nat} {L : LL} (hok : Ok n L) {e : Nat} (he : e < n) (o : Int) : o ∉ (leaveL L e o (e * 2)).map Prod.fst ∧ o ∉ (leaveL L e o (e * 2 + 1)).map Prod.fst := by
  have hnd := (hok e he).nd
  rw [List.map_append, List.nodup_append] at hnd
  have ee : e * 2 + 1 ≠ e * 2 := by omega
  have ee' : e * 2 ≠ e * 2 + 1 := by omega
  unfold leaveL
  split
  · rename_i hh
    rw [upd_same, upd_other _ _ _ ee]
    exact ⟨rem_no hnd.1 hh, fun hm => hnd.2.2 o (has_mem.1 hh) o hm rfl⟩
  · rename_i hh
    have hh : has (L (e * 2)) o = false := by simpa using hh
    split
    · rename_i h2
      rw [upd_same, upd_other _ _ _ ee']
      exact ⟨has_not.1 hh, rem_no hnd.2.1 h2⟩
    · rename_i h2
      have h2 : has (L (e * 2 + 1)) o = false := by simpa using h2
      exact ⟨has_not.1 hh, has_not.1 h2⟩
theorem rls_gone {n : Nat} {L : LL} (hok : Ok n L) {wt : Int} {e : Nat} (he : e < n) (o : Int) : o ∉ ((rls n L wt e o).L (e * 2)).map Prod.fst ∧ o ∉ ((rls n L wt e o).L (e * 2 + 1)).map Prod.fst ∧ o ∉ (rls n L wt e o).inn := by
  have hne : ¬ ¬ (0 ≤ (e : Int) ∧ (e : Int) < (n : Int)) := fun hc => hc ⟨by omega, by omega⟩
  obtain ⟨g0, g1⟩ := rel_gone hok he o
  have htk : ∀ k, o ∉ ((leaveL L e o (e * 2 + 1)).take k).map Prod.fst := fun k hm => g1 (by
    rw [List.map_take] at hm
    exact List.mem_of_mem_take hm)
  have hdk : ∀ k, o ∉ ((leaveL L e o (e * 2 + 1)).drop k).map Prod.fst := fun k hm => g1 (by
    rw [List.map_drop] at hm
    exact List.mem_of_mem_drop hm)
  unfold rls
  rw [if_neg hne]
  simp only [Int.toNat_natCast]
  split
  · show o ∉ (relL L e o (e * 2)).map Prod.fst ∧ o ∉ (relL L e o (e * 2 + 1)).map Prod.fst ∧ o ∉ relIn L e o
    unfold relL relIn
    rw [upd_same, upd_other _ _ _ (by omega), upd_same]
    refine ⟨?_, hdk _, htk _⟩
    rw [List.map_append, List.mem_append]
    exact fun h => h.elim g0 (htk _)
  · rename_i hh
    have hh : (has (L (e * 2)) o || has (L (e * 2 + 1)) o) = false := by simpa using hh
    rw [Bool.or_eq_false_iff, has_not, has_not] at hh
    exact ⟨hh.1, hh.2, by simp⟩
theorem drp_gone {n : Nat} {L : LL} (hok : Ok n L) {wt o : Int} : ∀ i, i ≤ n → o ∉ (drp n L wt o i).inn ∧ ∀ e, e < i → o ∉ ((drp n L wt o i).L (e * 2)).map Prod.fst ∧ o ∉ ((drp n L wt o i).L (e * 2 + 1)).map Prod.fst
  | 0, _ => ⟨by simp [drp], fun e h => by omega⟩
  | i + 1, hi => by
    obtain ⟨h1, h2⟩ := drp_gone hok (wt := wt) (o := o) i (by omega)
    obtain ⟨g0, g1, g2⟩ := rls_gone (ok_drp hok wt o i) (wt := (drp n L wt o i).wt) (e := i) (by omega) o
    refine ⟨?_, fun e he => ?_⟩
    · show o ∉ (drp n L wt o i).inn ++ (rls n (drp n L wt o i).L (drp n L wt o i).wt i o).inn
      rw [List.mem_append]
      exact fun h => h.elim h1 g2
    · show o ∉ ((rls n (drp n L wt o i).L (drp n L wt o i).wt i o).L (e * 2)).map Prod.fst ∧ o ∉ ((rls n (drp n L wt o i).L (drp n L wt o i).wt i o).L (e * 2 + 1)).map Prod.fst
      by_cases hie : e = i
      · subst hie; exact ⟨g0, g1⟩
      · rw [rls_other (by omega) (by omega), rls_other (by omega) (by omega)]
        exact h2 e (by omega)
/-- a Shared call that leaves its owner without a place: no more may wait -/
theorem acq_none {n : Nat} {L : LL} {ws wt o : Int} {e : Nat} (he : e < n) (h0 : has ((acq n L ws wt e o 1).L (e * 2)) o = false) (h1 : has ((acq n L ws wt e o 1).L (e * 2 + 1)) o = false) : ws ≤ (acq n L ws wt e o 1).wt := by
  have hne : ¬ ¬ (0 ≤ (e : Int) ∧ (e : Int) < (n : Int)) := fun hc => hc ⟨by omega, by omega⟩
  unfold acq at *
  rw [if_neg (by omega), if_neg hne] at *
  simp only [Int.toNat_natCast] at *
  split at h0
  · rename_i hh
    rw [if_pos hh] at h1
    rw [if_pos hh]
    have h0 : has (L (e * 2)) o = false := h0
    have h1 : has (L (e * 2 + 1)) o = false := h1
    rw [h0, h1] at hh
    cases hh
  · rename_i hh
    rw [if_neg hh] at h1 ⊢
    split at h0
    · exfalso
      have h0 : has (upd L (e * 2) (L (e * 2) ++ [(o, 1)]) (e * 2)) o = false := h0
      rw [upd_same, has_not] at h0
      exact h0 (by simp)
    · rename_i hg
      rw [if_neg hg] at h1 ⊢
      split
      · rename_i hf
        exact hf
      · rename_i hf
        exfalso
        rw [if_neg hf] at h1
        have h1 : has (upd L (e * 2 + 1) (L (e * 2 + 1) ++ [(o, 1)]) (e * 2 + 1)) o = false := h1
        rw [upd_same, has_not] at h1
        exact h1 (by simp)
theorem rls_err {n : Nat} {L : LL} {wt o : Int} {e : Nat} (he : e < n) : (rls n L wt e o).err = if (has (L (e * 2)) o || has (L (e * 2 + 1)) o) = true then 0 else 92 := by
  have hne : ¬ ¬ (0 ≤ (e : Int) ∧ (e : Int) < (n : Int)) := fun hc => hc ⟨by omega, by omega⟩
  unfold rls
  rw [if_neg hne]
  simp only [Int.toNat_natCast]
  split <;> rfl
theorem rls_not {n : Nat} {L : LL} {wt o : Int} {e : Nat} (he : e < n) (h : (has (L (e * 2)) o || has (L (e * 2 + 1)) o) = false) : rls n L wt e o = ⟨92, [], L, wt⟩ := by
  have hne : ¬ ¬ (0 ≤ (e : Int) ∧ (e : Int) < (n : Int)) := fun hc => hc ⟨by omega, by omega⟩
  unfold rls
  rw [if_neg hne]
  simp only [Int.toNat_natCast]
  rw [if_neg (by rw [h]; simp)]
end Go.Proofs.Ytijfnacplikibaa
