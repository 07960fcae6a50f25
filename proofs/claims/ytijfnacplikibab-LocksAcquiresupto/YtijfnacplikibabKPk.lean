import Derived.Test.YtijfnacplikibabKPj
namespace Go.Proofs.Ytijfnacplikibab
open Go.RowKit
set_option linter.unusedVariables false
set_option linter.unusedSimpArgs false
set_option maxRecDepth 20000

/-- what the document's Release gives -/
def RlP (w : World) (q : Nat) (v : Value) (n room : Nat) (L : LL) (wt e o : Int) (N : Nat) (e' : Ending) (w' : World) : Prop := ∃ rv, e' = .returned (.tuple #[rv, .int .i64 (rls n L wt e o).err]) ∧ RA w w' q v n room (rls n L wt e o).L N ∧ IRow w' rv (rls n L wt e o).inn ∧ ∀ g, rv.ownBlock = some g → w.heap.size ≤ g
theorem rnil (w : World) : IRow w (.slice none 0 0) [] := ⟨rfl, .inl ⟨rfl, rfl⟩⟩
set_option maxHeartbeats 1000000 in
theorem rrel_any {w : World} {q : Nat} {v : Value} {n room : Nat} {P : List Pc} {T N : Nat} {L : LL} {wt : Int} (h : RT w q v n room P T) (sm : Sm n L P T) (ok : Ok n L) (hl : P.length ≤ N) (ht : T + wtN P ≤ N) (hN : N ≤ 9000000) (e o : Int) : Calls Try.prog 18 #[.pointer (some ⟨q, 0, none⟩), .int .i64 e, .int .i64 o] w (RlP w q v n room L wt e o N) := by
  have HST : Hid (RA w w q v n room L N) := hide ⟨v, P, T, RTt.refl h, sm, hl, ht⟩
  have HTH := hide (there_any w q (n : Int) e h.c0)
  unfold RlP rls
  by_cases h2 : ¬ (0 ≤ e ∧ e < (n : Int))
  · rw [if_pos h2]
    have h2e : (decide (0 ≤ e) && decide (e < (n : Int))) = false := by
      rw [← Bool.not_eq_true, Bool.and_eq_true, decide_eq_true_eq, decide_eq_true_eq]
      exact h2
    rw [h2e] at HTH
    clear h sm ok h2
    go_enter Try.func18, Try.ntmps18
    go_wp2_with (go_at_call 33; refine HTH.out.mono ?_; rintro e9 y1 ⟨rfl, h9⟩; have h9s := h9.symm; clear h9; subst h9s)
    (try simp only [Exit.inBlock, Exit.then]); refine bodyPost_ret (results_tmp2 rfl _ _ _) rfl ?_
    exact ⟨_, rfl, HST.out, rnil _, fun g e => by simp [Value.ownBlock] at e⟩
  · rw [if_neg h2]
    have h2 : 0 ≤ e ∧ e < (n : Int) := Classical.not_not.1 h2
    have h2e : (decide (0 ≤ e) && decide (e < (n : Int))) = true := by simp [h2]
    obtain ⟨k, rfl⟩ : ∃ k : Nat, e = (k : Int) := ⟨e.toNat, by omega⟩
    have hk : k < n := by omega
    simp only [Int.toNat_natCast]
    have hfi := sm.find hk o
    by_cases h3 : (has (L (k * 2)) o || has (L (k * 2 + 1)) o) = true
    · rw [if_pos h3]
      have h0 := hfi.2 h3
      obtain ⟨f, hf⟩ : ∃ f : Nat, ixB (fnd (k : Int) o) P = (f : Int) := ⟨(ixB (fnd (k : Int) o) P).toNat, by omega⟩
      exact rrel_in h sm ok hl ht hN hk o hf
    · rw [if_neg h3]
      rw [h2e] at HTH
      have HFI := hide (rfind_any h (by omega) (k : Int) o)
      have h3i : ¬ 0 ≤ ixB (fnd (k : Int) o) P := fun q => h3 (hfi.1 q)
      generalize ixB (fnd (k : Int) o) P = fi at *
      have h4 : fi < 0 := by omega
      clear h sm ok hfi h3
      go_enter Try.func18, Try.ntmps18
      go_wp2_with (first
        | (go_at_call 33; refine HTH.out.mono ?_; rintro e9 y1 ⟨rfl, h9⟩; have h9s := h9.symm; clear h9; subst h9s)
        | (go_at_call 34; refine HFI.out.mono ?_; rintro e9 y1 ⟨rfl, h9⟩; have h9s := h9.symm; clear h9; subst h9s))
      (try simp only [Exit.inBlock, Exit.then]); refine bodyPost_ret (results_tmp2 rfl _ _ _) rfl ?_
      exact ⟨_, rfl, HST.out, rnil _, fun g e => by simp [Value.ownBlock] at e⟩
end Go.Proofs.Ytijfnacplikibab
