import Derived.Test.YtcdmkbjibcahcabTRm
namespace Go.Proofs.Ytcdmkbjibcahcab
open Go.RowKit
set_option linter.unusedVariables false
set_option linter.unusedSimpArgs false
set_option maxRecDepth 20000

theorem ixI_mem {l : Ls} {id : Int} : (0 ≤ ixI l id) ↔ id ∈ ids l := by
  unfold ixI ixN
  have h : (l.findIdx fun x => x.1.1 == id) < l.length ↔ id ∈ ids l := by
    rw [List.findIdx_lt_length]
    unfold ids
    simp only [List.mem_map, beq_iff_eq]
  by_cases h2 : (l.findIdx fun x => x.1.1 == id) < l.length
  · rw [if_pos h2]
    constructor
    · exact fun _ => h.1 h2
    · intro _
      omega
  · rw [if_neg h2]
    constructor
    · intro h3
      omega
    · exact fun h3 => absurd (h.2 h3) h2
theorem ixI_lt (l : Ls) (id : Int) : ixI l id < (l.length : Int) ∨ l = [] := by
  unfold ixI
  by_cases h : ixN l id < l.length
  · rw [if_pos h]
    left
    omega
  · rw [if_neg h]
    by_cases h2 : l = []
    · exact .inr h2
    · left
      omega
/-- where Add refuses, as the document says it -/
def rfE (S : LS) (id blk : Int) : Int := if id < 1 then 1 else if blk < 0 ∨ 4096 ≤ blk then 2 else if id ∈ ids S.ls then 102 else if S.lim ≤ S.ls.length ∨ S.ep ≤ ofN S.ls (S.now : Int) then 4 else 0
set_option maxHeartbeats 2000000 in
theorem radd_no {w : World} {q : Nat} {v : Value} {S : LS} (h : DL w q v S) (hl : S.ls.length ≤ 2000) (id blk : Int) (hr : rfE S id blk ≠ 0) : Calls Try.prog 24 #[.pointer (some ⟨q, 0, none⟩), .int .i64 id, .int .i64 blk] w fun e' w' => e' = .returned (.tuple #[.int .i64 0, .bool false, .int .i64 (rfE S id blk)]) ∧ ∃ m, w' = w.drewN m := by
  obtain ⟨a, c, rfl, b1, b2, -⟩ := h.own.form
  have HO := hide fun m => rof_any (h.drewN m) hl (S.now : Int)
  have HF := hide (rfind_any h hl id)
  have c0 := h.c0
  have c1 := h.c1
  have c2 := h.c2
  have c3 := h.c3
  have hmem := ixI_mem (l := S.ls) (id := id)
  have hob := ofN_le S.ls (S.now : Int)
  clear h
  unfold rfE at hr ⊢
  by_cases e1 : id < 1
  · rw [if_pos e1]
    clear hmem hob HO HF hr
    go_enter Try.func24, Try.ntmps24
    go_wp2_with fail
    refine bodyPost_ret (results_tmpT rfl _ _ _) rfl ?_
    exact ⟨rfl, 0, rfl⟩
  · rw [if_neg e1] at hr ⊢
    by_cases e2 : blk < 0 ∨ 4096 ≤ blk
    · rw [if_pos e2]
      clear hmem hob HO HF hr
      rcases e2 with e2 | e2
      · go_enter Try.func24, Try.ntmps24
        go_wp2_with fail
        refine bodyPost_ret (results_tmpT rfl _ _ _) rfl ?_
        exact ⟨rfl, 0, rfl⟩
      · have e3 : ¬ blk < 0 := by omega
        go_enter Try.func24, Try.ntmps24
        go_wp2_with fail
        refine bodyPost_ret (results_tmpT rfl _ _ _) rfl ?_
        exact ⟨rfl, 0, rfl⟩
    · rw [if_neg e2] at hr ⊢
      have e21 : ¬ blk < 0 := by omega
      have e22 : ¬ (4096 : Int) ≤ blk := by omega
      by_cases e3 : id ∈ ids S.ls
      · rw [if_pos e3]
        have h0 := hmem.2 e3
        clear hmem hob hr HO e2 e3
        generalize ixI S.ls id = z at *
        go_enter Try.func24, Try.ntmps24
        go_wp2_with (go_at_call 40; refine HF.out.mono ?_; rintro e w2 ⟨rfl, hw⟩; have hw2 := hw.symm; clear hw; subst hw2)
        refine bodyPost_ret (results_tmpT rfl _ _ _) rfl ?_
        exact ⟨rfl, 0, rfl⟩
      · rw [if_neg e3] at hr ⊢
        have h0 : ¬ 0 ≤ ixI S.ls id := fun h => e3 (hmem.1 h)
        by_cases e4 : S.lim ≤ S.ls.length ∨ S.ep ≤ ofN S.ls (S.now : Int)
        · rw [if_pos e4]
          clear hmem hr e2 e3
          generalize ixI S.ls id = z at *
          generalize ofN S.ls (S.now : Int) = k at *
          generalize S.ls.length = n at *
          go_enter Try.func24, Try.ntmps24
          go_wp2_with (go_at_call 40; refine HF.out.mono ?_; rintro e w2 ⟨rfl, hw⟩; have hw2 := hw.symm; clear hw; subst hw2)
          clear HF
          by_cases e5 : S.lim ≤ n
          · have e5i : (S.lim : Int) ≤ (n : Int) := by omega
            clear e4
            go_quiet (first | (go_at_call 41; with_reducible exact Calls.quiet_of_same (HO.out _)))
            go_wp2_with fail
            refine bodyPost_ret (results_tmpT rfl _ _ _) rfl ?_
            exact ⟨rfl, _, rfl⟩
          · have e6 : (S.ep : Int) ≤ (k : Int) := by omega
            have e5i : ¬ (S.lim : Int) ≤ (n : Int) := by omega
            clear e4
            go_quiet (first | (go_at_call 41; with_reducible exact Calls.quiet_of_same (HO.out _)))
            go_wp2_with fail
            refine bodyPost_ret (results_tmpT rfl _ _ _) rfl ?_
            exact ⟨rfl, _, rfl⟩
        · rw [if_neg e4] at hr
          exact absurd rfl hr
end Go.Proofs.Ytcdmkbjibcahcab
