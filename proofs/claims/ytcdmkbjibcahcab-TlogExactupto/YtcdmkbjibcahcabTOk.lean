import Derived.Test.YtcdmkbjibcahcabTMath
import Derived.Test.YtcdmkbjibcahcabTNew
namespace Go.Proofs.Ytcdmkbjibcahcab
open Go.RowKit
set_option linter.unusedVariables false
set_option linter.unusedSimpArgs false

theorem LS.Ok.old {S : LS} (h : S.Ok) : 1 ≤ oldE S ∧ oldE S ≤ (S.now : Int) := by
  rw [oldE_eq]
  refine ⟨?_, h.st.headLe⟩
  have hl := h.lo
  cases hE : S.eps with
  | nil => have := h.bd.nw; simp; omega
  | cons a r => exact hl a (by rw [hE]; simp)
theorem newS_ok {lim ep : Nat} (h1 : 1 ≤ lim) (h2 : lim ≤ 1024) (h3 : 1 ≤ ep) (h4 : ep ≤ 64) : (newS lim ep).Ok :=
  ⟨⟨h1, h2, h3, h4, Nat.zero_le _, List.nodup_nil, fun x hx => by simp [newS] at hx, Nat.le_refl _⟩, trivial, fun x hx => by simp [newS, LS.eps, LS.es] at hx, Nat.zero_le _⟩
theorem addS_eps (S : LS) (id blk : Int) : (addS S id blk).eps = S.eps ++ [(S.now : Int)] := by simp [LS.eps, addS_es]
theorem refE_zero {S : LS} {id blk : Int} (h : refE S id blk = 0) : 1 ≤ id ∧ 0 ≤ blk ∧ blk < 4096 ∧ id ∉ ids S.ls ∧ S.es.length < S.lim ∧ joinN S < S.ep := by
  unfold refE at h
  split at h
  · simp at h
  · split at h
    · simp at h
    · split at h
      · simp at h
      · split at h
        · simp at h
        · rename_i a b c d
          exact ⟨by omega, by omega, by omega, c, by omega, by omega⟩
theorem addS_ok {S : LS} {id blk : Int} (h : S.Ok) (hid : i64ok id) (hr : refE S id blk = 0) : (addS S id blk).Ok := by
  obtain ⟨a1, a2, a3, a4, a5, a6⟩ := refE_zero hr
  rw [joinN_eq h] at a6
  refine ⟨⟨h.bd.l1, h.bd.l2, h.bd.e1, h.bd.e2, ?_, ?_, ?_, h.bd.nw⟩, ?_, ?_, ?_⟩
  · show (S.ls ++ _).length ≤ S.lim
    rw [LS.es_len] at a5
    simp
    omega
  · show (ids (S.ls ++ [_])).Nodup
    unfold ids at *
    rw [List.map_append, List.nodup_append]
    refine ⟨h.bd.nd, by simp, fun a ha b hb e => ?_⟩
    simp at hb
    rw [e, hb] at ha
    exact a4 ha
  · intro x hx
    rcases List.mem_append.1 hx with hx | hx
    · exact h.bd.ok x hx
    · simp at hx
      rw [hx]
      exact hid
  · rw [addS_eps]
    exact h.st.app
  · rw [addS_eps]
    intro x hx
    rcases List.mem_append.1 hx with hx | hx
    · exact h.lo x hx
    · simp at hx
      have := h.bd.nw
      omega
  · rw [addS_eps]
    show List.count (S.now : Int) _ ≤ S.ep
    rw [List.count_append]
    simp
    omega
theorem addS_joinN {S : LS} {id blk : Int} (h : S.Ok) (hid : i64ok id) (hr : refE S id blk = 0) : joinN (addS S id blk) = joinN S + 1 := by
  rw [joinN_eq (addS_ok h hid hr), joinN_eq h, addS_eps]
  show List.count (S.now : Int) _ = _
  rw [List.count_append]
  simp
theorem closeS_pos {S : LS} (h : joinN S ≠ 0) : closeS S = { S with now := S.now + 1 } := if_neg h
theorem closeS_nil {S : LS} (h : joinN S = 0) : closeS S = S := if_pos h
theorem count_over {n : Int} {l : List Int} (h : Stp n l) : l.count (n + 1) = 0 := List.count_eq_zero.2 fun hx => by
  have := h.le _ hx
  omega
theorem closeS_ok {S : LS} (h : S.Ok) : (closeS S).Ok := by
  by_cases h0 : joinN S = 0
  · rw [closeS_nil h0]; exact h
  · rw [closeS_pos h0]
    rw [joinN_eq h] at h0
    refine ⟨⟨h.bd.l1, h.bd.l2, h.bd.e1, h.bd.e2, h.bd.ln, h.bd.nd, h.bd.ok, by have := h.bd.nw; show 1 ≤ S.now + 1; omega⟩, ?_, h.lo, ?_⟩
    · show Stp ((S.now + 1 : Nat) : Int) S.eps
      rw [Int.natCast_add]
      exact h.st.close (by omega)
    · show List.count ((S.now + 1 : Nat) : Int) S.eps ≤ S.ep
      rw [Int.natCast_add, show ((1 : Nat) : Int) = 1 from rfl, count_over h.st]
      omega
theorem closeS_joinN {S : LS} (h : S.Ok) : joinN (closeS S) = 0 := by
  by_cases h0 : joinN S = 0
  · rw [closeS_nil h0]; exact h0
  · rw [joinN_eq (closeS_ok h), closeS_pos h0]
    show List.count ((S.now + 1 : Nat) : Int) S.eps = 0
    rw [Int.natCast_add, show ((1 : Nat) : Int) = 1 from rfl, count_over h.st]
theorem closeS_now (S : LS) : (closeS S).now = if joinN S = 0 then S.now else S.now + 1 := by
  unfold closeS
  split <;> rfl
theorem closeS_es (S : LS) : (closeS S).es = S.es := by
  unfold closeS
  split <;> rfl
theorem closeS_ls (S : LS) : (closeS S).ls = S.ls := by
  unfold closeS
  split <;> rfl
theorem closeS_old {S : LS} (h : S.Ok) : oldE (closeS S) = oldE S := by
  by_cases h0 : joinN S = 0
  · rw [closeS_nil h0]
  · rw [closeS_pos h0, oldE_eq, oldE_eq]
    rw [joinN_eq h] at h0
    show S.eps.headD _ = S.eps.headD _
    cases hE : S.eps with
    | nil => rw [hE] at h0; simp at h0
    | cons a r => rfl
theorem leaveS_eps (S : LS) (k : Nat) : (leaveS S k).eps = S.eps.drop k := by simp [LS.eps, leaveS_es]
theorem leaveS_ok {S : LS} (h : S.Ok) (k : Nat) : (leaveS S k).Ok := by
  refine ⟨⟨h.bd.l1, h.bd.l2, h.bd.e1, h.bd.e2, ?_, ?_, fun x hx => h.bd.ok x (List.mem_of_mem_drop hx), h.bd.nw⟩, ?_, ?_, ?_⟩
  · show (S.ls.drop k).length ≤ S.lim
    have := h.bd.ln
    rw [List.length_drop]
    omega
  · exact h.bd.nd.sublist ((List.drop_sublist k S.ls).map _)
  · rw [leaveS_eps]; exact h.st.drop k
  · rw [leaveS_eps]; exact fun x hx => h.lo x (List.mem_of_mem_drop hx)
  · rw [leaveS_eps]
    exact Nat.le_trans ((List.drop_sublist k S.eps).count_le _) h.jn
/-- an epoch that may leave -/
structure Bar (S : LS) : Prop where
  ne : oldE S ≠ (S.now : Int)
theorem barB_true {S : LS} {ep cnt : Int} (h : barB S ep cnt = true) : oldE S ≠ (S.now : Int) ∧ ep = oldE S ∧ cnt = (frontN S : Int) := by
  unfold barB at h
  rw [Bool.and_eq_true, Bool.and_eq_true, Bool.not_eq_true', beq_iff_eq, beq_iff_eq, beq_eq_false_iff_ne] at h
  exact ⟨fun e => h.1 (by rw [e]; omega), h.2.1, h.2.2⟩
theorem barB_mk {S : LS} {ep cnt : Int} (h1 : oldE S ≠ (S.now : Int)) (h2 : ep = oldE S) (h3 : cnt = (frontN S : Int)) : barB S ep cnt = true := by
  unfold barB
  rw [Bool.and_eq_true, Bool.and_eq_true, Bool.not_eq_true', beq_iff_eq, beq_iff_eq, beq_eq_false_iff_ne]
  exact ⟨fun e => h1 (by omega), h2, h3⟩
theorem leave_eps {S : LS} : (leaveS S (frontN S)).eps = S.eps.dropWhile (· == S.eps.headD (S.now : Int)) := by
  rw [leaveS_eps, frontN_eq, drop_takeWhile]
theorem leave_old {S : LS} (h : S.Ok) (hn : oldE S ≠ (S.now : Int)) : oldE (leaveS S (frontN S)) = oldE S + 1 := by
  rw [oldE_eq, leave_eps, oldE_eq]
  rw [oldE_eq] at hn
  have hs := h.st
  show List.headD _ (S.now : Int) = _
  cases hE : S.eps with
  | nil => rw [hE] at hn; exact absurd rfl hn
  | cons a r =>
    rw [hE] at hn hs
    exact hs.front hn
theorem leave_joinN {S : LS} (h : S.Ok) (hn : oldE S ≠ (S.now : Int)) : joinN (leaveS S (frontN S)) = joinN S := by
  rw [joinN_eq (leaveS_ok h _), joinN_eq h, leave_eps]
  rw [oldE_eq] at hn
  exact count_dropWhile hn _
theorem front_count {S : LS} (h : S.Ok) (hn : S.es ≠ []) : frontN S = S.eps.count (oldE S) := by
  rw [frontN_eq, oldE_eq]
  have hs := h.st
  cases hE : S.eps with
  | nil => simp [LS.eps] at hE; exact absurd hE hn
  | cons a r => rw [hE] at hs; exact hs.frontCount
theorem front_pos {S : LS} (hn : S.es ≠ []) : 0 < frontN S := by
  rw [frontN_eq]
  cases hE : S.eps with
  | nil => simp [LS.eps] at hE; exact absurd hE hn
  | cons a r => simp
theorem old_nil {S : LS} (h : S.es = []) : oldE S = (S.now : Int) := by unfold oldE; rw [h]; rfl
theorem old_cons {S : LS} (h : S.es ≠ []) : oldE S = (S.es.getD 0 e0).2.2 := by
  unfold oldE
  rw [if_neg]
  intro e
  exact h (List.length_eq_zero_iff.1 e)
/-- all leave -/
def failS (S : LS) : LS := leaveS { S with now := 1 } S.es.length
theorem failS_ls (S : LS) : (failS S).ls = [] := by
  show S.ls.drop S.es.length = []
  rw [LS.es_len]
  simp
theorem failS_es (S : LS) : (failS S).es = [] := by unfold LS.es; rw [failS_ls]; rfl
theorem failS_ok {S : LS} (h : S.Ok) : (failS S).Ok := by
  refine ⟨⟨h.bd.l1, h.bd.l2, h.bd.e1, h.bd.e2, by rw [failS_ls]; exact Nat.zero_le _, by rw [failS_ls]; exact List.nodup_nil, by rw [failS_ls]; intro x hx; simp at hx, Nat.le_refl _⟩, ?_, ?_, ?_⟩
  all_goals
    rw [show (failS S).eps = [] by unfold LS.eps; rw [failS_es]; rfl]
  · trivial
  · intro x hx; simp at hx
  · exact Nat.zero_le _
theorem ackS_ok {S : LS} {i : Nat} {x : En} {b : Bool} (h : S.Ok) (hx : S.ls[i]? = some (x, b)) : (ackS S i x).Ok := by
  have e1 : (ackS S i x).es = S.es := set_es hx
  have e2 : ids (ackS S i x).ls = ids S.ls := by
    have : ∀ l : Ls, ids l = (l.map Prod.fst).map Prod.fst := fun l => by simp [ids]
    rw [this, this]
    exact congrArg _ e1
  refine ⟨⟨h.bd.l1, h.bd.l2, h.bd.e1, h.bd.e2, ?_, by rw [e2]; exact h.bd.nd, ?_, h.bd.nw⟩, ?_, ?_, ?_⟩
  · show (S.ls.set i _).length ≤ S.lim
    rw [List.length_set]
    exact h.bd.ln
  · intro y hy
    rcases List.mem_or_eq_of_mem_set hy with hy | rfl
    · exact h.bd.ok y hy
    · exact h.bd.ok (x, b) (List.mem_of_getElem? hx)
  all_goals
    rw [show (ackS S i x).eps = S.eps by unfold LS.eps; rw [e1]]
  · exact h.st
  · exact h.lo
  · exact h.jn
end Go.Proofs.Ytcdmkbjibcahcab
