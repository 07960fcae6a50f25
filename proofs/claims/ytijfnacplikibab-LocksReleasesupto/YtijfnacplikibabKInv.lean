import Derived.Test.YtijfnacplikibabKDrop
namespace Go.Proofs.Ytijfnacplikibab
open Go.RowKit
set_option linter.unusedVariables false
set_option linter.unusedSimpArgs false

/-- one extent is sound -/
structure Ok1 (hs rw : List (Int × Int)) : Prop where
  nd : ((hs ++ rw).map Prod.fst).Nodup
  go : ∀ c r, rw = c :: r → goesB hs c.2 = false
  md : ∀ c ∈ hs ++ rw, c.2 = 1 ∨ c.2 = 2
  ex : (∀ c ∈ hs, c.2 = 1) ∨ hs.length = 1
def Ok (n : Nat) (L : LL) : Prop := ∀ e, e < n → Ok1 (L (e * 2)) (L (e * 2 + 1))
theorem ok1_nil : Ok1 [] [] := ⟨by simp, fun c r h => by simp at h, fun c h => by simp at h, .inl fun c h => by simp at h⟩
theorem has_mem {l : List (Int × Int)} {o : Int} : has l o = true ↔ o ∈ l.map Prod.fst := by
  rw [has_iff, pl, List.findIdx_lt_length]
  simp only [List.mem_map, beq_iff_eq]
theorem has_not {l : List (Int × Int)} {o : Int} : has l o = false ↔ o ∉ l.map Prod.fst := by
  rw [← has_mem]
  simp
/-- those who come in keep the holders alike -/
theorem goes_ex {hs : List (Int × Int)} {c : Int × Int} (hx : (∀ c ∈ hs, c.2 = 1) ∨ hs.length = 1) (hg : goesB hs c.2 = true) : (∀ d ∈ hs ++ [c], d.2 = 1) ∨ (hs ++ [c]).length = 1 := by
  cases hs with
  | nil => exact .inr rfl
  | cons a l =>
    simp only [goesB, List.isEmpty_cons, Bool.false_or, Bool.and_eq_true, beq_iff_eq, modeOf] at hg
    have hall : ∀ d ∈ a :: l, d.2 = 1 := by
      rcases hx with h | h
      · exact h
      · have hl : l = [] := List.length_eq_zero_iff.1 (by simpa using h)
        subst hl
        intro d hd
        rw [List.mem_singleton] at hd
        rw [hd]
        exact hg.2
    refine .inl fun d hd => ?_
    rcases List.mem_append.1 hd with hd | hd
    · exact hall d hd
    · rw [List.mem_singleton] at hd
      rw [hd]
      exact hg.1
theorem lin_ex : ∀ (r hs : List (Int × Int)), ((∀ c ∈ hs, c.2 = 1) ∨ hs.length = 1) → (∀ c ∈ hs ++ r.take (lin hs r), c.2 = 1) ∨ (hs ++ r.take (lin hs r)).length = 1
  | [], hs, h => by simpa [lin] using h
  | c :: r, hs, h => by
    by_cases hg : goesB hs c.2 = true
    · have e : lin hs (c :: r) = lin (hs ++ [c]) r + 1 := by rw [lin, if_pos hg]
      rw [e, List.take_succ_cons]
      have := lin_ex r (hs ++ [c]) (goes_ex h hg)
      simpa [List.append_assoc] using this
    · have e : lin hs (c :: r) = 0 := by rw [lin, if_neg hg]
      rw [e]
      simpa using h
theorem lin_go (r hs : List (Int × Int)) : ∀ c q, r.drop (lin hs r) = c :: q → goesB (hs ++ r.take (lin hs r)) c.2 = false := fun c q h => by
  have hl : lin hs r < r.length := by
    apply Classical.byContradiction
    intro hn
    rw [List.drop_eq_nil_of_le (by omega)] at h
    cases h
  have := lin_end r hs hl
  have hc : r.getD (lin hs r) (0, 0) = c := by
    have h0 : (r.drop (lin hs r))[0]? = some c := by rw [h]; rfl
    rw [List.getElem?_drop, Nat.add_zero] at h0
    simp [List.getD, h0]
  rw [hc] at this
  exact this
theorem rem_sub (l : List (Int × Int)) (o : Int) : (rem l o).Sublist l := by
  unfold rem
  have h1 : (l.take (pl l o) ++ l.drop (pl l o + 1)).Sublist (l.take (pl l o) ++ l.drop (pl l o)) := List.Sublist.append (List.Sublist.refl _) (by
    rw [← List.drop_drop]
    exact List.drop_sublist _ _)
  rwa [List.take_append_drop] at h1
/-- one who has left, and those who come in: it stays sound -/
theorem ok1_in {hs rw hs1 rw1 : List (Int × Int)} (h : Ok1 hs rw) (hsub : (hs1 ++ rw1).Sublist (hs ++ rw)) (hx : (∀ c ∈ hs1, c.2 = 1) ∨ hs1.length = 1) : Ok1 (hs1 ++ rw1.take (lin hs1 rw1)) (rw1.drop (lin hs1 rw1)) := by
  have e : hs1 ++ rw1.take (lin hs1 rw1) ++ rw1.drop (lin hs1 rw1) = hs1 ++ rw1 := by rw [List.append_assoc, List.take_append_drop]
  refine ⟨?_, lin_go rw1 hs1, fun c hc => ?_, lin_ex rw1 hs1 hx⟩
  · rw [e]
    exact (hsub.map _).nodup h.nd
  · rw [e] at hc
    exact h.md c (hsub.mem hc)
theorem rem_ex {hs : List (Int × Int)} (o : Int) (h : has hs o = true) (hx : (∀ c ∈ hs, c.2 = 1) ∨ hs.length = 1) : (∀ c ∈ rem hs o, c.2 = 1) ∨ (rem hs o).length = 1 := by
  rcases hx with hx | hx
  · exact .inl fun c hc => hx c ((rem_sub hs o).mem hc)
  · left
    have hp := has_iff.1 h
    have : rem hs o = [] := by
      unfold rem
      have : pl hs o = 0 := by omega
      rw [this, List.take_zero, List.nil_append]
      exact List.drop_eq_nil_of_le (by omega)
    rw [this]
    intro c hc
    simp at hc
theorem ok_rel {n : Nat} {L : LL} (h : Ok n L) (e : Nat) (o : Int) : Ok n (relL L e o) := fun k hk => by
  by_cases hke : k = e
  · subst hke
    have h1 := h k hk
    have ee : k * 2 + 1 ≠ k * 2 := by omega
    have ee' : k * 2 ≠ k * 2 + 1 := by omega
    unfold relL relK
    rw [upd_same, upd_other _ _ _ ee', upd_same]
    refine ok1_in h1 ?_ ?_
    · unfold leaveL
      split
      · rw [upd_same, upd_other _ _ _ ee]
        exact List.Sublist.append (rem_sub _ _) (List.Sublist.refl _)
      · split
        · rw [upd_same, upd_other _ _ _ ee']
          exact List.Sublist.append (List.Sublist.refl _) (rem_sub _ _)
        · exact List.Sublist.refl _
    · unfold leaveL
      split
      · rename_i hh
        rw [upd_same]
        exact rem_ex o hh h1.ex
      · split
        · rw [upd_other _ _ _ ee']
          exact h1.ex
        · exact h1.ex
  · rw [relL_other (by omega) (by omega), relL_other (by omega) (by omega)]
    exact h k hk
theorem ok_rls {n : Nat} {L : LL} (h : Ok n L) (wt e o : Int) : Ok n (rls n L wt e o).L := by
  unfold rls
  split
  · exact h
  · split
    · exact ok_rel h _ _
    · exact h
theorem ok_drp {n : Nat} {L : LL} (h : Ok n L) (wt o : Int) : ∀ i, Ok n (drp n L wt o i).L
  | 0 => h
  | i + 1 => ok_rls (ok_drp h wt o i) _ _ _
theorem ok_acq {n : Nat} {L : LL} (h : Ok n L) (ws wt e o md : Int) : Ok n (acq n L ws wt e o md).L := by
  unfold acq
  split
  · exact h
  · rename_i hm
    have hm' : md = 1 ∨ md = 2 := by omega
    split
    · exact h
    · rename_i he
      have he : 0 ≤ e ∧ e < (n : Int) := Classical.not_not.1 he
      split
      · exact h
      · rename_i hh
        have hh : (has (L (e.toNat * 2)) o || has (L (e.toNat * 2 + 1)) o) = false := by simpa using hh
        rw [Bool.or_eq_false_iff, has_not, has_not] at hh
        split
        · rename_i hg
          intro k hk
          dsimp only
          have h1 := h k hk
          by_cases hke : k = e.toNat
          · subst hke
            rw [upd_same, upd_other _ _ _ (by omega), hg.1]
            rw [hg.1] at h1
            have hnd := h1.nd
            have hmd := h1.md
            rw [List.append_nil] at hnd hmd
            refine ⟨?_, (fun c r hc => by cases hc), fun c hc => ?_, goes_ex (c := (o, md)) h1.ex hg.2⟩
            · rw [List.append_nil, List.map_append, List.nodup_append]
              refine ⟨hnd, by simp, fun a ha b hb => ?_⟩
              simp only [List.map_cons, List.map_nil, List.mem_singleton] at hb
              rw [hb]
              exact fun e => hh.1 (e ▸ ha)
            · rw [List.append_nil] at hc
              rcases List.mem_append.1 hc with hc | hc
              · exact hmd c hc
              · rw [List.mem_singleton] at hc
                rw [hc]
                exact hm'
          · rw [upd_other _ _ _ (by omega), upd_other _ _ _ (by omega)]
            exact h1
        · rename_i hg
          split
          · exact h
          · intro k hk
            dsimp only
            have h1 := h k hk
            by_cases hke : k = e.toNat
            · subst hke
              rw [upd_same, upd_other _ _ _ (by omega)]
              refine ⟨?_, fun c r hc => ?_, fun c hc => ?_, h1.ex⟩
              · rw [← List.append_assoc, List.map_append, List.nodup_append]
                refine ⟨h1.nd, by simp, fun a ha b hb => ?_⟩
                simp only [List.map_cons, List.map_nil, List.mem_singleton] at hb
                rw [hb]
                rw [List.map_append, List.mem_append] at ha
                exact fun e => ha.elim (fun h => hh.1 (e ▸ h)) fun h => hh.2 (e ▸ h)
              · cases hr : L (e.toNat * 2 + 1) with
                | nil =>
                  rw [hr] at hc
                  simp only [List.nil_append, List.cons.injEq] at hc
                  rw [← hc.1]
                  cases hx : goesB (L (e.toNat * 2)) md with
                  | false => rfl
                  | true => exact absurd ⟨hr, hx⟩ hg
                | cons a l =>
                  rw [hr] at hc
                  simp only [List.cons_append, List.cons.injEq] at hc
                  rw [← hc.1]
                  exact h1.go a l hr
              · rw [← List.append_assoc] at hc
                rcases List.mem_append.1 hc with hc | hc
                · exact h1.md c hc
                · rw [List.mem_singleton] at hc
                  rw [hc]
                  exact hm'
            · rw [upd_other _ _ _ (by omega), upd_other _ _ _ (by omega)]
              exact h1
end Go.Proofs.Ytijfnacplikibab
