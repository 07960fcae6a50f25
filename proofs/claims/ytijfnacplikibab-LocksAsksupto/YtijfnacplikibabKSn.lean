import Derived.Test.YtijfnacplikibabKSm
namespace Go.Proofs.Ytijfnacplikibab
open Go.RowKit
set_option linter.unusedVariables false
set_option linter.unusedSimpArgs false

section
variable {n : Nat} {L : LL} {P : List Pc} {T : Nat}
def wtN (P : List Pc) : Nat := P.countP fun x => !x.held
theorem count_row (P : List Pc) (h0 : ∀ x ∈ P, 0 ≤ x.ext) : ∀ k : Nat, (∀ e, e < k → (P.filter (fst1 (e : Int))).length = (L (e * 2 + 1)).length) → P.countP (fun x => !x.held && decide (x.ext < (k : Int))) = rowsum L k
  | 0, _ => by
    rw [rowsum, List.countP_eq_zero]
    intro x hx
    have := h0 x hx
    simp
    intro _
    exact this
  | k + 1, hk => by
    rw [rowsum, ← count_row P h0 k fun e he => hk e (by omega), ← hk k (by omega), ← List.countP_eq_length_filter]
    clear hk h0
    induction P with
    | nil => rfl
    | cons x P ih =>
      simp only [List.countP_cons]
      rw [ih]
      cases hh : x.held with
      | true =>
        rw [if_neg (by simp), if_neg (by simp), if_neg (by simp [fst1, hh])]
        omega
      | false =>
        by_cases h1 : x.ext < (k : Int)
        · rw [if_pos (by simp; omega), if_pos (by simp; exact h1), if_neg (by simp [fst1, hh]; omega)]
          omega
        · by_cases h2 : x.ext = (k : Int)
          · rw [if_pos (by simp; omega), if_neg (by simp; omega), if_pos (by simp [fst1, hh, h2])]
            omega
          · rw [if_neg (by simp; omega), if_neg (by simp; omega), if_neg (by simp [fst1, hh, h2])]
            omega
theorem Sm.count (h : Sm n L P T) : wtN P = rowsum L n := by
  rw [← count_row (L := L) P (fun x hx => (h.rg x hx).1) n fun e he => by
    have := congrArg List.length (h.wt e he)
    simpa [wtP] using this]
  unfold wtN
  apply List.countP_congr
  intro x hx
  have := (h.rg x hx).2
  simp [this]
theorem filter_snoc (f : Pc → Bool) (P : List Pc) (x : Pc) : (P ++ [x]).filter f = if f x then P.filter f ++ [x] else P.filter f := by
  rw [List.filter_append]
  by_cases h : f x = true
  · rw [if_pos h]; simp [h]
  · rw [if_neg h]; simp [h]
/-- one comes and holds -/
theorem Sm.addH (h : Sm n L P T) {e : Nat} (he : e < n) (o m : Int) : Sm n (upd L (e * 2) (L (e * 2) ++ [(o, m)])) (P ++ [⟨(e : Int), m, o, true, ((T + 1 : Nat) : Int)⟩]) (T + 1) := by
  refine ⟨fun k hk => ?_, fun k hk => ?_, fun x hx hh => ?_, fun x hx => ?_⟩
  · rw [upd_other _ _ _ (by omega), ← h.wt k hk]
    unfold wtP
    rw [filter_snoc, if_neg (by simp [fst1])]
  · obtain ⟨H, h1, h2, h3⟩ := h.hd k hk
    by_cases hke : k = e
    · subst hke
      rw [upd_same]
      refine ⟨H ++ [⟨(k : Int), m, o, true, ((T + 1 : Nat) : Int)⟩], ?_, ?_, ?_⟩
      · rw [filter_snoc, if_pos (by simp [hl1])]
        exact h1.append_right _
      · rw [List.pairwise_append]
        refine ⟨h2, by simp, fun a ha b hb => ?_⟩
        rw [List.mem_singleton] at hb
        subst hb
        have := h1.mem_iff.1 ha
        rw [List.mem_filter] at this
        have h4 := (h.tn a this.1 (by have := this.2; simp [hl1] at this; exact this.2)).2
        show a.turn < ((T + 1 : Nat) : Int)
        omega
      · rw [List.map_append, h3]; rfl
    · rw [upd_other _ _ _ (by omega)]
      refine ⟨H, ?_, h2, h3⟩
      rw [filter_snoc, if_neg (by simp [hl1]; omega)]
      exact h1
  · rcases List.mem_append.1 hx with q | q
    · have := h.tn x q hh
      omega
    · rw [List.mem_singleton] at q
      subst q
      show 1 ≤ ((T + 1 : Nat) : Int) ∧ ((T + 1 : Nat) : Int) ≤ ((T + 1 : Nat) : Int)
      omega
  · rcases List.mem_append.1 hx with q | q
    · exact h.rg x q
    · rw [List.mem_singleton] at q
      subst q
      show 0 ≤ (e : Int) ∧ (e : Int) < (n : Int)
      omega
/-- one comes and waits -/
theorem Sm.addW (h : Sm n L P T) {e : Nat} (he : e < n) (o m : Int) : Sm n (upd L (e * 2 + 1) (L (e * 2 + 1) ++ [(o, m)])) (P ++ [⟨(e : Int), m, o, false, 0⟩]) T := by
  refine ⟨fun k hk => ?_, fun k hk => ?_, fun x hx hh => ?_, fun x hx => ?_⟩
  · by_cases hke : k = e
    · subst hke
      rw [upd_same, ← h.wt k hk]
      unfold wtP
      rw [filter_snoc, if_pos (by simp [fst1]), List.map_append]
      rfl
    · rw [upd_other _ _ _ (by omega), ← h.wt k hk]
      unfold wtP
      rw [filter_snoc, if_neg (by simp [fst1]; omega)]
  · obtain ⟨H, h1, h2, h3⟩ := h.hd k hk
    rw [upd_other _ _ _ (by omega)]
    refine ⟨H, ?_, h2, h3⟩
    rw [filter_snoc, if_neg (by simp [hl1])]
    exact h1
  · rcases List.mem_append.1 hx with q | q
    · exact h.tn x q hh
    · rw [List.mem_singleton] at q
      subst q
      cases hh
  · rcases List.mem_append.1 hx with q | q
    · exact h.rg x q
    · rw [List.mem_singleton] at q
      subst q
      show 0 ≤ (e : Int) ∧ (e : Int) < (n : Int)
      omega
theorem rem_mid {A B : List (Int × Int)} {c : Int × Int} (h : c.1 ∉ A.map Prod.fst) : rem (A ++ c :: B) c.1 = A ++ B := by
  have e : pl (A ++ c :: B) c.1 = A.length := by
    unfold pl
    rw [List.findIdx_eq (by simp)]
    refine ⟨by simp, fun j hj => ?_⟩
    rw [List.getElem_append_left hj]
    simp only [beq_eq_false_iff_ne]
    intro e
    exact h (List.mem_map.2 ⟨A[j], List.getElem_mem hj, e⟩)
  unfold rem
  rw [e]
  simp
theorem fl_mid (f : Pc → Bool) (A B : List Pc) (x : Pc) : (A ++ x :: B).filter f = if f x then A.filter f ++ x :: B.filter f else A.filter f ++ B.filter f := by
  rw [List.filter_append, List.filter_cons]
  by_cases h : f x = true
  · rw [if_pos h, if_pos h]
  · rw [if_neg h, if_neg h]
/-- a place is given up -/
theorem Sm.gone {A B : List Pc} {x : Pc} {e : Nat} (h : Sm n L (A ++ x :: B) T) (he : e < n) (hx : x.ext = (e : Int)) (hn : ((L (e * 2) ++ L (e * 2 + 1)).map Prod.fst).Nodup) : Sm n (leaveL L e x.own) (A ++ B) T := by
  have mem : ∀ y, y ∈ A ++ B → y ∈ A ++ x :: B := fun y hy => by
    rcases List.mem_append.1 hy with q | q
    · exact List.mem_append_left _ q
    · exact List.mem_append_right _ (List.mem_cons.2 (.inr q))
  rw [List.map_append, List.nodup_append] at hn
  obtain ⟨n1, n2, n3⟩ := hn
  unfold leaveL
  cases hh : x.held with
  | true =>
    have hxh : hl1 (e : Int) x = true := by simp [hl1, hx, hh]
    have hxf : ∀ k : Int, fst1 k x = false := fun k => by simp [fst1, hh]
    have hin : has (L (e * 2)) x.own = true := has_mem.2 (List.mem_map.2 ⟨kv x, (h.memH he _).2 ⟨x, by simp, hxh, rfl⟩, rfl⟩)
    rw [if_pos hin]
    refine ⟨fun k hk => ?_, fun k hk => ?_, fun y hy => h.tn y (mem y hy), fun y hy => h.rg y (mem y hy)⟩
    · rw [upd_other _ _ _ (by omega), ← h.wt k hk]
      unfold wtP
      rw [fl_mid, if_neg (by simp [hxf]), List.filter_append]
    · obtain ⟨H, h1, h2, h3⟩ := h.hd k hk
      by_cases hke : k = e
      · subst hke
        rw [upd_same]
        rw [fl_mid, if_pos hxh] at h1
        obtain ⟨C, D, rfl⟩ := List.append_of_mem (h1.mem_iff.2 (by simp : x ∈ _))
        refine ⟨C ++ D, ?_, ?_, ?_⟩
        · rw [List.filter_append]
          have h4 := (List.perm_middle.symm.trans h1).trans List.perm_middle
          exact (List.perm_cons x).1 h4
        · exact h2.sublist (List.Sublist.append_left (List.sublist_cons_self x D) C)
        · rw [← h3, List.map_append, List.map_append, List.map_cons]
          have := rem_mid (A := C.map kv) (B := D.map kv) (c := kv x) (by
            rw [← h3, List.map_append, List.map_cons, List.map_append, List.map_cons, List.nodup_append] at n1
            intro q
            exact n1.2.2 _ q _ (List.mem_cons.2 (.inl rfl)) rfl)
          exact this.symm
      · rw [upd_other _ _ _ (by omega)]
        refine ⟨H, ?_, h2, h3⟩
        rw [fl_mid, if_neg (by simp [hl1, hx]; omega)] at h1
        rw [List.filter_append]
        exact h1
  | false =>
    have hxw : fst1 (e : Int) x = true := by simp [fst1, hx, hh]
    have hxf : ∀ k : Int, hl1 k x = false := fun k => by simp [hl1, hh]
    have hw : x.own ∈ (L (e * 2 + 1)).map Prod.fst := List.mem_map.2 ⟨kv x, (h.memW he _).2 ⟨x, by simp, hxw, rfl⟩, rfl⟩
    have hin : has (L (e * 2)) x.own = false := has_not.2 fun q => n3 _ q _ hw rfl
    rw [if_neg (by rw [hin]; simp), if_pos (has_mem.2 hw)]
    refine ⟨fun k hk => ?_, fun k hk => ?_, fun y hy => h.tn y (mem y hy), fun y hy => h.rg y (mem y hy)⟩
    · by_cases hke : k = e
      · subst hke
        rw [upd_same, ← h.wt k hk]
        have hn2 := n2
        rw [← h.wt k hk] at hn2
        unfold wtP at hn2 ⊢
        rw [fl_mid, if_pos hxw, List.map_append, List.map_cons] at hn2 ⊢
        rw [List.filter_append, List.map_append]
        have := rem_mid (A := (A.filter (fst1 (k : Int))).map kv) (B := (B.filter (fst1 (k : Int))).map kv) (c := kv x) (by
          rw [List.map_append, List.map_cons, List.nodup_append] at hn2
          intro q
          exact hn2.2.2 _ q _ (List.mem_cons.2 (.inl rfl)) rfl)
        exact this.symm
      · rw [upd_other _ _ _ (by omega), ← h.wt k hk]
        unfold wtP
        rw [fl_mid, if_neg (by simp [fst1, hx]; omega), List.filter_append]
    · obtain ⟨H, h1, h2, h3⟩ := h.hd k hk
      rw [upd_other _ _ _ (by omega)]
      refine ⟨H, ?_, h2, h3⟩
      rw [fl_mid, if_neg (by simp [hxf])] at h1
      rw [List.filter_append]
      exact h1
/-- the first that waits comes in -/
theorem Sm.inn {A B : List Pc} {x : Pc} {e : Nat} (h : Sm n L (A ++ x :: B) T) (he : e < n) (hx : fst1 (e : Int) x = true) (hA : ∀ y ∈ A, fst1 (e : Int) y = false) : ∃ r, L (e * 2 + 1) = kv x :: r ∧ Sm n (upd (upd L (e * 2) (L (e * 2) ++ [kv x])) (e * 2 + 1) r) (A ++ { x with held := true, turn := ((T + 1 : Nat) : Int) } :: B) (T + 1) := by
  have hx2 := hx
  simp only [fst1, Bool.and_eq_true, beq_iff_eq, Bool.not_eq_true'] at hx2
  have hA2 : A.filter (fst1 (e : Int)) = [] := List.filter_eq_nil_iff.2 fun y hy => by simp [hA y hy]
  have hL := h.wt e he
  unfold wtP at hL
  rw [fl_mid, if_pos hx, hA2, List.nil_append, List.map_cons] at hL
  refine ⟨_, hL.symm, ?_⟩
  have mem : ∀ y, y ∈ A ++ { x with held := true, turn := ((T + 1 : Nat) : Int) } :: B → y ∈ A ++ x :: B ∨ y = { x with held := true, turn := ((T + 1 : Nat) : Int) } := fun y hy => by
    rcases List.mem_append.1 hy with q | q
    · exact .inl (List.mem_append_left _ q)
    · rcases List.mem_cons.1 q with q | q
      · exact .inr q
      · exact .inl (List.mem_append_right _ (List.mem_cons.2 (.inr q)))
  refine ⟨fun k hk => ?_, fun k hk => ?_, fun y hy hh => ?_, fun y hy => ?_⟩
  · by_cases hke : k = e
    · subst hke
      rw [upd_same]
      unfold wtP
      rw [fl_mid, if_neg (by simp [fst1]), hA2, List.nil_append]
    · rw [upd_other _ _ _ (by omega), upd_other _ _ _ (by omega), ← h.wt k hk]
      unfold wtP
      rw [fl_mid, fl_mid, if_neg (by simp [fst1]), if_neg (by simp [fst1, hx2.1]; omega)]
  · obtain ⟨H, h1, h2, h3⟩ := h.hd k hk
    rw [upd_other _ _ _ (by omega)]
    by_cases hke : k = e
    · subst hke
      rw [upd_same]
      rw [fl_mid, if_neg (by simp [hl1, hx2.2])] at h1
      refine ⟨H ++ [{ x with held := true, turn := ((T + 1 : Nat) : Int) }], ?_, ?_, ?_⟩
      · rw [fl_mid, if_pos (by simp [hl1, hx2.1])]
        refine (h1.append_right _).trans ?_
        rw [List.append_assoc]
        exact (List.perm_append_singleton _ _).append_left _
      · rw [List.pairwise_append]
        refine ⟨h2, by simp, fun a ha c hc => ?_⟩
        rw [List.mem_singleton] at hc
        subst hc
        have hq := h1.mem_iff.1 ha
        rw [← List.filter_append, List.mem_filter] at hq
        have hq2 := hq.2
        simp only [hl1, Bool.and_eq_true] at hq2
        have h4 := (h.tn a (by
          rcases List.mem_append.1 hq.1 with z | z
          · exact List.mem_append_left _ z
          · exact List.mem_append_right _ (List.mem_cons.2 (.inr z))) hq2.2).2
        show a.turn < ((T + 1 : Nat) : Int)
        omega
      · rw [List.map_append, h3]; rfl
    · rw [upd_other _ _ _ (by omega)]
      refine ⟨H, ?_, h2, h3⟩
      rw [fl_mid, if_neg (by simp [hl1, hx2.2])] at h1
      rw [fl_mid, if_neg (by simp [hl1, hx2.1]; omega)]
      exact h1
  · rcases mem y hy with q | q
    · have := h.tn y q hh
      omega
    · rw [q]
      show 1 ≤ ((T + 1 : Nat) : Int) ∧ ((T + 1 : Nat) : Int) ≤ ((T + 1 : Nat) : Int)
      omega
  · rcases mem y hy with q | q
    · exact h.rg y q
    · rw [q]
      exact h.rg x (by simp)
end
end Go.Proofs.Ytijfnacplikibab
