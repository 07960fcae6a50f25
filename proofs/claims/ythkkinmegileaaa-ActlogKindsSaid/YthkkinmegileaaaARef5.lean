import Derived.Test.YthkkinmegileaaaARef4
namespace Go.Proofs.Ythkkinmegileaaa
open Go.RowKit Go.Sort
set_option linter.unusedVariables false
set_option linter.unusedSimpArgs false
set_option maxRecDepth 20000

theorem sole_eq {l m : List Nat} (hl : l.Nodup) (hm : m.Nodup) (e : ∀ x, x ∈ l ↔ x ∈ m) (so : ∀ x ∈ l, ∀ y ∈ l, x = y) : l = m := by
  cases l with
  | nil =>
    cases m with
    | nil => rfl
    | cons a r => have := (e a).2 (by simp); simp at this
  | cons a r =>
    cases r with
    | cons b r' =>
      have := so a (by simp) b (by simp)
      subst this
      simp at hl
    | nil =>
      have ha := (e a).1 (by simp)
      have hall : ∀ y ∈ m, y = a := fun y hy => by simpa using (e y).2 hy
      cases m with
      | nil => simp at ha
      | cons b r =>
        obtain rfl := hall b (by simp)
        cases r with
        | nil => rfl
        | cons c r' =>
          obtain rfl := hall c (by simp)
          simp at hm
theorem filter_split {f : Nat → Nat} (t : Nat) : ∀ {l : List Nat}, l.Pairwise (fun a b => f a < f b) → l.filter (fun s => decide (f s < t + 1)) = l.filter (fun s => decide (f s < t)) ++ l.filter (fun s => decide (f s = t))
  | [], _ => rfl
  | a :: r, h => by
    obtain ⟨h1, h2⟩ := List.pairwise_cons.1 h
    have ih := filter_split t h2
    by_cases c1 : f a < t
    · rw [List.filter_cons_of_pos (by simp; omega), List.filter_cons_of_pos (by simp; omega), List.filter_cons_of_neg (by simp; omega), ih]; rfl
    · have e1 : r.filter (fun s => decide (f s < t)) = [] := List.filter_eq_nil_iff.2 fun x hx => by have := h1 x hx; simp; omega
      rw [e1, List.nil_append] at ih
      rw [List.filter_cons_of_neg (p := fun s => decide (f s < t)) (by simp; omega), e1, List.nil_append]
      by_cases c2 : f a = t
      · rw [List.filter_cons_of_pos (by simp; omega), List.filter_cons_of_pos (by simp; omega), ih]
      · rw [List.filter_cons_of_neg (by simp; omega), List.filter_cons_of_neg (by simp; omega), ih]
/-- the slots that the document's Keys has laid before slot i of time t -/
def rcand (C : List RC) (t s : Nat) : Bool := (rcb C s).used && decide ((rcb C s).refs = 0) && decide ((rcb C s).given = t)
def rseen (S : LS) (C : List RC) (t i : Nat) : List Nat := S.idle.filter (fun s => decide ((rcb C s).given < t)) ++ (List.range i).filter (rcand C t)
theorem rseen_succ (S : LS) (C : List RC) (t i : Nat) : rseen S C t (i + 1) = if rcand C t i then rseen S C t i ++ [i] else rseen S C t i := by
  unfold rseen
  rw [List.range_succ, List.filter_append]
  cases h : rcand C t i
  · rw [List.filter_cons_of_neg (by rw [h]; decide)]; simp
  · rw [List.filter_cons_of_pos h]; simp
theorem rseen_len {S : LS} {C : List RC} {P M : Nat} (hS : S.Ok M) (t i : Nat) : (rseen S C t i).length ≤ 16 + i := by
  unfold rseen
  rw [List.length_append]
  have h1 : (S.idle.filter (fun s => decide ((rcb C s).given < t))).length ≤ S.idle.length := List.length_filter_le _ _
  have h2 : ((List.range i).filter (rcand C t)).length ≤ i := Nat.le_trans (List.length_filter_le _ _) (by simp)
  have h3 := nodup_bound hS.id fun x hx => hS.idle_lt hx
  have := hS.kl
  have := hS.s2
  omega
theorem rcand_iff {S : LS} {C : List RC} {P M : Nat} (hR : Rel S C P) (hS : S.Ok M) {t s : Nat} (hs : s < C.length) : rcand C t s = true ↔ s ∈ S.idle ∧ (rcb C s).given = t := by
  unfold rcand
  simp only [Bool.and_eq_true, decide_eq_true_eq]
  constructor
  · rintro ⟨⟨h1, h2⟩, h3⟩
    refine ⟨(hS.im s).2 ?_, h3⟩
    by_cases hk : s < S.ks.length
    · rw [(hR.us s hk).2.2, h2]
    · rw [hR.fr s (by omega) hs] at h1; cases h1
  · rintro ⟨h1, h2⟩
    have hk := hS.idle_lt h1
    have h3 := (hR.us s hk).2.2
    rw [(hS.im s).1 h1] at h3
    exact ⟨⟨(hR.us s hk).1, (Option.some.inj h3).symm⟩, h2⟩
theorem rseen_next {S : LS} {C : List RC} {P M : Nat} (hR : Rel S C P) (hS : S.Ok M) (t : Nat) : rseen S C (t + 1) 0 = rseen S C t C.length := by
  unfold rseen
  have e : (List.range C.length).filter (rcand C t) = S.idle.filter (fun s => decide ((rcb C s).given = t)) := by
    refine (sole_eq (hS.id.filter _) (List.nodup_range.filter _) (fun x => ?_) fun x hx y hy => ?_).symm
    · simp only [List.mem_filter, List.mem_range, decide_eq_true_eq]
      constructor
      · rintro ⟨h1, h2⟩
        have hx : x < C.length := by have := hS.idle_lt h1; have := hS.kl; rw [hR.len]; omega
        exact ⟨hx, (rcand_iff hR hS hx).2 ⟨h1, h2⟩⟩
      · rintro ⟨h1, h2⟩
        exact (rcand_iff hR hS h1).1 h2
    · simp only [List.mem_filter, decide_eq_true_eq] at hx hy
      obtain ⟨i, hi⟩ := List.getElem?_of_mem hx.1
      obtain ⟨j, hj⟩ := List.getElem?_of_mem hy.1
      obtain ⟨hil, hix⟩ := List.getElem?_eq_some_iff.1 hi
      obtain ⟨hjl, hjy⟩ := List.getElem?_eq_some_iff.1 hj
      have hp := List.pairwise_iff_getElem.1 hR.od
      rcases Nat.lt_trichotomy i j with h | h | h
      · have := hp i j hil hjl h; rw [hix, hjy] at this; omega
      · subst h; rw [← hix, ← hjy]
      · have := hp j i hjl hil h; rw [hix, hjy] at this; omega
  rw [e, filter_split t hR.od]
  simp
theorem rseen_first {S : LS} {C : List RC} {P : Nat} (hR : Rel S C P) : rseen S C 1 0 = [] := by
  unfold rseen
  rw [List.filter_eq_nil_iff.2 fun x hx => by have := (hR.rg x hx).1; simp; omega]
  rfl
theorem rseen_last {S : LS} {C : List RC} {P : Nat} (hR : Rel S C P) : rseen S C (P + 1) 0 = S.idle := by
  unfold rseen
  rw [List.filter_eq_self.2 fun x hx => by have := (hR.rg x hx).2; simp; omega]
  simp
/-- the slots with references before slot i -/
def rbusy (C : List RC) (i : Nat) : List Nat := (List.range i).filter (fun s => (rcb C s).used && decide (0 < (rcb C s).refs))
theorem rbusy_succ (C : List RC) (i : Nat) : rbusy C (i + 1) = if (rcb C i).used && decide (0 < (rcb C i).refs) then rbusy C i ++ [i] else rbusy C i := by
  unfold rbusy
  rw [List.range_succ, List.filter_append]
  cases h : (rcb C i).used && decide (0 < (rcb C i).refs)
  · rw [List.filter_cons_of_neg (by rw [h]; decide)]; simp
  · rw [List.filter_cons_of_pos (by exact h)]; simp
theorem rbusy_len (C : List RC) (i : Nat) : (rbusy C i).length ≤ i := by
  unfold rbusy
  exact Nat.le_trans (List.length_filter_le _ _) (by simp)
def rkey (C : List RC) (s : Nat) : Int := (rcb C s).key
theorem rkeys_eq {S : LS} {C : List RC} {P M : Nat} (hR : Rel S C P) (hS : S.Ok M) : (S.idle ++ rbusy C C.length).map (rkey C) = S.keys := by
  have hk : ∀ s, s < S.ks.length → S.ks.getD s 0 = rkey C s := fun s hs => by simp only [List.getD]; rw [(hR.us s hs).2.1]; rfl
  have hr : ∀ s, s < S.ks.length → S.rs.getD s 0 = (rcb C s).refs := fun s hs => getD_of (hR.us s hs).2.2
  have hle : S.ks.length ≤ C.length := by rw [hR.len]; exact hS.kl
  rw [LS.keys, List.map_append]
  congr 1
  · exact (List.map_congr_left fun s hs => hk s (hS.idle_lt hs)).symm
  · have step : ∀ n, n ≤ C.length → rbusy C n = (List.range (min n S.ks.length)).filter (fun s => decide (0 < S.rs.getD s 0)) := by
      intro n
      induction n with
      | zero => intro _; simp [rbusy]
      | succ n ih =>
        intro hn
        rw [rbusy_succ, ih (by omega)]
        by_cases c : n < S.ks.length
        · have e1 : min (n + 1) S.ks.length = n + 1 := by omega
          have e2 : min n S.ks.length = n := by omega
          rw [e1, e2, List.range_succ, List.filter_append, (hR.us n c).1, Bool.true_and, ← hr n c]
          by_cases d : 0 < S.rs.getD n 0
          · rw [if_pos (by exact decide_eq_true d), List.filter_cons_of_pos (by exact decide_eq_true d)]; rfl
          · rw [if_neg (by rw [decide_eq_false d]; decide), List.filter_cons_of_neg (by rw [decide_eq_false d]; decide)]; simp
        · have e1 : min (n + 1) S.ks.length = min n S.ks.length := by omega
          rw [e1, hR.fr n (by omega) (by omega), Bool.false_and, if_neg (by decide)]
    rw [step _ (Nat.le_refl _), Nat.min_eq_right hle]
    exact (List.map_congr_left fun s hs => hk s (by simpa using (List.mem_filter.1 hs).1)).symm
end Go.Proofs.Ythkkinmegileaaa
