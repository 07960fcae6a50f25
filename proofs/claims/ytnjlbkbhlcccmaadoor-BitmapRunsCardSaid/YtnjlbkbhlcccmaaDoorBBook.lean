import Derived.Test.YtnjlbkbhlcccmaaDoorBLate
namespace Go.Proofs.YtnjlbkbhlcccmaaDoor
open Go.RowKit Go.Shelf
set_option linter.unusedVariables false
set_option linter.unusedSimpArgs false
set_option maxRecDepth 20000

/-- the blocks that the book's entries lie in -/
def Ent (raw was : Value) (ys vs us : List Value) (b : Nat) : Prop := raw.ownBlock = some b ∨ was.ownBlock = some b ∨ ∃ x, (x ∈ ys ∨ x ∈ vs ∨ x ∈ us) ∧ x.ownBlock = some b
theorem blockOf_own {v : Value} {b : Nat} (h : blockOf v = some b) : v.ownBlock = some b := by
  cases v <;> simp_all [blockOf, Value.ownBlock]
  rename_i a n c
  cases a with
  | none => simp [blockOf] at h
  | some ad => simpa [blockOf, Value.ownBlock] using h
theorem BkS.kept {w w' : World} {k : Nat} {late : Bool} {bv raw was : Value} {ys vs us : List Value} (h : BkS w k late bv raw was ys vs us) (hk : ∀ b, b < w.heap.size → (b = k ∨ bv.ownBlock = some b ∨ Ent raw was ys vs us b) → w'.heap[b]? = w.heap[b]?) : BkS w' k late bv raw was ys vs us := by
  have hkl := (Array.getElem?_eq_some_iff.1 h.row).1
  refine ⟨(hk _ hkl (.inl rfl)).trans h.row, rowKept h.bo fun g e => hk g (h.bo.lt g e).2 (.inr (.inl e)), rowKept h.ro fun g e => hk g (h.ro.lt g e).2 (.inr (.inr (.inl e))), rowKept h.wo fun g e => hk g (h.wo.lt g e).2 (.inr (.inr (.inr (.inl e)))), h.len, fun j u v h1 h2 => ?_, fun j v h1 => ?_⟩
  · obtain ⟨l1, l2, a, b, c⟩ := h.re j u v h1 h2
    exact ⟨l1, l2, a.keptIf fun g e hg => hk g hg (.inr (.inr (.inr (.inr ⟨v, .inr (.inl (List.mem_of_getElem? h1)), blockOf_own e⟩)))), b.keptIf fun g e hg => hk g hg (.inr (.inr (.inr (.inr ⟨u, .inr (.inr (List.mem_of_getElem? h2)), blockOf_own e⟩)))), c⟩
  · obtain ⟨m, a⟩ := h.le j v h1
    exact ⟨m, a.keptIf fun g e hg => hk g hg (.inr (.inr (.inr (.inr ⟨v, .inl (List.mem_of_getElem? h1), blockOf_own e⟩))))⟩
/-- keep, of a book that is not late -/
theorem keepS_any {w : World} {k n : Nat} {bv raw was v : Value} {ys vs us xs : List Value} (h : BkS w k false bv raw was ys vs us) (hev : ys.length % 2 = 0) (hv : w.ownsRow 0 63 1 v n xs) (hn : n ≤ 17592186044416) (hnl : ys.length ≤ 9000000000000)
    (hap : ∀ b, Ent raw was ys vs us b → b ≠ k ∧ bv.ownBlock ≠ some b ∧ v.ownBlock ≠ some b) :
    Calls Tryd.prog 13 #[.pointer (some ⟨k, 0, none⟩), v] w fun e w' => e = .returned (.tuple #[]) ∧ ∃ bv' gv, BkS w' k false bv' raw was (ys ++ [v, gv]) vs us ∧ Kp w w' k ys.length n bv v raw was ys bv' gv := by
  refine (keep_any ⟨h.row, h.bo⟩ hv hn hnl).mono ?_
  rintro e w' ⟨rfl, bv', gv, hK⟩
  have hk : ∀ b, b < w.heap.size → Ent raw was ys vs us b → w'.heap[b]? = w.heap[b]? := fun b hb he => hK.chg.keep b hb (by
    obtain ⟨h1, h2, h3⟩ := hap b he
    rintro (e | e | e)
    · exact h1 e
    · exact h2 e
    · exact h3 e)
  have hll : (ys ++ [v, gv]).length = ys.length + 2 := by simp
  refine ⟨rfl, bv', gv, ⟨hK.bk.row, by rw [hll]; exact hK.bk.bo, rowKept h.ro fun g e => hk g (h.ro.lt g e).2 (.inl e), rowKept h.wo fun g e => hk g (h.wo.lt g e).2 (.inr (.inl e)), h.len, fun j u x h1 h2 => ?_, fun j x h1 => ?_⟩, hK⟩
  · obtain ⟨l1, l2, a, b, c⟩ := h.re j u x h1 h2
    exact ⟨l1, l2, a.keptIf fun g e hg => hk g hg (.inr (.inr ⟨x, .inr (.inl (List.mem_of_getElem? h1)), blockOf_own e⟩)), b.keptIf fun g e hg => hk g hg (.inr (.inr ⟨u, .inr (.inr (List.mem_of_getElem? h2)), blockOf_own e⟩)), c⟩
  · by_cases hj : j < ys.length
    · rw [List.getElem?_append_left hj] at h1
      obtain ⟨m, a⟩ := h.le j x h1
      exact ⟨m, a.keptIf fun g e hg => hk g hg (.inr (.inr ⟨x, .inl (List.mem_of_getElem? h1), blockOf_own e⟩))⟩
    · rw [List.getElem?_append_right (by omega)] at h1
      have hc : j - ys.length = 0 ∨ j - ys.length = 1 ∨ 2 ≤ j - ys.length := by omega
      rcases hc with hc | hc | hc
      · rw [hc] at h1
        have e1 : v = x := by simpa using h1
        subst e1
        have e2 : j - j % 2 = ys.length := by omega
        exact ⟨n, by rw [e2]; exact hK.one⟩
      · rw [hc] at h1
        have e1 : gv = x := by simpa using h1
        subst e1
        have e2 : j - j % 2 = ys.length := by omega
        exact ⟨n + 80, by rw [e2]; exact hK.two⟩
      · rw [List.getElem?_eq_none (by simpa using hc)] at h1
        cases h1
/-- keep, of a late book -/
theorem keepLateS_any {w : World} {k : Nat} {bv raw was v : Value} {ys vs us : List Value} {l : List Nat} (h : BkS w k true bv raw was ys vs us) (hne : ∀ b, raw.ownBlock = some b → was.ownBlock ≠ some b) (hv : w.ownsRow 0 63 1 v l.length (l.map u64V)) (hw : WSl w v l)
    (hl : l.length ≤ 17592186044416) (hn : vs.length ≤ 9000000000000)
    (hap : ∀ b, (bv.ownBlock = some b ∨ ∃ x, (x ∈ ys ∨ x ∈ vs ∨ x ∈ us) ∧ x.ownBlock = some b) → b ≠ k ∧ raw.ownBlock ≠ some b ∧ was.ownBlock ≠ some b) :
    Calls Tryd.prog 13 #[.pointer (some ⟨k, 0, none⟩), v] w fun e w' => e = .returned (.tuple #[]) ∧ ∃ raw' was' u, BkS w' k true bv raw' was' ys (vs ++ [v]) (us ++ [u]) ∧ Lt w w' k bv raw was raw' was' v u vs us l := by
  have hlen := h.len
  refine (keepLate_any h.row h.ro h.wo hne hv hw hl hn (by omega)).mono ?_
  rintro e w' ⟨rfl, raw', was', u, hL⟩
  have hk : ∀ b, b < w.heap.size → (bv.ownBlock = some b ∨ ∃ x, (x ∈ ys ∨ x ∈ vs ∨ x ∈ us) ∧ x.ownBlock = some b) → w'.heap[b]? = w.heap[b]? := fun b hb he => hL.chg.keep b hb (by
    obtain ⟨h1, h2, h3⟩ := hap b he
    rintro (e | e | e)
    · exact h1 e
    · exact h2 e
    · exact h3 e)
  have hvk : ∀ b, v.ownBlock = some b → w'.heap[b]? = w.heap[b]? := fun b e => hL.chg.keep b (hv.lt b e).2 (by
    obtain ⟨cs, hcs⟩ := rowCells hv e
    rintro (e2 | e2 | e2)
    · exact neType hcs h.row (by decide) e2
    · obtain ⟨ds, hds⟩ := rowCells h.ro e2; exact neType hcs hds (by decide) rfl
    · obtain ⟨ds, hds⟩ := rowCells h.wo e2; exact neType hcs hds (by decide) rfl)
  refine ⟨rfl, raw', was', u, ⟨hL.row, rowKept h.bo fun g e => hk g (h.bo.lt g e).2 (.inl e), by rw [List.length_append]; exact hL.ro, by rw [List.length_append]; exact hL.wo, by simp [hlen], fun j y x h1 h2 => ?_, fun j x h1 => ?_⟩, hL⟩
  · by_cases hj : j < vs.length
    · rw [List.getElem?_append_left hj] at h1
      rw [List.getElem?_append_left (by omega)] at h2
      obtain ⟨l1, l2, a, b, c⟩ := h.re j y x h1 h2
      exact ⟨l1, l2, a.keptIf fun g e hg => hk g hg (.inr ⟨x, .inr (.inl (List.mem_of_getElem? h1)), blockOf_own e⟩), b.keptIf fun g e hg => hk g hg (.inr ⟨y, .inr (.inr (List.mem_of_getElem? h2)), blockOf_own e⟩), c⟩
    · rw [List.getElem?_append_right (by omega)] at h1 h2
      by_cases hc : j - vs.length = 0
      · rw [hc] at h1
        rw [hlen, hc] at h2
        have e1 : v = x := by simpa using h1
        have e2 : u = y := by simpa using h2
        subst e1 e2
        exact ⟨l, l, wsl_keep hw hvk, hL.ws, fun _ => rfl⟩
      · rw [List.getElem?_eq_none (by simp; omega)] at h1
        cases h1
  · obtain ⟨m, a⟩ := h.le j x h1
    exact ⟨m, a.keptIf fun g e hg => hk g hg (.inr ⟨x, .inl (List.mem_of_getElem? h1), blockOf_own e⟩)⟩
end Go.Proofs.YtnjlbkbhlcccmaaDoor
