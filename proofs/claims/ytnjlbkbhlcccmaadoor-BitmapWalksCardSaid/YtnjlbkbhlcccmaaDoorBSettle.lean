import Derived.Test.YtnjlbkbhlcccmaaDoorBBs
namespace Go.Proofs.YtnjlbkbhlcccmaaDoor
open Go.RowKit Go.Shelf
set_option linter.unusedVariables false
set_option linter.unusedSimpArgs false
set_option maxRecDepth 20000

/-- the entries' blocks but for the list i of Raw -/
def Ent2 (i : Nat) (raw was : Value) (ys vs us : List Value) (b : Nat) : Prop := raw.ownBlock = some b ∨ was.ownBlock = some b ∨ (∃ x, (x ∈ ys ∨ x ∈ us) ∧ x.ownBlock = some b) ∨ ∃ (j : Nat) (x : Value), j ≠ i ∧ vs[j]? = some x ∧ x.ownBlock = some b
/-- keep of a list that the book keeps raw -/
theorem keepS2_any {w : World} {k n i : Nat} {bv raw was v : Value} {ys vs us xs : List Value} (h : BkS w k false bv raw was ys vs us) (hev : ys.length % 2 = 0) (hi : vs[i]? = some v) (hv : w.ownsRow 0 63 1 v n xs) (hn : n ≤ 17592186044416) (hnl : ys.length ≤ 9000000000000)
    (hap : ∀ b, Ent2 i raw was ys vs us b → b ≠ k ∧ bv.ownBlock ≠ some b ∧ v.ownBlock ≠ some b) :
    Calls Tryd.prog 13 #[.pointer (some ⟨k, 0, none⟩), v] w fun e w' => e = .returned (.tuple #[]) ∧ ∃ bv' gv, BkS w' k false bv' raw was (ys ++ [v, gv]) vs us ∧ Kp w w' k ys.length n bv v raw was ys bv' gv := by
  refine (keep_any ⟨h.row, h.bo⟩ hv hn hnl).mono ?_
  rintro e w' ⟨rfl, bv', gv, hK⟩
  have hk : ∀ b, b < w.heap.size → Ent2 i raw was ys vs us b → w'.heap[b]? = w.heap[b]? := fun b hb he => hK.chg.keep b hb (by
    obtain ⟨h1, h2, h3⟩ := hap b he
    rintro (e | e | e)
    · exact h1 e
    · exact h2 e
    · exact h3 e)
  have hll : (ys ++ [v, gv]).length = ys.length + 2 := by simp
  refine ⟨rfl, bv', gv, ⟨hK.bk.row, by rw [hll]; exact hK.bk.bo, rowKept h.ro fun g e => hk g (h.ro.lt g e).2 (.inl e), rowKept h.wo fun g e => hk g (h.wo.lt g e).2 (.inr (.inl e)), h.len, fun j u x h1 h2 => ?_, fun j x h1 => ?_⟩, hK⟩
  · obtain ⟨l1, l2, a, b, c⟩ := h.re j u x h1 h2
    have hb := b.keptIf (w' := w') fun g e hg => hk g hg (.inr (.inr (.inl ⟨u, .inr (List.mem_of_getElem? h2), blockOf_own e⟩)))
    by_cases hj : j = i
    · subst hj
      rw [hi] at h1
      obtain rfl := Option.some.inj h1
      exact ⟨_, l2, hK.one, hb, fun e => by cases e⟩
    · exact ⟨l1, l2, a.keptIf fun g e hg => hk g hg (.inr (.inr (.inr ⟨j, x, hj, h1, blockOf_own e⟩))), hb, c⟩
  · by_cases hj : j < ys.length
    · rw [List.getElem?_append_left hj] at h1
      obtain ⟨m, a⟩ := h.le j x h1
      exact ⟨m, a.keptIf fun g e hg => hk g hg (.inr (.inr (.inl ⟨x, .inl (List.mem_of_getElem? h1), blockOf_own e⟩)))⟩
    · rw [List.getElem?_append_right (by omega)] at h1
      have hc : j - ys.length = 0 ∨ j - ys.length = 1 ∨ 2 ≤ j - ys.length := by omega
      rcases hc with hc | hc | hc
      · rw [hc] at h1
        have e1 : v = x := by simpa using h1
        subst e1
        have e2 : j - j % 2 = ys.length := by omega
        exact ⟨n, by rw [e2]; exact hK.one⟩
      · rw [hc] at h1
        have e1 : gv = x := by simpa using h1
        subst e1
        have e2 : j - j % 2 = ys.length := by omega
        exact ⟨n + 80, by rw [e2]; exact hK.two⟩
      · rw [List.getElem?_eq_none (by simpa using hc)] at h1
        cases h1
end Go.Proofs.YtnjlbkbhlcccmaaDoor
