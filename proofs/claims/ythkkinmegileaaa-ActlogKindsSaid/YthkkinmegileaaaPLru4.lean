import Derived.Test.YthkkinmegileaaaPLru3
import Derived.Test.YthkkinmegileaaaAUpon
namespace Go.Proofs.Ythkkinmegileaaa.Sp
open Go.RowKit Go.Sort
set_option linter.unusedVariables false
set_option linter.unusedSimpArgs false
set_option maxRecDepth 20000

theorem pC_len : ∀ (l : List Int), (l.flatMap pC).length = l.length * 2
  | [] => rfl
  | a :: r => by
    rw [List.flatMap_cons, List.length_append, pC_len r]
    simp [pC]
    omega
theorem pC_get : ∀ {l : List Int} {s : Nat} {r : Int}, l[s]? = some r → (l.flatMap pC)[s * 2]? = some (.int .i64 (pA r)) ∧ (l.flatMap pC)[s * 2 + 1]? = some (.int .u8 (pB r))
  | [], s, r, h => by simp at h
  | a :: l, 0, r, h => by
    have e : a = r := by simpa using h
    subst e
    exact ⟨rfl, rfl⟩
  | a :: l, s + 1, r, h => by
    have h' : l[s]? = some r := by simpa using h
    obtain ⟨h1, h2⟩ := pC_get h'
    have e1 : (s + 1) * 2 = s * 2 + 1 + 1 := by omega
    rw [e1]
    exact ⟨h1, h2⟩
theorem pC_set : ∀ (l : List Int) (s : Nat) (key : Int), ((l.flatMap pC).set (s * 2) (.int .i64 (pA key))).set (s * 2 + 1) (.int .u8 (pB key)) = (l.set s key).flatMap pC
  | [], s, key => by simp
  | a :: l, 0, key => rfl
  | a :: l, s + 1, key => by
    have e1 : (s + 1) * 2 = s * 2 + 1 + 1 := by omega
    rw [List.set_cons_succ, List.flatMap_cons, List.flatMap_cons, ← pC_set l s key, e1]
    rfl
/-- a key's two cells -/
theorem row_atS {w : World} {v : Value} {l : List Int} {s : Nat} {r : Int} (h : w.ownsRow 0 34 2 v l.length (l.flatMap pC)) (hs : l[s]? = some r) : ∃ g cap cs, v = .slice (some ⟨g, 0, none⟩) l.length cap ∧ w.cell? ⟨g, s * 2, none⟩ = some (.int .i64 (pA r)) ∧ w.cell? ⟨g, s * 2 + 1, none⟩ = some (.int .u8 (pB r)) ∧ w.heap[g]? = some (.cells cs 34 (0, 0)) := by
  have hl : s < l.length := (List.getElem?_eq_some_iff.1 hs).1
  obtain ⟨h1, h2⟩ := pC_get hs
  rcases id h.2 with ⟨_, e⟩ | ⟨g, cap, cur, rfl, _, hg, _, _, _, ht⟩
  · omega
  · have hc : ∀ j x, j < l.length * 2 → (l.flatMap pC)[j]? = some x → w.cell? ⟨g, j, none⟩ = some x := fun j x hj hx => by
      rw [← ht, List.getElem?_take_of_lt hj] at hx
      rw [cell_of_row _ _ _ _ _ _ hg, ← Array.getElem?_toList]
      exact hx
    exact ⟨g, cap, cur, rfl, hc _ _ (by omega) h1, hc _ _ (by omega) h2, hg⟩
/-- a pair is written -/
theorem row_setS {w : World} {g cap s n : Nat} {l : List Int} {key : Int} (h : w.ownsRow 0 34 2 (.slice (some ⟨g, 0, none⟩) n cap) n (l.flatMap pC)) (hs : s < n) :
    ((w.setCell ⟨g, s * 2, none⟩ (.int .i64 (pA key))).setCell ⟨g, s * 2 + 1, none⟩ (.int .u8 (pB key))).ownsRow 0 34 2 (.slice (some ⟨g, 0, none⟩) n cap) n ((l.set s key).flatMap pC) := by
  have hl := h.1
  rw [pC_len] at hl
  refine ⟨by rw [pC_len, List.length_set]; exact hl, ?_⟩
  rcases h.2 with ⟨h0, _⟩ | ⟨g', cap', cur, e', h1, hg, h2, h3, h4, h5⟩
  · simp at h0
  · simp only [Value.slice.injEq, Option.some.injEq, Addr.mk.injEq] at e'
    obtain ⟨⟨rfl, -, -⟩, -, rfl⟩ := e'
    refine .inr ⟨g, cap, (cur.setIfInBounds (s * 2) (.int .i64 (pA key))).setIfInBounds (s * 2 + 1) (.int .u8 (pB key)), rfl, h1, Go.heap_setCell_same _ g _ _ _ _ (Go.heap_setCell_same w g _ _ _ _ hg), h2, h3, by simpa using h4, ?_⟩
    rw [Array.toList_setIfInBounds, Array.toList_setIfInBounds, List.take_set, List.take_set, h5, pC_set]
end Go.Proofs.Ythkkinmegileaaa.Sp
