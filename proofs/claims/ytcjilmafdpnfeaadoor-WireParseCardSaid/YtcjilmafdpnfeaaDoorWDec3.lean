import Derived.Test.YtcjilmafdpnfeaaDoorWDec2
namespace Go.Proofs.YtcjilmafdpnfeaaDoor
open Go.RowKit
open Num
set_option linter.unusedVariables false
set_option linter.unusedSimpArgs false
set_option maxRecDepth 20000

theorem BSl.tail {w : World} {b off cap : Nat} {l : List Nat} (h : BSl w (.slice (some ⟨b, off, none⟩) l.length cap) l) (h26 : 26 ≤ l.length) : BSl w (.slice (if cap = 26 then some (⟨b, off, none⟩ : Addr) else some ⟨b, off + 26, none⟩) (l.length - 26) (cap - 26)) (l.drop 26) := by
  obtain ⟨_, _, e, h1, h2, _, h4, _⟩ := id h
  simp only [Value.slice.injEq, Option.some.injEq] at e
  obtain ⟨rfl, _, rfl⟩ := e
  by_cases hc : cap = 26
  · have hl : l.length = 26 := by omega
    have hd : l.drop 26 = [] := List.drop_eq_nil_of_le (by omega)
    rw [hd, if_pos hc, hc, hl]
    exact ⟨_, 0, rfl, Nat.le_refl _, by unfold maxLen; omega, by simp, by simp, by simp⟩
  · rw [if_neg hc, ← sg_rest]
    exact h.seg 26 (l.length - 26) (by omega)
theorem row6f {x : World} {g : Nat} {v0 v1 v2 v3 v4 v5 : Value} {t : TypeId} (hr : x.heap[g]? = some (.cells #[v0, v1, v2, v3, v4, v5] t (0, 0))) :
    x.cell? ⟨g, 0, none⟩ = some v0 ∧ x.cell? ⟨g, 1, none⟩ = some v1 ∧ x.cell? ⟨g, 2, none⟩ = some v2 ∧ x.cell? ⟨g, 3, none⟩ = some v3 ∧ x.cell? ⟨g, 4, none⟩ = some v4 ∧ x.cell? ⟨g, 5, none⟩ = some v5 ∧ x.frozen? ⟨g, 0, none⟩ = false ∧ x.frozen? ⟨g, 1, none⟩ = false ∧ x.frozen? ⟨g, 2, none⟩ = false ∧ x.frozen? ⟨g, 3, none⟩ = false ∧ x.frozen? ⟨g, 4, none⟩ = false ∧ x.frozen? ⟨g, 5, none⟩ = false :=
  ⟨by rw [cell_of_row _ _ _ _ _ _ hr]; rfl, by rw [cell_of_row _ _ _ _ _ _ hr]; rfl, by rw [cell_of_row _ _ _ _ _ _ hr]; rfl, by rw [cell_of_row _ _ _ _ _ _ hr]; rfl, by rw [cell_of_row _ _ _ _ _ _ hr]; rfl, by rw [cell_of_row _ _ _ _ _ _ hr]; rfl, frozen_of_row _ _ _ _ _ hr, frozen_of_row _ _ _ _ _ hr, frozen_of_row _ _ _ _ _ hr, frozen_of_row _ _ _ _ _ hr, frozen_of_row _ _ _ _ _ hr, frozen_of_row _ _ _ _ _ hr⟩
theorem BSl.front {w : World} {b off cap : Nat} {l : List Nat} (h : BSl w (.slice (some ⟨b, off, none⟩) l.length cap) l) (h26 : 26 ≤ l.length) : BSl w (.slice (some ⟨b, off, none⟩) 22 cap) (l.take 22) := by
  have := h.seg 0 22 (by omega)
  rw [sg_zero] at this
  exact this

end Go.Proofs.YtcjilmafdpnfeaaDoor
