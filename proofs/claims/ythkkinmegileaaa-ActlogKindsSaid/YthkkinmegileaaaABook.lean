import Derived.Test.YthkkinmegileaaaALk
namespace Go.Proofs.Ythkkinmegileaaa
open Go.RowKit Go.Sort
set_option linter.unusedVariables false
set_option linter.unusedSimpArgs false
set_option maxRecDepth 20000

def Us.cells (u : Us) : List Value := [.int .i64 u.key, .int .i64 (u.got : Int), .int .i64 (u.back : Int), .int .i64 (u.at_ : Int)]
def flat (L : List Us) : List Value := L.flatMap Us.cells
theorem flat_len : ∀ L : List Us, (flat L).length = L.length * 4
  | [] => rfl
  | u :: r => by
    have := flat_len r
    simp only [flat, List.flatMap_cons, List.length_append, List.length_cons] at *
    rw [this]
    simp [Us.cells]
    omega
theorem flat_get : ∀ {L : List Us} {i : Nat} {u : Us} (h : L[i]? = some u) {f : Nat} (hf : f < 4), (flat L)[i * 4 + f]? = u.cells[f]?
  | [], i, u, h, f, hf => by simp at h
  | a :: r, 0, u, h, f, hf => by
    have e : a = u := by simpa using h
    subst e
    simp only [flat, List.flatMap_cons]
    rw [List.getElem?_append_left (by simp [Us.cells]; omega)]
    simp
  | a :: r, i + 1, u, h, f, hf => by
    have hl : a.cells.length = 4 := rfl
    simp only [flat, List.flatMap_cons]
    rw [List.getElem?_append_right (by rw [hl]; omega), hl]
    have := flat_get (L := r) (i := i) (u := u) (by simpa using h) hf
    rw [← this]
    show (flat r)[_]? = _
    congr 1
    omega
theorem flat_set : ∀ {L : List Us} {i : Nat} {u u' : Us} (h : L[i]? = some u) {f : Nat} (hf : f < 4) {x : Value} (e : u'.cells = u.cells.set f x), (flat L).set (i * 4 + f) x = flat (L.set i u')
  | [], i, u, u', h, f, hf, x, e => by simp at h
  | a :: r, 0, u, u', h, f, hf, x, e => by
    have e2 : a = u := by simpa using h
    subst e2
    simp only [flat, List.flatMap_cons, List.set_cons_zero]
    rw [List.set_append_left _ _ (by simp [Us.cells]; omega), e]
    simp
  | a :: r, i + 1, u, u', h, f, hf, x, e => by
    have hl : a.cells.length = 4 := rfl
    have := flat_set (L := r) (i := i) (u := u) (u' := u') (by simpa using h) hf e
    simp only [flat, List.flatMap_cons, List.set_cons_succ] at *
    rw [List.set_append_right _ _ (by rw [hl]; omega), hl, ← this]
    congr 2
    omega
theorem flat_snoc (L : List Us) (u : Us) : flat (L ++ [u]) = flat L ++ u.cells := by simp [flat]
theorem cells_new4 (w : World) (a b c d : Value) (t : TypeId) : ∀ j u, [a, b, c, d][j]? = some u → (w.alloc (.cells #[a, b, c, d] t)).cell? ((⟨w.heap.size, 0, none⟩ : Addr).add j) = some u := fun j u h => by
  have := cell_of_row (w.alloc (.cells #[a, b, c, d] t)) w.heap.size j #[a, b, c, d] t (0, 0) (Go.heap_alloc_new _ _)
  rw [Addr.add_lit, Nat.zero_add, this]
  simpa using h
def FRes (L : List Us) (key : Int) (r : Int) : Prop := (∃ (i : Nat) (u : Us), L[i]? = some u ∧ u.key = key ∧ r = (i : Int)) ∨ ((∀ u ∈ L, u.key ≠ key) ∧ r = -1)
end Go.Proofs.Ythkkinmegileaaa
