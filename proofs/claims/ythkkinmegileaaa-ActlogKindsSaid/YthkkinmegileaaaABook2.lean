import Derived.Test.YthkkinmegileaaaABook
namespace Go.Proofs.Ythkkinmegileaaa
open Go.RowKit Go.Sort
set_option linter.unusedVariables false
set_option linter.unusedSimpArgs false
set_option maxRecDepth 20000

/-- nothing but the tape's place has turned -/
def Qt (w w' : World) : Prop := w'.heap = w.heap ∧ Below w.heap.size w w'
theorem Qt.refl (w : World) : Qt w w := ⟨rfl, Below.refl _ _⟩
theorem Qt.drewN {w w1 : World} (h : Qt w w1) : ∀ n, Qt w (w1.drewN n)
  | 0 => h
  | n + 1 => ⟨(Qt.drewN h n).1, (Qt.drewN h n).2.drew⟩
theorem Qt.trans {a b c : World} (h : Qt a b) (k : Qt b c) : Qt a c := ⟨k.1.trans h.1, h.2.trans (k.2.mono h.2.size)⟩
theorem Qt.cell {w w' : World} (h : Qt w w') (a : Addr) : w'.cell? a = w.cell? a := World.cell?_of_block (by rw [h.1])
def ub (L : List Us) (i : Nat) : Us := L.getD i ⟨0, 0, 0, 0⟩
theorem ub_of {L : List Us} {i : Nat} (h : i < L.length) : L[i]? = some (ub L i) := by simp [ub, List.getD, h]
/-- the best up to line i -/
def Best (L : List Us) (i : Nat) (b : Int) : Prop := (b = -1 ∧ ∀ j, j < i → (ub L j).got ≠ (ub L j).back) ∨ ∃ k : Nat, b = (k : Int) ∧ k < i ∧ (ub L k).got = (ub L k).back ∧ ∀ j, j < i → (ub L j).got = (ub L j).back → (ub L k).at_ ≤ (ub L j).at_
def ORes (L : List Us) (k : Int) (some' : Bool) : Prop := (some' = true ∧ ∃ u ∈ L, u.got = u.back ∧ k = u.key ∧ ∀ v ∈ L, v.got = v.back → u.at_ ≤ v.at_) ∨ (some' = false ∧ k = 0 ∧ ∀ u ∈ L, u.got ≠ u.back)
theorem all_ub {L : List Us} {p : Us → Prop} (h : ∀ j, j < L.length → p (ub L j)) : ∀ u ∈ L, p u := fun u hu => by
  obtain ⟨i, hi⟩ := List.getElem?_of_mem hu
  have hil := (List.getElem?_eq_some_iff.1 hi).1
  have := h i hil
  rw [ub_of hil] at hi
  rwa [Option.some.inj hi] at this
end Go.Proofs.Ythkkinmegileaaa
