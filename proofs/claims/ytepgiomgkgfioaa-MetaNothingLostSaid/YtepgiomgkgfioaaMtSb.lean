import Derived.Test.YtepgiomgkgfioaaMtHw4
namespace Go.Proofs.Ytepgiomgkgfioaa
open Go.RowKit
open Num
set_option linter.unusedVariables false
set_option linter.unusedSimpArgs false
set_option maxRecDepth 20000

/-- a list of blocks, wherever they lie -/
def RB (w : World) (v : Value) (m s : Nat) (B : Nat → List Nat) : Prop := ∃ O cap, v = .slice (some ⟨O, 0, none⟩) m cap ∧ m ≤ cap ∧ cap ≤ maxLen ∧ ∀ k, k < m → ∃ g, w.cell? ⟨O, k, none⟩ = some (.slice (some ⟨g, 0, none⟩) s s) ∧ w.heap[g]? = some (.cells ((B k).map byteV).toArray 5 (0, 0))
theorem PB.rb {w : World} {O m s : Nat} {B : Nat → List Nat} (h : PB w O m s B) (hm : m ≤ 8388608) : RB w (.slice (some ⟨O, 0, none⟩) m m) m s B := ⟨O, m, rfl, Nat.le_refl _, by unfold maxLen; omega, fun k hk => ⟨O + 1 + k, h.cell hk, h.blk k hk⟩⟩
theorem RB.below {w w' : World} {v : Value} {m s : Nat} {B : Nat → List Nat} (h : RB w v m s B) (hb : Below w.heap.size w w') : RB w' v m s B := by
  obtain ⟨O, cap, e, q1, q2, hc⟩ := h
  refine ⟨O, cap, e, q1, q2, fun k hk => ?_⟩
  obtain ⟨g, c1, c2⟩ := hc k hk
  have hO : O < w.heap.size := by
    by_cases h : O < w.heap.size
    · exact h
    · simp [World.cell?, Array.getElem?_eq_none (Nat.le_of_not_lt h)] at c1
  exact ⟨g, by rw [World.cell?_of_block (hb.block O hO)]; exact c1, (hb.block g (heap_lt c2)).trans c2⟩
end Go.Proofs.Ytepgiomgkgfioaa
