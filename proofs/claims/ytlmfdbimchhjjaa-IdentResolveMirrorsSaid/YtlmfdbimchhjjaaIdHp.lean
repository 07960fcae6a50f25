import Derived.Test.YtlmfdbimchhjjaaIdVer
namespace Go.Proofs.Ytlmfdbimchhjjaa
open Go.RowKit
set_option linter.unusedVariables false
set_option linter.unusedSimpArgs false
set_option maxRecDepth 20000

theorem hp_below {W w' : World} {g : Nat} {o : Obj} (h : W.heap[g]? = some o) (hb : Below W.heap.size W w') : w'.heap[g]? = some o := (hb.block _ (Array.getElem?_eq_some_iff.1 h).1).trans h
theorem hp_alloc {W : World} {g : Nat} {o : Obj} (h : W.heap[g]? = some o) (X : Obj) : (W.alloc X).heap[g]? = some o := (heap_alloc_old W X (Array.getElem?_eq_some_iff.1 h).1).trans h
theorem hp_alloc2 {W : World} {g : Nat} {o : Obj} (h : W.heap[g]? = some o) (X Y : Obj) : ((W.alloc X).alloc Y).heap[g]? = some o := hp_alloc (hp_alloc h X) Y
theorem hp_new (W : World) (X : Obj) : (W.alloc X).heap[W.heap.size]? = some X := Go.heap_alloc_new _ _
theorem hp_cells2 {w : World} {g : Nat} {x0 x1 : Value} {t : TypeId} {fr : Nat × Nat} (h : w.heap[g]? = some (.cells #[x0, x1] t fr)) : w.cell? ⟨g, 0, none⟩ = some x0 ∧ w.cell? ⟨g, 1, none⟩ = some x1 ∧ g < w.heap.size :=
  ⟨cell_of_row _ _ _ _ _ _ h, cell_of_row _ _ _ _ _ _ h, (Array.getElem?_eq_some_iff.1 h).1⟩
theorem bel_tr {n : Nat} {w w1 w2 : World} (h : Below n w w1) (k : Below w1.heap.size w1 w2) (hn : n ≤ w1.heap.size) : Below n w w2 := h.trans (k.mono hn)
theorem bel_to {w W w2 : World} (h : Below w.heap.size w W) (k : Below W.heap.size W w2) : Below w.heap.size w w2 := h.trans (k.mono h.size)
theorem bel_2 {w : World} {A B : Obj} : Below w.heap.size w ((w.alloc A).alloc B) := bl2 (Below.refl _ _) A B
end Go.Proofs.Ytlmfdbimchhjjaa
