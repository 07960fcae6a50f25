import Derived.Test.YtepgiomgkgfioaaMtBs
import Derived.Test.YtepgiomgkgfioaaMtPlan
namespace Go.Proofs.Ytepgiomgkgfioaa
open Go.RowKit
open Num
set_option linter.unusedVariables false
set_option linter.unusedSimpArgs false
set_option maxRecDepth 20000

theorem heap_lt {w : World} {b : Nat} {o : Obj} (h : w.heap[b]? = some o) : b < w.heap.size := (Array.getElem?_eq_some_iff.1 h).1
theorem WRow.below {w w' : World} {U : Nat} {ws : List Nat} (h : WRow w U ws) (hb : Below w.heap.size w w') : WRow w' U ws := (hb.block U (heap_lt h)).trans h
theorem PB.top {w : World} {O m s b : Nat} {B : Nat → List Nat} (h : PB w O m s B) (h1 : O ≤ b) (h2 : b < O + 1 + m) : b < w.heap.size := by
  by_cases e : b = O
  · rw [e]; exact heap_lt h.row
  · have := heap_lt (h.blk (b - O - 1) (by omega))
    omega
theorem PB.below {w w' : World} {O m s : Nat} {B : Nat → List Nat} (h : PB w O m s B) (hb : Below w.heap.size w w') : PB w' O m s B := h.kept fun b h1 h2 => hb.block b (h.top h1 h2)
theorem PB.cell {w : World} {O m s k : Nat} {B : Nat → List Nat} (h : PB w O m s B) (hk : k < m) : w.cell? ⟨O, k, none⟩ = some (Value.slice (some ⟨O + 1 + k, 0, none⟩) s s) := by
  rw [cell_of_row _ _ _ _ _ _ h.row, List.getElem?_toArray]
  simp [hk]
/-- the law's state behind Pack -/
structure LSt (w x : World) (O m s : Nat) (ws : List Nat) (B : Nat → List Nat) : Prop where
  below : Below w.heap.size w x
  row : WRow x w.heap.size ws
  blk : PB x O m s B
  lt : w.heap.size < O
theorem LSt.step {w x y : World} {O m s : Nat} {ws : List Nat} {B : Nat → List Nat} (h : LSt w x O m s ws B) (hb : Below x.heap.size x y) : LSt w y O m s ws B :=
  ⟨h.below.trans (hb.mono h.below.size), h.row.below hb, h.blk.below hb, h.lt⟩
theorem LSt.store {w x : World} {O m s i v : Nat} {ws : List Nat} {B : Nat → List Nat} (h : LSt w x O m s ws B) : LSt w (x.setCell ⟨w.heap.size, i, none⟩ (.int .u64 (v : Int))) O m s (ws.set i v) B :=
  ⟨h.below.setCell (Nat.le_refl _) _, h.row.set, h.blk.kept fun b h1 h2 => Below.heap_setCell _ _ _ _ (by have := h.lt; show b ≠ w.heap.size; omega), h.lt⟩
end Go.Proofs.Ytepgiomgkgfioaa
