import Derived.Test.YtepgiomgkgfioaaMtBt0
import Derived.Test.YtepgiomgkgfioaaByt
import Derived.Deep.WholeRow
namespace Go.Proofs.Ytepgiomgkgfioaa
open Go.RowKit
open Num
set_option linter.unusedVariables false
set_option linter.unusedSimpArgs false
set_option maxRecDepth 20000

/-- a list of words in memory -/
def USl (w : World) (v : Value) (ws : List Nat) : Prop := ∃ a cap, v = .slice a ws.length cap ∧ ws.length ≤ cap ∧ cap ≤ maxLen ∧ (∀ x ∈ ws, x < 18446744073709551616) ∧ (0 < ws.length → ∃ b off, a = some ⟨b, off, none⟩ ∧ b < w.heap.size ∧ ∀ i, i < ws.length → w.cell? ⟨b, off + i, none⟩ = some (.int .u64 (ws.getD i 0 : Nat)))
/-- the byte j of a bitmap -/
def pb (ws : List Nat) (j : Nat) : Nat := ws.getD (j / 8) 0 / 2 ^ (8 * (j % 8)) % 256
/-- block k, when its bytes ahead of t are laid -/
def bkT (ws : List Nat) (s t k : Nat) : List Nat := (List.range s).map fun r => if k * s + r < t then pb ws (k * s + r) else 0
theorem bkT_len (ws : List Nat) (s t k : Nat) : (bkT ws s t k).length = s := by simp [bkT]
theorem bkT_zero (ws : List Nat) (s k : Nat) : bkT ws s 0 k = List.replicate s 0 := by
  refine List.ext_getElem (by simp [bkT]) fun i h1 h2 => ?_
  simp [bkT]
theorem bkT_other {ws : List Nat} {s t K k : Nat} (hk : k ≠ K) (h1 : K * s ≤ t) (h2 : t < K * s + s) : bkT ws s (t + 1) k = bkT ws s t k := by
  unfold bkT
  refine List.map_congr_left fun r hr => ?_
  have hr' := List.mem_range.1 hr
  have : k * s + r ≠ t := fun e => by
    rcases Nat.lt_or_gt_of_ne hk with h | h
    · have := Nat.mul_le_mul_right s (show k + 1 ≤ K from h)
      rw [Nat.add_mul] at this
      omega
    · have := Nat.mul_le_mul_right s (show K + 1 ≤ k from h)
      rw [Nat.add_mul] at this
      omega
  by_cases h : k * s + r < t
  · rw [if_pos h, if_pos (by omega)]
  · rw [if_neg h, if_neg (by omega)]
theorem bkT_set {ws : List Nat} {s t K R : Nat} (hR : R < s) (ht : K * s + R = t) : (bkT ws s t K).set R (pb ws t) = bkT ws s (t + 1) K := by
  refine List.ext_getElem (by simp [bkT]) fun i h1 h2 => ?_
  rw [List.getElem_set]
  simp only [bkT, List.getElem_map, List.getElem_range]
  by_cases e : R = i
  · subst e
    rw [if_pos rfl, if_pos (by omega), ht]
  · rw [if_neg e]
    by_cases h : K * s + i < t
    · rw [if_pos h, if_pos (by omega)]
    · rw [if_neg h, if_neg (by omega)]
/-- blocks in memory: a row of slices at O, the blocks behind it -/
structure PB (w : World) (O m s : Nat) (B : Nat → List Nat) : Prop where
  row : w.heap[O]? = some (.cells ((List.range m).map fun k => Value.slice (some ⟨O + 1 + k, 0, none⟩) s s).toArray 23 (0, 0))
  blk : ∀ k, k < m → w.heap[O + 1 + k]? = some (.cells ((B k).map byteV).toArray 5 (0, 0))
/-- .. while they are made -/
structure PM (w : World) (O m s j : Nat) : Prop where
  row : w.heap[O]? = some (.cells ((List.range m).map fun k => if k < j then Value.slice (some ⟨O + 1 + k, 0, none⟩) s s else Value.slice none 0 0).toArray 23 (0, 0))
  blk : ∀ k, k < j → w.heap[O + 1 + k]? = some (.cells ((List.replicate s 0).map byteV).toArray 5 (0, 0))
  size : w.heap.size = O + 1 + j
theorem PM.done {w : World} {O m s : Nat} (h : PM w O m s m) (ws : List Nat) : PB w O m s (bkT ws s 0) := by
  refine ⟨?_, fun k hk => by rw [bkT_zero]; exact h.blk k hk⟩
  have e : ((List.range m).map fun k => if k < m then Value.slice (some ⟨O + 1 + k, 0, none⟩) s s else Value.slice none 0 0) = (List.range m).map fun k => Value.slice (some ⟨O + 1 + k, 0, none⟩) s s := List.map_congr_left fun k hk => by rw [if_pos (List.mem_range.1 hk)]
  have := h.row
  rw [e] at this
  exact this
theorem PM.next {w : World} {O m s j : Nat} (h : PM w O m s j) (hj : j < m) : PM ((w.setCell ⟨O, j, none⟩ (.slice (some ⟨w.heap.size, 0, none⟩) s s)).alloc (.cells ((List.replicate s 0).map byteV).toArray 5)) O m s (j + 1) := by
  have hO : O < w.heap.size := by rw [h.size]; omega
  have hz : (w.setCell ⟨O, j, none⟩ (.slice (some ⟨w.heap.size, 0, none⟩) s s)).heap.size = w.heap.size := World.size_setCell _ _ _
  refine ⟨?_, fun k hk => ?_, by rw [World.size_alloc, hz, h.size]; omega⟩
  · rw [RowKit.Below.heap_alloc _ _ _ (by rw [hz]; exact hO), Go.heap_setCell_same _ O j _ 23 _ h.row]
    congr 2
    simp only [List.setIfInBounds_toArray]
    congr 1
    refine List.ext_getElem (by simp) fun i h1 h2 => ?_
    rw [List.getElem_set]
    simp only [List.getElem_map, List.getElem_range]
    by_cases e : j = i
    · subst e
      rw [if_pos rfl, if_pos (by omega), h.size]
    · rw [if_neg e]
      by_cases hlt : i < j
      · rw [if_pos hlt, if_pos (by omega)]
      · rw [if_neg hlt, if_neg (by omega)]
  · by_cases e : k = j
    · subst e
      rw [show O + 1 + k = (w.setCell ⟨O, k, none⟩ (.slice (some ⟨w.heap.size, 0, none⟩) s s)).heap.size by rw [hz, h.size]]
      exact Go.heap_alloc_new _ _
    · rw [RowKit.Below.heap_alloc _ _ _ (by rw [hz, h.size]; omega), Go.heap_setCell_other _ _ _ _ (by show O + 1 + k ≠ O; omega)]
      exact h.blk k (by omega)
theorem PB.set {w : World} {O m s K R x : Nat} {B B' : Nat → List Nat} (h : PB w O m s B) (hK : K < m) (h1 : (B K).set R x = B' K) (h2 : ∀ k, k ≠ K → B' k = B k) : PB (w.setCell ⟨O + 1 + K, R, none⟩ (.int .u8 (x : Int))) O m s B' := by
  refine ⟨?_, fun k hk => ?_⟩
  · rw [Go.heap_setCell_other _ _ _ _ (by show O ≠ O + 1 + K; omega)]
    exact h.row
  · by_cases e : k = K
    · subst e
      rw [Go.heap_setCell_same _ _ R _ 5 _ (h.blk k hk), ← h1]
      congr 2
      rw [List.setIfInBounds_toArray, ← show byteV x = .int .u8 (x : Int) from rfl, ← List.map_set]
    · rw [Go.heap_setCell_other _ _ _ _ (by show O + 1 + k ≠ O + 1 + K; omega), h2 k e]
      exact h.blk k hk
theorem PB.kept {w w' : World} {O m s : Nat} {B : Nat → List Nat} (h : PB w O m s B) (hk : ∀ b, O ≤ b → b < O + 1 + m → w'.heap[b]? = w.heap[b]?) : PB w' O m s B := ⟨(hk O (Nat.le_refl _) (by omega)).trans h.row, fun k hk2 => (hk _ (by omega) (by omega)).trans (h.blk k hk2)⟩
end Go.Proofs.Ytepgiomgkgfioaa
