import Derived.Test.YtcdmkbjibcahcaaTSt0
import Derived.Test.YtcdmkbjibcahcaaTShelf
import Derived.Lib.OwnBridge
namespace Go.Proofs.Ytcdmkbjibcahcaa
open Go.RowKit Go.Maps Go.Sort Go.Shelf
set_option linter.unusedVariables false
set_option linter.unusedSimpArgs false
set_option maxRecDepth 20000

theorem sort_any (w : World) (v : Value) (T : List Int) (h : IRow w v T) (hl : T.length ≤ 5000) : Calls Try.prog 43 #[v] w fun e w' => e = .returned (.tuple #[]) ∧ IRow w' v (T.mergeSort fun x y => decide (x ≤ y)) ∧ Chg (fun g => v.ownBlock = some g) w w' := by
  have h' : w.ownsRow 0 3 1 v T.length (T.map fun z => Value.int .i64 z) := h
  by_cases hv : v = .slice none 0 0
  · subst hv
    have e0 : T = [] := by
      have := h'.2
      rcases this with ⟨_, e⟩ | ⟨g, cap, cur, e, _⟩
      · exact List.length_eq_zero_iff.1 e
      · cases e
    subst e0
    refine (AnyM.slices_Sort_int_none Try.sortA none 0 w).mono ?_
    rintro e w' ⟨rfl, rfl⟩
    exact ⟨rfl, by rw [List.mergeSort_nil]; exact h, Chg.refl _ _⟩
  · obtain ⟨g, cap, rfl, -, hlt, hn, hm, -, hH⟩ := Lib.holds_of_ownsRow h' hv
    refine (AnyM.slices_Sort_int Try.sortA g 0 cap T w hH hlt (by omega)).mono ?_
    rintro e w' ⟨rfl, n, os, rfl⟩
    have hp := Lib.ownsRow_putRow (q := n) (k := T.length) (ys := T.mergeSort fun x y => decide (x ≤ y)) h' (by simp) (Nat.le_refl _)
    rw [List.take_of_length_le (by simp)] at hp
    have hsz : (putRow (Value.int .i64) (Sort.ahead w n) g 0 (T.mergeSort fun x y => decide (x ≤ y)).toArray).heap.size = w.heap.size := by simp [putRow, mapBlock, Sort.ahead]
    have hgr : ∀ (b : Nat), b < w.heap.size → (grow (putRow (Value.int .i64) (Sort.ahead w n) g 0 (T.mergeSort fun x y => decide (x ≤ y)).toArray) os).heap[b]? = (putRow (Value.int .i64) (Sort.ahead w n) g 0 (T.mergeSort fun x y => decide (x ≤ y)).toArray).heap[b]? := fun b hb => by
      show (_ ++ os)[b]? = _
      rw [Array.getElem?_append_left (by rw [hsz]; exact hb)]
    refine ⟨rfl, ?_, ⟨rfl, rfl, rfl, ?_, fun b hb hne => ?_⟩⟩
    · have hi : IRow (putRow (Value.int .i64) (Sort.ahead w n) g 0 (T.mergeSort fun x y => decide (x ≤ y)).toArray) (.slice (some ⟨g, 0, none⟩) T.length cap) (T.mergeSort fun x y => decide (x ≤ y)) := by
        unfold IRow
        rw [List.length_mergeSort]
        exact hp
      refine hi.kept fun b eb => hgr b ?_
      simp [Value.ownBlock] at eb
      omega
    · show w.heap.size ≤ (_ ++ os).size
      rw [Array.size_append, hsz]
      omega
    · rw [hgr b hb]
      have : g ≠ b := fun e => hne (by simp [Value.ownBlock, e])
      simp [putRow, mapBlock, Sort.ahead, Array.getElem?_modify, this]
end Go.Proofs.Ytcdmkbjibcahcaa
