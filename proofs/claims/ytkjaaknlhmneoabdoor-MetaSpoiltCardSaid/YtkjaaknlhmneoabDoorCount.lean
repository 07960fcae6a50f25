import Derived.Test.YtkjaaknlhmneoabDoorShaMac
import Derived.Test.YtkjaaknlhmneoabDoorEqual
namespace Go.Proofs.YtkjaaknlhmneoabDoor
open Go.RowKit
open Num
set_option linter.unusedVariables false
set_option linter.unusedSimpArgs false

theorem HRow.count {w : World} {g L C : Nat} {q : List Nat} (h : HRow w g q L C) : w.cell? ⟨g, 72, none⟩ = some (.int .u64 (C : Int)) := by
  obtain ⟨buf, h1, _, _, h4⟩ := h
  exact row_cell72 h1 h4
theorem HRow.but {w w' : World} {g gh L C : Nat} {q : List Nat} (h : HRow w gh q L C) (hb : Below w.heap.size w w') : HRow w' gh q L C := by
  obtain ⟨buf, h1, h2, h3, h4⟩ := h
  exact ⟨buf, h1, h2, h3, heap_kept hb h4⟩

/-- a list of ints that came in -/
def ISl (w : World) (v : Value) (zs : List Int) : Prop :=
  ∃ a cap, v = .slice a zs.length cap ∧ zs.length ≤ cap ∧ cap ≤ maxLen ∧ (∀ z ∈ zs, -9223372036854775808 ≤ z ∧ z ≤ 9223372036854775807) ∧
    (0 < zs.length → ∃ b off, a = some ⟨b, off, none⟩ ∧ ∀ i, i < zs.length → w.cell? ⟨b, off + i, none⟩ = some (.int .i64 (zs.getD i 0)))
theorem ISl.below {w w' : World} {v : Value} {zs : List Int} (h : ISl w v zs) (hb : Below w.heap.size w w') : ISl w' v zs := by
  obtain ⟨a, cap, e, h1, h2, h3, h4⟩ := h
  refine ⟨a, cap, e, h1, h2, h3, fun hp => ?_⟩
  obtain ⟨b, off, ha, hc⟩ := h4 hp
  refine ⟨b, off, ha, fun i hi => ?_⟩
  rw [hb.cell (p := ⟨b, off + i, none⟩) (World.block_lt_of_cell? w _ (hc i hi))]; exact hc i hi
end Go.Proofs.YtkjaaknlhmneoabDoor
