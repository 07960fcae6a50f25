import Derived.Test.YtkjaaknlhmneoacDoorMtRef1
import Derived.Test.YtkjaaknlhmneoacDoorMtRnd
namespace Go.Proofs.YtkjaaknlhmneoacDoor
open Go.RowKit Go.Lib
set_option linter.unusedVariables false
set_option linter.unusedSimpArgs false
set_option maxRecDepth 20000

/-- the document's fields, in the order of their places -/
def fls (s : Sup) : List Nat := [s.seq, s.blocks.toNat, s.size.toNat, s.slots.toNat, s.mark.toNat, s.g0, s.g1, s.g2, s.g3, s.flags]
def u64V (n : Nat) : Value := .int .u64 (n : Int)
set_option maxHeartbeats 1000000 in
theorem rfields_any (w : World) (s : Sup) (hOk : s.Ok) : Calls Tryd.prog 51 #[s.val] w fun e w' => e = .returned (.agg ((fls s).map u64V).toArray) ∧ Below w.heap.size w w' := by
  obtain ⟨q, b, z, k, g0, g1, g2, g3, f, m, rfl, hz, b1, b2, b3, b4, b5, b6, b7, b8, b9, b10⟩ := hOk.nat
  clear hOk
  unfold Sup.val Sup.row fls u64V
  simp only [List.map_cons, List.map_nil, Int.toNat_natCast]
  have HB := hide (Below.refl w.heap.size w)
  go_enter Tryd.func51, Tryd.ntmps51
  go_wp2_with fail
  exact bodyPost_ret (results_cell_row rfl _ _ (w.heap.size + 1) 62 _ (0, 0) _ rfl (heap_alloc2_new _ _ _) Tryd.underlying62 rfl (by kernel_rfl)) rfl ⟨rfl, (HB.out.alloc (Nat.le_refl _) _).alloc (by simp) _⟩
end Go.Proofs.YtkjaaknlhmneoacDoor
