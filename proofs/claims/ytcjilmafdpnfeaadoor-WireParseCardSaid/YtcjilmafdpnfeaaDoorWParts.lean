import Derived.Test.YtcjilmafdpnfeaaDoorWPk2
namespace Go.Proofs.YtcjilmafdpnfeaaDoor
open Go.RowKit
set_option linter.unusedVariables false
set_option linter.unusedSimpArgs false
set_option maxRecDepth 20000

/-- a packet's box -/
structure KM (w : World) (kb : Nat) (c : Int) (p : PV) (v : Value) : Prop where
  row : w.heap[kb]? = some (.cells (.int .i64 c :: p.row v).toArray 30 (0, 0))
  ok : p.Ok
theorem KM.cells {w : World} {kb : Nat} {c : Int} {p : PV} {v : Value} (h : KM w kb c p v) : w.cell? ⟨kb, 0, none⟩ = some (.int .i64 c) ∧ w.cell? ⟨kb, 1, none⟩ = some (.int .u32 (p.a : Int)) ∧ w.cell? ⟨kb, 2, none⟩ = some (.int .u32 (p.b : Int)) ∧ w.cell? ⟨kb, 3, none⟩ = some (.int .u32 (p.c : Int)) ∧ w.cell? ⟨kb, 4, none⟩ = some (.int .u32 (p.d : Int)) ∧ w.cell? ⟨kb, 5, none⟩ = some (.int .u32 (p.e : Int)) ∧ w.cell? ⟨kb, 6, none⟩ = some (.int .u64 (p.g0 : Int)) ∧ w.cell? ⟨kb, 7, none⟩ = some (.int .u64 (p.g1 : Int)) ∧ w.cell? ⟨kb, 8, none⟩ = some (.int .u64 (p.g2 : Int)) ∧ w.cell? ⟨kb, 9, none⟩ = some (.int .u64 (p.g3 : Int)) :=
  ⟨by rw [cell_of_row _ _ _ _ _ _ h.row]; rfl, by rw [cell_of_row _ _ _ _ _ _ h.row]; rfl, by rw [cell_of_row _ _ _ _ _ _ h.row]; rfl, by rw [cell_of_row _ _ _ _ _ _ h.row]; rfl, by rw [cell_of_row _ _ _ _ _ _ h.row]; rfl, by rw [cell_of_row _ _ _ _ _ _ h.row]; rfl, by rw [cell_of_row _ _ _ _ _ _ h.row]; rfl, by rw [cell_of_row _ _ _ _ _ _ h.row]; rfl, by rw [cell_of_row _ _ _ _ _ _ h.row]; rfl, by rw [cell_of_row _ _ _ _ _ _ h.row]; rfl⟩
theorem KM.rng {w : World} {kb : Nat} {c : Int} {p : PV} {v : Value} (h : KM w kb c p v) : w.rangeAt kb 10 (u8L p.s) := fun j x hx => by
  rw [cell_of_row _ _ _ _ _ _ h.row, List.getElem?_toArray, show 10 + j = (9 + j) + 1 by omega, List.getElem?_cons_succ]
  exact row_sum p v hx
theorem KM.dat {w : World} {kb : Nat} {c : Int} {p : PV} {v : Value} (h : KM w kb c p v) : w.cell? ⟨kb, 42, none⟩ = some v := by
  rw [cell_of_row _ _ _ _ _ _ h.row, List.getElem?_toArray, List.getElem?_cons_succ]
  exact row_dat h.ok.n v
theorem KM.all {w : World} {kb : Nat} {c : Int} {p : PV} {v : Value} (h : KM w kb c p v) : w.rangeAt kb 0 (.int .i64 c :: p.row v) := fun j x hx => by
  rw [cell_of_row _ _ _ _ _ _ h.row, List.getElem?_toArray, Nat.zero_add]; exact hx
theorem KM.below {w x : World} {kb : Nat} {c : Int} {p : PV} {v : Value} (h : KM w kb c p v) (hb : Below w.heap.size w x) : KM x kb c p v :=
  ⟨(hb.block _ (Array.getElem?_eq_some_iff.1 h.row).1).trans h.row, h.ok⟩

end Go.Proofs.YtcjilmafdpnfeaaDoor
