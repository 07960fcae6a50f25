import Derived.Test.YtcjilmafdpnfeaaDoorWMay2
namespace Go.Proofs.YtcjilmafdpnfeaaDoor
open Go.RowKit
set_option linter.unusedVariables false
set_option linter.unusedSimpArgs false
set_option maxRecDepth 20000

/-- the five numbers of some parts in memory -/
def P5 (w : World) (pb a b c d e : Nat) : Prop := w.cell? ⟨pb, 0, none⟩ = some (.int .u32 (a : Int)) ∧ w.cell? ⟨pb, 1, none⟩ = some (.int .u32 (b : Int)) ∧ w.cell? ⟨pb, 2, none⟩ = some (.int .u32 (c : Int)) ∧ w.cell? ⟨pb, 3, none⟩ = some (.int .u32 (d : Int)) ∧ w.cell? ⟨pb, 4, none⟩ = some (.int .u32 (e : Int))
def five (a b c d e i : Nat) : Nat := [a, b, c, d, e].getD i 0
theorem P5.at {w : World} {pb a b c d e i : Nat} (h : P5 w pb a b c d e) (hi : i < 5) : w.cell? ⟨pb, i, none⟩ = some (.int .u32 (five a b c d e i : Nat)) := by
  obtain ⟨h0, h1, h2, h3, h4⟩ := h
  rcases (show i = 0 ∨ i = 1 ∨ i = 2 ∨ i = 3 ∨ i = 4 by omega) with rfl | rfl | rfl | rfl | rfl
  · exact h0
  · exact h1
  · exact h2
  · exact h3
  · exact h4
theorem P5.below {w w' : World} {pb a b c d e : Nat} (h : P5 w pb a b c d e) (hb : Below w.heap.size w w') : P5 w' pb a b c d e := by
  obtain ⟨h0, h1, h2, h3, h4⟩ := h
  exact ⟨(hb.cell (p := ⟨pb, 0, none⟩) (World.block_lt_of_cell? w _ h0)).trans h0, (hb.cell (p := ⟨pb, 1, none⟩) (World.block_lt_of_cell? w _ h1)).trans h1, (hb.cell (p := ⟨pb, 2, none⟩) (World.block_lt_of_cell? w _ h2)).trans h2, (hb.cell (p := ⟨pb, 3, none⟩) (World.block_lt_of_cell? w _ h3)).trans h3, (hb.cell (p := ⟨pb, 4, none⟩) (World.block_lt_of_cell? w _ h4)).trans h4⟩

end Go.Proofs.YtcjilmafdpnfeaaDoor
