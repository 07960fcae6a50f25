import Derived.Test.YtkjaaknlhmneoacDoorMtLaw0
namespace Go.Proofs.YtkjaaknlhmneoacDoor
open Go.RowKit Go.Lib
set_option linter.unusedVariables false
set_option linter.unusedSimpArgs false
set_option maxRecDepth 20000

theorem Bx.start (w : World) (s : Sup) : Bx w (w.alloc (.cells s.row 29)) s := ⟨Below.refl _ _⟩
theorem Bx.below' {w wr w' : World} {s : Sup} (h : Bx w wr s) (k : Below wr.heap.size wr w') : Bx w w' s := h.trans (k.mono h.size)
theorem Sup.Ok.parts {s : Sup} (h : s.Ok) : ∃ (q nz g0 g1 g2 g3 f : Nat) (b k m : Int), s = ⟨q, b, nz, k, g0, g1, g2, g3, f, m⟩ ∧ 128 ≤ nz ∧ nz ≤ 1024 ∧ s.size.toNat = nz ∧ s.val = .agg #[.int .u64 (q : Int), .int .i64 b, .int .i64 (nz : Int), .int .i64 k, .int .u64 (g0 : Int), .int .u64 (g1 : Int), .int .u64 (g2 : Int), .int .u64 (g3 : Int), .int .u32 (f : Int), .int .i64 m] ∧ s.row = #[.int .u64 (q : Int), .int .i64 b, .int .i64 (nz : Int), .int .i64 k, .int .u64 (g0 : Int), .int .u64 (g1 : Int), .int .u64 (g2 : Int), .int .u64 (g3 : Int), .int .u32 (f : Int), .int .i64 m] := by
  obtain ⟨ho, -⟩ := h
  obtain ⟨q, b, z, k, g0, g1, g2, g3, f, m⟩ := s
  have hz : okSz z = true := by simp only [Sup.ok, Bool.and_eq_true] at ho; exact ho.1.1.1.2
  have hp := okSz_pos hz
  have hzz : z = (z.toNat : Int) := by omega
  refine ⟨q, z.toNat, g0, g1, g2, g3, f, b, k, m, ?_, by omega, by omega, rfl, ?_, ?_⟩
  · rw [← hzz]
  · rw [← hzz]; rfl
  · rw [← hzz]; rfl
end Go.Proofs.YtkjaaknlhmneoacDoor
