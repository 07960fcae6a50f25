import Derived.Test.YtepgiomgkgfioaaDoorMtSup
import Derived.Test.YtepgiomgkgfioaaDoorMtApp
import Derived.Test.YtepgiomgkgfioaaDoorShaMac
namespace Go.Proofs.YtepgiomgkgfioaaDoor
open Go.RowKit Go.Lib
set_option linter.unusedVariables false
set_option linter.unusedSimpArgs false
set_option maxRecDepth 20000

def lets : List Nat := [82, 69, 80, 76, 73, 67, 65, 49]
def cat (F : Nat → List Nat) : Nat → List Nat
  | 0 => []
  | k + 1 => cat F k ++ F k
theorem cat_len (F : Nat → List Nat) (n : Nat) (h : ∀ i, (F i).length = n) : ∀ k, (cat F k).length = n * k
  | 0 => rfl
  | k + 1 => by rw [cat, List.length_append, cat_len F n h k, h, Nat.mul_succ]
def Sup.ints (s : Sup) (i : Nat) : Nat := ([s.blocks, s.size, s.slots, s.mark].getD i 0).toNat
def Sup.gens (s : Sup) (i : Nat) : Nat := [s.g0, s.g1, s.g2, s.g3].getD i 0
/-- the fields' bytes -/
def Sup.fld (s : Sup) : List Nat := (((lets ++ bW s.seq 8 8) ++ cat (fun i => bW (s.ints i) 4 4) 4) ++ cat (fun i => bW (s.gens i) 8 8) 4) ++ bW s.flags 4 4
theorem Sup.fld_len (s : Sup) : s.fld.length = 68 := by
  simp [Sup.fld, lets, bW_len, cat_len _ 4 (fun i => bW_len _ _ _), cat_len _ 8 (fun i => bW_len _ _ _)]
def Sup.head (s : Sup) : List Nat := s.fld ++ List.replicate (s.size.toNat - 100) 0
def Sup.enc (s : Sup) : List Nat := s.head ++ shaL s.head
theorem run_room (n : Nat) (hn : n ≤ 8388608) : ∃ Z : Array Value, (∀ w : World, (Instr.makeSlice 29 (.int .i64 0) (.int .i64 (n : Int))).run Tryd.prog w = .ok (.slice (some ⟨w.heap.size, 0, none⟩) 0 n) (w.alloc (.cells Z 5))) ∧ Z.size = n := by
  obtain ⟨i0, hi, hz0, hz1, hz2⟩ := info_parts Tryd.info5
  refine ⟨madeCells (Value.int .u8 0).cells (n * 1), fun w => ?_, by simp [madeCells, Value.cells]⟩
  have hr := run_make (P := Tryd.prog) w 29 5 i0 (.int .u8 0) Tryd.underlying29 hi hz0 .i64 .i64 0 (n : Int) (by omega) (by omega) (by rw [hz2]; omega) (by omega)
  simp only [Int.toNat_natCast] at hr
  rw [hz1] at hr
  exact hr
theorem size_int : (Tryd.prog.info? 3).map (·.size) = some 1 := by kernel_rfl
theorem size_u64 : (Tryd.prog.info? 22).map (·.size) = some 1 := by kernel_rfl
theorem zero_int : (Tryd.prog.info? 3).bind (·.zero) = some (.int .i64 0) := by kernel_rfl
theorem idx4i (a b c d : Int) (j : Nat) (hj : j < 4) (w : World) : (Instr.index 62 (.agg #[.int .i64 a, .int .i64 b, .int .i64 c, .int .i64 d]) (.int .i64 (j : Int))).run Tryd.prog w = .ok (.int .i64 ([a, b, c, d].getD j 0)) w := by
  obtain ⟨i0, hi, hz⟩ := Option.map_eq_some_iff.1 size_int
  rcases (show j = 0 ∨ j = 1 ∨ j = 2 ∨ j = 3 by omega) with rfl | rfl | rfl | rfl <;>
  simp [Instr.index, run_underlying Tryd.underlying62, asIntOf, go_sem, sizeOf, typeInfo, hi, hz]
theorem idx4u (a b c d : Int) (j : Nat) (hj : j < 4) (w : World) : (Instr.index 63 (.agg #[.int .u64 a, .int .u64 b, .int .u64 c, .int .u64 d]) (.int .i64 (j : Int))).run Tryd.prog w = .ok (.int .u64 ([a, b, c, d].getD j 0)) w := by
  obtain ⟨i0, hi, hz⟩ := Option.map_eq_some_iff.1 size_u64
  rcases (show j = 0 ∨ j = 1 ∨ j = 2 ∨ j = 3 by omega) with rfl | rfl | rfl | rfl <;>
  simp [Instr.index, run_underlying Tryd.underlying63, asIntOf, go_sem, sizeOf, typeInfo, hi, hz]
theorem lets_cells : strCells { data := #[82, 69, 80, 76, 73, 67, 65, 49] } = lets.map byteV := rfl
end Go.Proofs.YtepgiomgkgfioaaDoor
