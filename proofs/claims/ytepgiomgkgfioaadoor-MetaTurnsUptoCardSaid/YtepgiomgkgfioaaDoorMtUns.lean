import Derived.Test.YtepgiomgkgfioaaDoorMtSupR
import Derived.Recover
import Derived.Defers
namespace Go.Proofs.YtepgiomgkgfioaaDoor
open Go.RowKit Go.Lib
set_option linter.unusedVariables false
set_option linter.unusedSimpArgs false
set_option maxRecDepth 20000

theorem assert_nil (w : World) : (Instr.typeAssert .nilIface 20 32 true).run Tryd.prog w = .ok (.tuple #[.int .i64 0, .bool false]) w := by kernel_rfl
theorem assert_err (n : Int) (w : World) : (Instr.typeAssert (.iface 32 (.int .i64 n)) 20 32 true).run Tryd.prog w = .ok (.tuple #[.int .i64 n, .bool true]) w := by kernel_rfl
set_option maxHeartbeats 600000 in
theorem catch_idle (p q : Addr) (w : World) :
    CallsD Tryd.prog 36 #[.pointer (some p), .pointer (some q)] .returning w fun e u' w' => e = .returned (.tuple #[]) ∧ u' = .returning ∧ w' = w := by
  refine callsD_of_wpS Tryd.func36 rfl fun c₀ cs hu => ?_
  apply wpS_seq
  apply wpS_region
  simp [wpOpsS, go_sem, recoverD, hu, Tryd.ntmps36, Exit.thenS, assert_nil]
  apply wpS_seq
  apply wpS_region
  simp [wpOpsS, go_sem, hu, Exit.thenS]
  refine wpS_cond (t := false) (by simp [Act.eval, Array.replicate]) ?_
  simp only [Bool.false_eq_true, if_false]
  refine wpS_of_wp (wp_skip ?_)
  cases c₀
  simp_all [bodyPostS, results, Tryd.results36]
def CatchPost (sb eb : Nat) (n : Int) (w w' : World) : Prop := w'.heap[sb]? = some (.cells zSup 27 (0, 0)) ∧ w'.heap[eb]? = some (.cells #[.int .i64 n] 32 (0, 0)) ∧ ∀ B, B ≤ sb → B ≤ eb → Below B w w'
theorem catch_world (sb eb : Nat) (hne : eb ≠ sb) (n : Int) (w : World) (hs : w.heap[sb]? = some (.cells zSup 27 (0, 0))) (he : w.heap[eb]? = some (.cells #[.int .i64 0] 32 (0, 0))) : CatchPost sb eb n w (((((((((((w.setCell ⟨sb, 0, none⟩ (.int .u64 0)).setCell ⟨sb, 1, none⟩ (.int .i64 0)).setCell ⟨sb, 2, none⟩ (.int .i64 0)).setCell ⟨sb, 3, none⟩ (.int .i64 0)).setCell ⟨sb, 4, none⟩ (.int .u64 0)).setCell ⟨sb, 5, none⟩ (.int .u64 0)).setCell ⟨sb, 6, none⟩ (.int .u64 0)).setCell ⟨sb, 7, none⟩ (.int .u64 0)).setCell ⟨sb, 8, none⟩ (.int .u32 0)).setCell ⟨sb, 9, none⟩ (.int .i64 0)).setCell ⟨eb, 0, none⟩ (.int .i64 n)) := by
  refine ⟨?_, ?_, fun B h1 h2 => (((((((((((Below.refl B w).setCell (p := ⟨sb, 0, none⟩) h1 (.int .u64 0)).setCell (p := ⟨sb, 1, none⟩) h1 (.int .i64 0)).setCell (p := ⟨sb, 2, none⟩) h1 (.int .i64 0)).setCell (p := ⟨sb, 3, none⟩) h1 (.int .i64 0)).setCell (p := ⟨sb, 4, none⟩) h1 (.int .u64 0)).setCell (p := ⟨sb, 5, none⟩) h1 (.int .u64 0)).setCell (p := ⟨sb, 6, none⟩) h1 (.int .u64 0)).setCell (p := ⟨sb, 7, none⟩) h1 (.int .u64 0)).setCell (p := ⟨sb, 8, none⟩) h1 (.int .u32 0)).setCell (p := ⟨sb, 9, none⟩) h1 (.int .i64 0)).setCell (p := ⟨eb, 0, none⟩) h2 (.int .i64 n)⟩
  · rw [Go.heap_setCell_other _ _ _ _ (by exact fun e => hne e.symm)]
    exact (Go.heap_setCell_same _ sb 9 _ 27 (.int .i64 0) (Go.heap_setCell_same _ sb 8 _ 27 (.int .u32 0) (Go.heap_setCell_same _ sb 7 _ 27 (.int .u64 0) (Go.heap_setCell_same _ sb 6 _ 27 (.int .u64 0) (Go.heap_setCell_same _ sb 5 _ 27 (.int .u64 0) (Go.heap_setCell_same _ sb 4 _ 27 (.int .u64 0) (Go.heap_setCell_same _ sb 3 _ 27 (.int .i64 0) (Go.heap_setCell_same _ sb 2 _ 27 (.int .i64 0) (Go.heap_setCell_same _ sb 1 _ 27 (.int .i64 0) (Go.heap_setCell_same _ sb 0 _ 27 (.int .u64 0) hs))))))))))
  · have h : ((((((((((w.setCell ⟨sb, 0, none⟩ (.int .u64 0)).setCell ⟨sb, 1, none⟩ (.int .i64 0)).setCell ⟨sb, 2, none⟩ (.int .i64 0)).setCell ⟨sb, 3, none⟩ (.int .i64 0)).setCell ⟨sb, 4, none⟩ (.int .u64 0)).setCell ⟨sb, 5, none⟩ (.int .u64 0)).setCell ⟨sb, 6, none⟩ (.int .u64 0)).setCell ⟨sb, 7, none⟩ (.int .u64 0)).setCell ⟨sb, 8, none⟩ (.int .u32 0)).setCell ⟨sb, 9, none⟩ (.int .i64 0)).heap[eb]? = some (.cells #[.int .i64 0] 32 (0, 0)) := by
      rw [Go.heap_setCell_other _ _ _ _ (by exact hne), Go.heap_setCell_other _ _ _ _ (by exact hne), Go.heap_setCell_other _ _ _ _ (by exact hne), Go.heap_setCell_other _ _ _ _ (by exact hne), Go.heap_setCell_other _ _ _ _ (by exact hne), Go.heap_setCell_other _ _ _ _ (by exact hne), Go.heap_setCell_other _ _ _ _ (by exact hne), Go.heap_setCell_other _ _ _ _ (by exact hne), Go.heap_setCell_other _ _ _ _ (by exact hne), Go.heap_setCell_other _ _ _ _ (by exact hne)]
      exact he
    exact Go.heap_setCell_same _ eb 0 _ 32 (.int .i64 n) h
set_option maxHeartbeats 1000000 in
theorem catch_panic (sb eb : Nat) (hne : eb ≠ sb) (n : Int) (older : List PanicEntry) (w : World) (hs : w.heap[sb]? = some (.cells zSup 27 (0, 0))) (he : w.heap[eb]? = some (.cells #[.int .i64 0] 32 (0, 0))) :
    CallsD Tryd.prog 36 #[.pointer (some ⟨sb, 0, none⟩), .pointer (some ⟨eb, 0, none⟩)] (.panicking ({ v := .iface 32 (.int .i64 n), recovered := false } :: older)) w fun e u' w' =>
      e = .returned (.tuple #[]) ∧ u' = .panicking ({ v := .iface 32 (.int .i64 n), recovered := true } :: older) ∧ CatchPost sb eb n w w' := by
  have c0 : w.cell? ⟨sb, 0, none⟩ = some (.int .u64 0) := cell_of_row _ _ _ _ _ _ hs
  have z0 := frozen_of_row _ _ 0 _ 27 hs
  have c1 : w.cell? ⟨sb, 1, none⟩ = some (.int .i64 0) := cell_of_row _ _ _ _ _ _ hs
  have z1 := frozen_of_row _ _ 1 _ 27 hs
  have c2 : w.cell? ⟨sb, 2, none⟩ = some (.int .i64 0) := cell_of_row _ _ _ _ _ _ hs
  have z2 := frozen_of_row _ _ 2 _ 27 hs
  have c3 : w.cell? ⟨sb, 3, none⟩ = some (.int .i64 0) := cell_of_row _ _ _ _ _ _ hs
  have z3 := frozen_of_row _ _ 3 _ 27 hs
  have c4 : w.cell? ⟨sb, 4, none⟩ = some (.int .u64 0) := cell_of_row _ _ _ _ _ _ hs
  have z4 := frozen_of_row _ _ 4 _ 27 hs
  have c5 : w.cell? ⟨sb, 5, none⟩ = some (.int .u64 0) := cell_of_row _ _ _ _ _ _ hs
  have z5 := frozen_of_row _ _ 5 _ 27 hs
  have c6 : w.cell? ⟨sb, 6, none⟩ = some (.int .u64 0) := cell_of_row _ _ _ _ _ _ hs
  have z6 := frozen_of_row _ _ 6 _ 27 hs
  have c7 : w.cell? ⟨sb, 7, none⟩ = some (.int .u64 0) := cell_of_row _ _ _ _ _ _ hs
  have z7 := frozen_of_row _ _ 7 _ 27 hs
  have c8 : w.cell? ⟨sb, 8, none⟩ = some (.int .u32 0) := cell_of_row _ _ _ _ _ _ hs
  have z8 := frozen_of_row _ _ 8 _ 27 hs
  have c9 : w.cell? ⟨sb, 9, none⟩ = some (.int .i64 0) := cell_of_row _ _ _ _ _ _ hs
  have z9 := frozen_of_row _ _ 9 _ 27 hs
  have ce : w.cell? ⟨eb, 0, none⟩ = some (.int .i64 0) := cell_of_row _ _ _ _ _ _ he
  have ze := frozen_of_row _ _ 0 _ 32 he
  have HP := hide (catch_world sb eb hne n w hs he)
  clear hs he
  refine callsD_of_wpS Tryd.func36 rfl fun c₀ cs hu => ?_
  apply wpS_seq
  apply wpS_region
  simp [wpOpsS, go_sem, recoverD, hu, Tryd.ntmps36, Exit.thenS, assert_err]
  apply wpS_seq
  apply wpS_region
  simp [wpOpsS, go_sem, hu, Exit.thenS]
  refine wpS_cond (t := true) (by simp [Act.eval, Array.replicate]) ?_
  simp only [if_true]
  refine wpS_of_wp ?_
  go_wp2_with fail
  simp [bodyPostS, results, Tryd.results36]
  exact HP.out
end Go.Proofs.YtepgiomgkgfioaaDoor
