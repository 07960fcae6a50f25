import Derived.Test.YtkjaaknlhmneoaaDRep
namespace Go.Proofs.Ytkjaaknlhmneoaa.K
open Go.RowKit Go.Maps
set_option linter.unusedVariables false
set_option linter.unusedSimpArgs false

theorem dcell {w : World} {L : Lay} {S : St} (hp : w.heap[L.p]? = some (.cells (diskRow L S) 73 (0, 0))) (i : Nat) : w.cell? ⟨L.p, i, none⟩ = (diskRow L S)[i]? := cell_of_row _ _ _ _ _ _ hp
theorem dfree {w : World} {L : Lay} {S : St} (hp : w.heap[L.p]? = some (.cells (diskRow L S) 73 (0, 0))) (i : Nat) : w.frozen? ⟨L.p, i, none⟩ = false := frozen_of_row _ _ _ _ 73 hp

def PD (L : Lay) : Value := .pointer (some ⟨L.p, 0, none⟩)

def zeros (n : Nat) : List Nat := List.replicate n 0
theorem zeros_len (n : Nat) : (zeros n).length = n := by simp [zeros]
theorem zeros_lt (n : Nat) : ∀ b ∈ zeros n, b < 256 := by
  intro b hb
  have := List.eq_of_mem_replicate hb
  omega
theorem made_zeros (n : Nat) : madeCells (Value.int .u8 0).cells (n * 1) = ((zeros n).map byteV).toArray := by
  apply Array.ext_getElem?
  intro i
  by_cases h : i < n
  · simp [madeCells, zeros, byteV, Value.cells, h, Nat.mod_one]
  · simp [madeCells, zeros, byteV, Value.cells, h, Nat.mod_one]

/-- 'make([]byte, n)' -/
theorem wpList_zeros {ops : Array Oper} {rest : List Oper} {o : Oper} {a : Act} {w : World} {Q : Exit → Act → World → Prop} (hgd : o.guard = none) (l c : Operand) (ho : o.op = Op.makeSlice 45 l c)
    (C : Int) (n : Nat) (hl : a.eval l = .int .i64 C) (hc : a.eval c = .int .i64 C) (hC : C = (n : Int)) (hn : n ≤ 281474976710656) (Z : Array Value) (hZ : Hid (((zeros n).map byteV).toArray = Z))
    (h : wpList Try.prog ops Q rest (a.put o.dst (sl w.heap.size n)) (w.alloc (.cells Z 5))) : wpList Try.prog ops Q (o :: rest) a w := by
  obtain ⟨i0, hi, hz0, hz1, hz2⟩ := info_parts info_u8
  subst hC
  refine wpList_plain hgd fun K' hK' => ?_
  have hr := run_make (P := Try.prog) w 45 5 i0 (.int .u8 0) Try.underlying45 hi hz0 .i64 .i64 (n : Int) (n : Int) (by omega) (Int.le_refl _) (by rw [hz2]; omega) (by omega)
  simp only [Int.toNat_natCast] at hr
  rw [hz1, made_zeros, hZ.out] at hr
  unfold Oper.wp
  simp only [execOp, ho, hl, hc, hr, Sem.run_bind, Result.andThen_ok, Sem.run_pure]
  exact hK' _ _ h

theorem cbool {b : Bool} {p : Prop} [Decidable p] (h : b = decide p) : (Value.bool b) = .bool (decide p) := by rw [h]

/-- one writing step: what it makes of a disk, and whether it gets through -/
def St.cut (S : St) : St := { S with off := true }
def St.stepOk (S : St) : Bool := !(S.off || decide (S.fuse = 0))
def St.step (S : St) : St := if S.fuse = 0 then { S with off := true } else if S.off then S else if 0 < S.fuse then { S with fuse := S.fuse - 1 } else S

theorem setDisk_row {w : World} {L : Lay} {S : St} {i : Nat} {v : Value} (hp : w.heap[L.p]? = some (.cells (diskRow L S) 73 (0, 0))) : (w.setCell ⟨L.p, i, none⟩ v).heap[L.p]? = some (.cells ((diskRow L S).setIfInBounds i v) 73 (0, 0)) :=
  Go.heap_setCell_same w L.p i _ 73 _ hp

end Go.Proofs.Ytkjaaknlhmneoaa.K
