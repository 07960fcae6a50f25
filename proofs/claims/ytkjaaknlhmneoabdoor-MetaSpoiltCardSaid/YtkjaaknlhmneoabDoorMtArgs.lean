import Derived.Test.YtkjaaknlhmneoabDoorArgs
import Derived.Test.YtkjaaknlhmneoabDoorMtSup
import Derived.ChangeSame
namespace Go.Proofs.YtkjaaknlhmneoabDoor
open Go.ChangeShapes Go.WideShapes Go.ChangeAt Go.RowKit
open Num
set_option linter.unusedVariables false
set_option maxRecDepth 20000

theorem cellsSuper : Tryd.prog.cellsOf 27 = 10 := by kernel_rfl
theorem cellsGens : Tryd.prog.cellsOf 24 = 4 := by kernel_rfl
theorem cellsI : Tryd.prog.cellsOf 3 = 1 := by kernel_rfl
theorem cellsU : Tryd.prog.cellsOf 22 = 1 := by kernel_rfl
theorem cellsV : Tryd.prog.cellsOf 25 = 1 := by kernel_rfl
theorem super_again {H : Type} {enc : TypeId × Value → H} {W W' : World} {v : Value} {d : DataW H} {p : List MemPlace} (h1 : DataW.Trod enc Tryd.prog W 0 (fun _ => true) true 27 v d p) (bel : Below W.heap.size W W') :
    DataW.Trod enc Tryd.prog W' 0 (fun b => decide (b < W.heap.size)) true 27 v d p := Below.trod laidOut (by kernel_rfl) (of_decide_eq_true (by kernel_rfl)) h1 bel (trod_place_lt h1)
theorem open_super {H : Type} {enc : TypeId × Value → H} {W : World} {base : Nat} {v : Value} {d : DataW H} {p : List MemPlace} (hok : Value.okWide Tryd.prog W .any base 27 v) (h1 : DataW.Trod enc Tryd.prog W 0 (fun _ => true) true 27 v d p) :
    ∃ s : Sup, v = s.val ∧ s.Wf := by
  obtain ⟨cs, rfl, hcs⟩ := okWide_struct Tryd.underlying27 hok
  rw [cellsSuper] at hcs
  obtain ⟨fuel, hf⟩ := h1
  obtain ⟨l⟩ := cs
  match l, hcs with
  | [v0, v1, v2, v3, v4, v5, v6, v7, v8, v9], _ =>
    obtain ⟨xs, k, hk, hxy, _, hxl, hfd⟩ := DataW.trod_struct Tryd.underlying27 hf
    match xs, hxl with
    | [y0, y1, y2, y3, y4, y5, y6], _ =>
      have g0 := hfd 0 _ rfl
      have g1 := hfd 1 _ rfl
      have g2 := hfd 2 _ rfl
      have g3 := hfd 3 _ rfl
      have g4 := hfd 4 _ rfl
      have g5 := hfd 5 _ rfl
      have g6 := hfd 6 _ rfl
      simp [cellsI, cellsU, cellsV, cellsGens, Value.cells] at g0 g1 g2 g3 g4 g5 g6
      obtain ⟨xs2, k2, hk2, hxy2, _, hxl2, hfd2⟩ := DataW.trod_struct Tryd.underlying24 g4
      match xs2, hxl2 with
      | [u0, u1, u2, u3], _ =>
        have m0 := hfd2 0 _ rfl
        have m1 := hfd2 1 _ rfl
        have m2 := hfd2 2 _ rfl
        have m3 := hfd2 3 _ rfl
        simp [cellsU] at m0 m1 m2 m3
        obtain ⟨a0, e0, _, f0⟩ := DataW.trod_int Tryd.underlying22 g0
        obtain ⟨a1, e1, _, f1⟩ := DataW.trod_int Tryd.underlying3 g1
        obtain ⟨a2, e2, _, f2⟩ := DataW.trod_int Tryd.underlying3 g2
        obtain ⟨a3, e3, _, f3⟩ := DataW.trod_int Tryd.underlying3 g3
        obtain ⟨b0, p0, _, q0⟩ := DataW.trod_int Tryd.underlying22 m0
        obtain ⟨b1, p1, _, q1⟩ := DataW.trod_int Tryd.underlying22 m1
        obtain ⟨b2, p2, _, q2⟩ := DataW.trod_int Tryd.underlying22 m2
        obtain ⟨b3, p3, _, q3⟩ := DataW.trod_int Tryd.underlying22 m3
        obtain ⟨a5, e5, _, f5⟩ := DataW.trod_int Tryd.underlying25 g5
        obtain ⟨a6, e6, _, f6⟩ := DataW.trod_int Tryd.underlying3 g6
        simp at e0 e1 e2 e3 p0 p1 p2 p3 e5 e6
        subst e0 e1 e2 e3 p0 p1 p2 p3 e5 e6
        have f0 := bounds_u64 f0
        have f1 := bounds_i64 f1
        have f2 := bounds_i64 f2
        have f3 := bounds_i64 f3
        have q0 := bounds_u64 q0
        have q1 := bounds_u64 q1
        have q2 := bounds_u64 q2
        have q3 := bounds_u64 q3
        have f5 := bounds_u32 f5
        have f6 := bounds_i64 f6
        refine ⟨⟨a0.toNat, a1, a2, a3, b0.toNat, b1.toNat, b2.toNat, b3.toNat, a5.toNat, a6⟩, ?_, ?_⟩
        · simp only [Sup.val, Sup.row]
          rw [Int.toNat_of_nonneg f0.1, Int.toNat_of_nonneg q0.1, Int.toNat_of_nonneg q1.1, Int.toNat_of_nonneg q2.1, Int.toNat_of_nonneg q3.1, Int.toNat_of_nonneg f5.1]
        · unfold Sup.Wf
          dsimp only
          omega
end Go.Proofs.YtkjaaknlhmneoabDoor
