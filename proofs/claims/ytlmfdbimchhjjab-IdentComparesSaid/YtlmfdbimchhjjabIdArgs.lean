import Derived.Test.YtlmfdbimchhjjabAOwn
import Derived.Test.YtlmfdbimchhjjabIdGens
namespace Go.Proofs.Ytlmfdbimchhjjab
open Go.ChangeShapes Go.WideShapes Go.ChangeAt Go.RowKit
set_option linter.unusedVariables false
set_option maxRecDepth 20000

theorem cellsGens : Try.prog.cellsOf 24 = 4 := by kernel_rfl
theorem cellsI : Try.prog.cellsOf 3 = 1 := by kernel_rfl
theorem cellsU : Try.prog.cellsOf 22 = 1 := by kernel_rfl
theorem cellsV : Try.prog.cellsOf 25 = 1 := by kernel_rfl
theorem cellsVd : Try.prog.cellsOf 27 = 2 := by kernel_rfl
theorem gens_cells {H : Type} {enc : TypeId × Value → H} {W : World} {n : Nat} {v0 v1 v2 v3 : Value} {y : DataW H × List MemPlace} (h : DataW.trod enc Try.prog W 0 (fun _ => true) true n 24 [v0, v1, v2, v3] = some y) : ∃ c b o1 o2 : Int, v0 = .int .u64 c ∧ v1 = .int .u64 b ∧ v2 = .int .u64 o1 ∧ v3 = .int .u64 o2 := by
  obtain ⟨xs2, k2, hk2, hxy2, _, hxl2, hfd2⟩ := DataW.trod_struct Try.underlying24 h
  match xs2, hxl2 with
  | [u0, u1, u2, u3], _ =>
    have m0 := hfd2 0 _ rfl
    have m1 := hfd2 1 _ rfl
    have m2 := hfd2 2 _ rfl
    have m3 := hfd2 3 _ rfl
    simp [cellsU] at m0 m1 m2 m3
    obtain ⟨b0, p0, _, q0⟩ := DataW.trod_int Try.underlying22 m0
    obtain ⟨b1, p1, _, q1⟩ := DataW.trod_int Try.underlying22 m1
    obtain ⟨b2, p2, _, q2⟩ := DataW.trod_int Try.underlying22 m2
    obtain ⟨b3, p3, _, q3⟩ := DataW.trod_int Try.underlying22 m3
    simp at p0 p1 p2 p3
    exact ⟨b0, b1, b2, b3, p0, p1, p2, p3⟩
theorem verdict_cells {H : Type} {enc : TypeId × Value → H} {W : World} {n : Nat} {v0 v1 : Value} {y : DataW H × List MemPlace} (h : DataW.trod enc Try.prog W 0 (fun _ => true) true n 27 [v0, v1] = some y) : ∃ k r : Int, v0 = .int .i64 k ∧ v1 = .int .i64 r := by
  obtain ⟨xs2, k2, hk2, hxy2, _, hxl2, hfd2⟩ := DataW.trod_struct Try.underlying27 h
  match xs2, hxl2 with
  | [u0, u1], _ =>
    have m0 := hfd2 0 _ rfl
    have m1 := hfd2 1 _ rfl
    simp [cellsI] at m0 m1
    obtain ⟨b0, p0, _, q0⟩ := DataW.trod_int Try.underlying3 m0
    obtain ⟨b1, p1, _, q1⟩ := DataW.trod_int Try.underlying3 m1
    simp at p0 p1
    exact ⟨b0, b1, p0, p1⟩
theorem open_gens {H : Type} {enc : TypeId × Value → H} {W : World} {base : Nat} {v : Value} {d : DataW H} {p : List MemPlace} (hok : Value.okWide Try.prog W .any base 24 v) (h1 : DataW.Trod enc Try.prog W 0 (fun _ => true) true 24 v d p) : ∃ g : Gn, v = g.val := by
  obtain ⟨cs, rfl, hcs⟩ := okWide_struct Try.underlying24 hok
  rw [cellsGens] at hcs
  obtain ⟨fuel, hf⟩ := h1
  obtain ⟨l⟩ := cs
  match l, hcs with
  | [v0, v1, v2, v3], _ =>
    obtain ⟨c, b, o1, o2, rfl, rfl, rfl, rfl⟩ := gens_cells hf
    exact ⟨⟨c, b, o1, o2⟩, rfl⟩
theorem open_verdict {H : Type} {enc : TypeId × Value → H} {W : World} {base : Nat} {v : Value} {d : DataW H} {p : List MemPlace} (hok : Value.okWide Try.prog W .any base 27 v) (h1 : DataW.Trod enc Try.prog W 0 (fun _ => true) true 27 v d p) : ∃ k r : Int, v = .agg #[.int .i64 k, .int .i64 r] := by
  obtain ⟨cs, rfl, hcs⟩ := okWide_struct Try.underlying27 hok
  rw [cellsVd] at hcs
  obtain ⟨fuel, hf⟩ := h1
  obtain ⟨l⟩ := cs
  match l, hcs with
  | [v0, v1], _ =>
    obtain ⟨c, b, rfl, rfl⟩ := verdict_cells hf
    exact ⟨c, b, rfl⟩
theorem trod_place_lt {H : Type} {enc : TypeId × Value → H} {W : World} {t : TypeId} {v : Value} {d : DataW H} {p : List MemPlace} (h1 : DataW.Trod enc Try.prog W 0 (fun _ => true) true t v d p) : ∀ x ∈ p, x.block < W.heap.size := by
  obtain ⟨m, hm⟩ := h1; exact DataW.trod_lt m _ _ _ hm
theorem again_gens {H : Type} {enc : TypeId × Value → H} {W W' : World} {v : Value} {d : DataW H} {p : List MemPlace} (h1 : DataW.Trod enc Try.prog W 0 (fun _ => true) true 24 v d p) (bel : Below W.heap.size W W') :
    DataW.Trod enc Try.prog W' 0 (fun b => decide (b < W.heap.size)) true 24 v d p := Below.trod laidOut (by kernel_rfl) (of_decide_eq_true (by kernel_rfl)) h1 bel (trod_place_lt h1)
theorem again_verdict {H : Type} {enc : TypeId × Value → H} {W W' : World} {v : Value} {d : DataW H} {p : List MemPlace} (h1 : DataW.Trod enc Try.prog W 0 (fun _ => true) true 27 v d p) (bel : Below W.heap.size W W') :
    DataW.Trod enc Try.prog W' 0 (fun b => decide (b < W.heap.size)) true 27 v d p := Below.trod laidOut (by kernel_rfl) (of_decide_eq_true (by kernel_rfl)) h1 bel (trod_place_lt h1)
end Go.Proofs.Ytlmfdbimchhjjab
