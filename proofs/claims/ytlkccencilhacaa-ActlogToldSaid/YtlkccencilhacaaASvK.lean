import Derived.Test.YtlkccencilhacaaAArgK
namespace Go.Proofs.Ytlkccencilhacaa
open Go.ChangeShapes Go.WideShapes Go.ChangeAt Go.RowKit
set_option linter.unusedVariables false
set_option linter.unusedSimpArgs false
set_option maxRecDepth 20000

theorem made_cellsL {H : Type} {enc : TypeId × Value → H} {W : World} {n : Nat} {v0 v1 v2 v3 : Value} {y : DataW H × List MemPlace} (h : DataW.trod enc Try.prog W 0 (fun _ => true) true n 35 [v0, v1, v2, v3] = some y) : ∃ (a b c : Int) (d : Nat), v0 = .int .i64 a ∧ v1 = .int .i64 b ∧ v2 = .int .i64 c ∧ v3 = .int .u32 (d : Int) ∧ d < 4294967296 := by
  obtain ⟨xs2, k2, hk2, hxy2, _, hxl2, hfd2⟩ := DataW.trod_struct Try.underlying35 h
  match xs2, hxl2 with
  | [u0, u1, u2, u3], _ =>
    have m0 := hfd2 0 _ rfl
    have m1 := hfd2 1 _ rfl
    have m2 := hfd2 2 _ rfl
    have m3 := hfd2 3 _ rfl
    simp [cellsIntK, cellsU32] at m0 m1 m2 m3
    obtain ⟨b0, p0, _, q0⟩ := DataW.trod_int Try.underlying3 m0
    obtain ⟨b1, p1, _, q1⟩ := DataW.trod_int Try.underlying3 m1
    obtain ⟨b2, p2, _, q2⟩ := DataW.trod_int Try.underlying3 m2
    obtain ⟨b3, p3, _, q3⟩ := DataW.trod_int Try.underlying26 m3
    simp at p0 p1 p2 p3
    have h3 : 0 ≤ b3 := by have := bounds_u32 q3; omega
    exact ⟨b0, b1, b2, b3.toNat, p0, p1, p2, by rw [p3, Int.toNat_of_nonneg h3], by have := bounds_u32 q3; omega⟩
theorem open_madeL {H : Type} {enc : TypeId × Value → H} {W : World} {base : Nat} {v : Value} {d : DataW H} {p : List MemPlace} (hok : Value.okWide Try.prog W .any base 35 v) (h1 : DataW.Trod enc Try.prog W 0 (fun _ => true) true 35 v d p) : ∃ (a b c : Int) (d : Nat), d < 4294967296 ∧ v = .agg #[.int .i64 a, .int .i64 b, .int .i64 c, .int .u32 (d : Int)] := by
  obtain ⟨cs, rfl, hcs⟩ := okWide_struct Try.underlying35 hok
  rw [cellsMade] at hcs
  obtain ⟨fuel, hf⟩ := h1
  obtain ⟨l⟩ := cs
  match l, hcs with
  | [v0, v1, v2, v3], _ =>
    obtain ⟨a, b, c, d, rfl, rfl, rfl, rfl, hd⟩ := made_cellsL hf
    exact ⟨a, b, c, d, hd, rfl⟩
end Go.Proofs.Ytlkccencilhacaa
