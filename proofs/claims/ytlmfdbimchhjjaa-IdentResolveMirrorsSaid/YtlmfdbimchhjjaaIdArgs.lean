import Derived.Test.YtlmfdbimchhjjaaAOwn
import Derived.Test.YtlmfdbimchhjjaaIdGens
namespace Go.Proofs.Ytlmfdbimchhjjaa
open Go.ChangeShapes Go.WideShapes Go.ChangeAt Go.RowKit
set_option linter.unusedVariables false
set_option maxRecDepth 20000

theorem cellsGens : Try.prog.cellsOf 41 = 4 := by kernel_rfl
theorem cellsI : Try.prog.cellsOf 3 = 1 := by kernel_rfl
theorem cellsU : Try.prog.cellsOf 22 = 1 := by kernel_rfl
theorem cellsV : Try.prog.cellsOf 34 = 1 := by kernel_rfl
theorem cellsVd : Try.prog.cellsOf 26 = 2 := by kernel_rfl
theorem cellsTurn : Try.prog.cellsOf 43 = 11 := by kernel_rfl
theorem cellsSplit : Try.prog.cellsOf 36 = 12 := by kernel_rfl
theorem gens_cells {H : Type} {enc : TypeId × Value → H} {W : World} {n : Nat} {v0 v1 v2 v3 : Value} {y : DataW H × List MemPlace} (h : DataW.trod enc Try.prog W 0 (fun _ => true) true n 41 [v0, v1, v2, v3] = some y) : ∃ c b o1 o2 : Int, v0 = .int .u64 c ∧ v1 = .int .u64 b ∧ v2 = .int .u64 o1 ∧ v3 = .int .u64 o2 := by
  obtain ⟨xs2, k2, hk2, hxy2, _, hxl2, hfd2⟩ := DataW.trod_struct Try.underlying41 h
  match xs2, hxl2 with
  | [u0, u1, u2, u3], _ =>
    have m0 := hfd2 0 _ rfl
    have m1 := hfd2 1 _ rfl
    have m2 := hfd2 2 _ rfl
    have m3 := hfd2 3 _ rfl
    simp [cellsU] at m0 m1 m2 m3
    obtain ⟨b0, p0, _, q0⟩ := DataW.trod_int Try.underlying22 m0
    obtain ⟨b1, p1, _, q1⟩ := DataW.trod_int Try.underlying22 m1
    obtain ⟨b2, p2, _, q2⟩ := DataW.trod_int Try.underlying22 m2
    obtain ⟨b3, p3, _, q3⟩ := DataW.trod_int Try.underlying22 m3
    simp at p0 p1 p2 p3
    exact ⟨b0, b1, b2, b3, p0, p1, p2, p3⟩
theorem verdict_cells {H : Type} {enc : TypeId × Value → H} {W : World} {n : Nat} {v0 v1 : Value} {y : DataW H × List MemPlace} (h : DataW.trod enc Try.prog W 0 (fun _ => true) true n 26 [v0, v1] = some y) : ∃ k r : Int, v0 = .int .i64 k ∧ v1 = .int .i64 r := by
  obtain ⟨xs2, k2, hk2, hxy2, _, hxl2, hfd2⟩ := DataW.trod_struct Try.underlying26 h
  match xs2, hxl2 with
  | [u0, u1], _ =>
    have m0 := hfd2 0 _ rfl
    have m1 := hfd2 1 _ rfl
    simp [cellsI] at m0 m1
    obtain ⟨b0, p0, _, q0⟩ := DataW.trod_int Try.underlying3 m0
    obtain ⟨b1, p1, _, q1⟩ := DataW.trod_int Try.underlying3 m1
    simp at p0 p1
    exact ⟨b0, b1, p0, p1⟩
theorem open_gens {H : Type} {enc : TypeId × Value → H} {W : World} {base : Nat} {v : Value} {d : DataW H} {p : List MemPlace} (hok : Value.okWide Try.prog W .any base 41 v) (h1 : DataW.Trod enc Try.prog W 0 (fun _ => true) true 41 v d p) : ∃ g : Gn, v = g.val := by
  obtain ⟨cs, rfl, hcs⟩ := okWide_struct Try.underlying41 hok
  rw [cellsGens] at hcs
  obtain ⟨fuel, hf⟩ := h1
  obtain ⟨l⟩ := cs
  match l, hcs with
  | [v0, v1, v2, v3], _ =>
    obtain ⟨c, b, o1, o2, rfl, rfl, rfl, rfl⟩ := gens_cells hf
    exact ⟨⟨c, b, o1, o2⟩, rfl⟩
theorem open_verdict {H : Type} {enc : TypeId × Value → H} {W : World} {base : Nat} {v : Value} {d : DataW H} {p : List MemPlace} (hok : Value.okWide Try.prog W .any base 26 v) (h1 : DataW.Trod enc Try.prog W 0 (fun _ => true) true 26 v d p) : ∃ k r : Int, v = .agg #[.int .i64 k, .int .i64 r] := by
  obtain ⟨cs, rfl, hcs⟩ := okWide_struct Try.underlying26 hok
  rw [cellsVd] at hcs
  obtain ⟨fuel, hf⟩ := h1
  obtain ⟨l⟩ := cs
  match l, hcs with
  | [v0, v1], _ =>
    obtain ⟨c, b, rfl, rfl⟩ := verdict_cells hf
    exact ⟨c, b, rfl⟩
theorem open_turn {H : Type} {enc : TypeId × Value → H} {W : World} {base : Nat} {v : Value} {d : DataW H} {p : List MemPlace} (hok : Value.okWide Try.prog W .any base 43 v) (h1 : DataW.Trod enc Try.prog W 0 (fun _ => true) true 43 v d p) :
    ∃ (k n x : Int) (g s : Gn), v = .agg #[.int .i64 k, .int .i64 n, .int .u64 x, .int .u64 g.c, .int .u64 g.b, .int .u64 g.o1, .int .u64 g.o2, .int .u64 s.c, .int .u64 s.b, .int .u64 s.o1, .int .u64 s.o2] := by
  obtain ⟨cs, rfl, hcs⟩ := okWide_struct Try.underlying43 hok
  rw [cellsTurn] at hcs
  obtain ⟨fuel, hf⟩ := h1
  obtain ⟨l⟩ := cs
  match l, hcs with
  | [v0, v1, v2, v3, v4, v5, v6, v7, v8, v9, v10], _ =>
    obtain ⟨xs, k, hk, hxy, _, hxl, hfd⟩ := DataW.trod_struct Try.underlying43 hf
    match xs, hxl with
    | [y0, y1, y2, y3, y4], _ =>
      have g0 := hfd 0 _ rfl
      have g1 := hfd 1 _ rfl
      have g2 := hfd 2 _ rfl
      have g3 := hfd 3 _ rfl
      have g4 := hfd 4 _ rfl
      simp [cellsI, cellsU, cellsGens, Value.cells] at g0 g1 g2 g3 g4
      obtain ⟨a0, e0, _, f0⟩ := DataW.trod_int Try.underlying3 g0
      obtain ⟨a1, e1, _, f1⟩ := DataW.trod_int Try.underlying3 g1
      obtain ⟨a2, e2, _, f2⟩ := DataW.trod_int Try.underlying22 g2
      obtain ⟨c, b, o1, o2, rfl, rfl, rfl, rfl⟩ := gens_cells g3
      obtain ⟨sc, sb, so1, so2, rfl, rfl, rfl, rfl⟩ := gens_cells g4
      simp at e0 e1 e2
      subst e0 e1 e2
      exact ⟨a0, a1, a2, ⟨c, b, o1, o2⟩, ⟨sc, sb, so1, so2⟩, rfl⟩
theorem open_splitarg {H : Type} {enc : TypeId × Value → H} {W : World} {base : Nat} {v : Value} {d : DataW H} {p : List MemPlace} (hok : Value.okWide Try.prog W .any base 36 v) (h1 : DataW.Trod enc Try.prog W 0 (fun _ => true) true 36 v d p) :
    ∃ (k r n s0 s1 s2 ro rp mo mp fo fp : Int), v = .agg #[.int .i64 k, .int .i64 r, .int .i64 n, .int .i64 s0, .int .i64 s1, .int .i64 s2, .int .i64 ro, .int .i64 rp, .int .i64 mo, .int .i64 mp, .int .u32 fo, .int .u32 fp] := by
  obtain ⟨cs, rfl, hcs⟩ := okWide_struct Try.underlying36 hok
  rw [cellsSplit] at hcs
  obtain ⟨fuel, hf⟩ := h1
  obtain ⟨l⟩ := cs
  match l, hcs with
  | [v0, v1, v2, v3, v4, v5, v6, v7, v8, v9, v10, v11], _ =>
    obtain ⟨xs, k, hk, hxy, _, hxl, hfd⟩ := DataW.trod_struct Try.underlying36 hf
    match xs, hxl with
    | [y0, y1, y2, y3, y4, y5, y6, y7, y8, y9, y10], _ =>
      have g0 := hfd 0 _ rfl
      have g1 := hfd 1 _ rfl
      have g2 := hfd 2 _ rfl
      have g3 := hfd 3 _ rfl
      have g4 := hfd 4 _ rfl
      have g5 := hfd 5 _ rfl
      have g6 := hfd 6 _ rfl
      have g7 := hfd 7 _ rfl
      have g8 := hfd 8 _ rfl
      have g9 := hfd 9 _ rfl
      have g10 := hfd 10 _ rfl
      simp [cellsI, cellsV, cellsVd, Value.cells] at g0 g1 g2 g3 g4 g5 g6 g7 g8 g9 g10
      obtain ⟨k, r, rfl, rfl⟩ := verdict_cells g0
      obtain ⟨a1, e1, _, f1⟩ := DataW.trod_int Try.underlying3 g1
      obtain ⟨a2, e2, _, f2⟩ := DataW.trod_int Try.underlying3 g2
      obtain ⟨a3, e3, _, f3⟩ := DataW.trod_int Try.underlying3 g3
      obtain ⟨a4, e4, _, f4⟩ := DataW.trod_int Try.underlying3 g4
      obtain ⟨a5, e5, _, f5⟩ := DataW.trod_int Try.underlying3 g5
      obtain ⟨a6, e6, _, f6⟩ := DataW.trod_int Try.underlying3 g6
      obtain ⟨a7, e7, _, f7⟩ := DataW.trod_int Try.underlying3 g7
      obtain ⟨a8, e8, _, f8⟩ := DataW.trod_int Try.underlying3 g8
      obtain ⟨a9, e9, _, f9⟩ := DataW.trod_int Try.underlying34 g9
      obtain ⟨a10, e10, _, f10⟩ := DataW.trod_int Try.underlying34 g10
      simp at e1 e2 e3 e4 e5 e6 e7 e8 e9 e10
      subst e1 e2 e3 e4 e5 e6 e7 e8 e9 e10
      exact ⟨k, r, a1, a2, a3, a4, a5, a6, a7, a8, a9, a10, rfl⟩
theorem trod_place_lt {H : Type} {enc : TypeId × Value → H} {W : World} {t : TypeId} {v : Value} {d : DataW H} {p : List MemPlace} (h1 : DataW.Trod enc Try.prog W 0 (fun _ => true) true t v d p) : ∀ x ∈ p, x.block < W.heap.size := by
  obtain ⟨m, hm⟩ := h1; exact DataW.trod_lt m _ _ _ hm
theorem again_gens {H : Type} {enc : TypeId × Value → H} {W W' : World} {v : Value} {d : DataW H} {p : List MemPlace} (h1 : DataW.Trod enc Try.prog W 0 (fun _ => true) true 41 v d p) (bel : Below W.heap.size W W') :
    DataW.Trod enc Try.prog W' 0 (fun b => decide (b < W.heap.size)) true 41 v d p := Below.trod laidOut (by kernel_rfl) (of_decide_eq_true (by kernel_rfl)) h1 bel (trod_place_lt h1)
theorem again_verdict {H : Type} {enc : TypeId × Value → H} {W W' : World} {v : Value} {d : DataW H} {p : List MemPlace} (h1 : DataW.Trod enc Try.prog W 0 (fun _ => true) true 26 v d p) (bel : Below W.heap.size W W') :
    DataW.Trod enc Try.prog W' 0 (fun b => decide (b < W.heap.size)) true 26 v d p := Below.trod laidOut (by kernel_rfl) (of_decide_eq_true (by kernel_rfl)) h1 bel (trod_place_lt h1)
theorem again_turn {H : Type} {enc : TypeId × Value → H} {W W' : World} {v : Value} {d : DataW H} {p : List MemPlace} (h1 : DataW.Trod enc Try.prog W 0 (fun _ => true) true 43 v d p) (bel : Below W.heap.size W W') :
    DataW.Trod enc Try.prog W' 0 (fun b => decide (b < W.heap.size)) true 43 v d p := Below.trod laidOut (by kernel_rfl) (of_decide_eq_true (by kernel_rfl)) h1 bel (trod_place_lt h1)
theorem again_splitarg {H : Type} {enc : TypeId × Value → H} {W W' : World} {v : Value} {d : DataW H} {p : List MemPlace} (h1 : DataW.Trod enc Try.prog W 0 (fun _ => true) true 36 v d p) (bel : Below W.heap.size W W') :
    DataW.Trod enc Try.prog W' 0 (fun b => decide (b < W.heap.size)) true 36 v d p := Below.trod laidOut (by kernel_rfl) (of_decide_eq_true (by kernel_rfl)) h1 bel (trod_place_lt h1)
end Go.Proofs.Ytlmfdbimchhjjaa
