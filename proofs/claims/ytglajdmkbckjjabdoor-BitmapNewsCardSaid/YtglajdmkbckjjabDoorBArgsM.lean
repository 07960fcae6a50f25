import Derived.Test.YtglajdmkbckjjabDoorBArgs
namespace Go.Proofs.YtglajdmkbckjjabDoor
open Go.ChangeShapes Go.WideShapes Go.ChangeAt Go.RowKit
set_option linter.unusedVariables false
set_option linter.unusedSimpArgs false
set_option maxRecDepth 20000

theorem cellsMade : Tryd.prog.cellsOf 36 = 3 := by kernel_rfl
theorem three {cs : Array Value} (h : cs.size = 3) : ∃ v0 v1 v2, cs = #[v0, v1, v2] := by
  obtain ⟨l⟩ := cs
  match l, h with
  | [v0, v1, v2], _ => exact ⟨v0, v1, v2, rfl⟩
theorem open_made {H : Type} {enc : TypeId × Value → H} {W : World} {base : Nat} {v : Value} {d : DataW H} {p : List MemPlace} {ts : List TypeId} {ds : List (DataW H)} (j : Nat) (hts : ts[j]? = some 36) (hds : ds[j]? = some d)
    (hsz : (DataW.weightsEach Tryd.prog ts ds).all (· ≤ reachBytes) = true) (hok : Value.okWide Tryd.prog W .any base 36 v) (h1 : DataW.Trod enc Tryd.prog W 0 (fun _ => true) true 36 v d p) :
    ∃ (fr : Bool) (n : Int) (mv : Value) (l : List Nat), v = .agg #[.bool fr, .int .i64 n, mv] ∧ WSl W mv l ∧ l.length ≤ 17592186044416 := by
  obtain ⟨cs, rfl, hcs⟩ := okWide_struct Tryd.underlying36 hok
  obtain ⟨v0, v1, v2, rfl⟩ := three (hcs.trans cellsMade)
  obtain ⟨fuel, hf⟩ := h1
  obtain ⟨xs, k, hk, hxy, hl, hxl, hfd⟩ := DataW.trod_struct Tryd.underlying36 hf
  match xs, hxl with
  | [y0, y1, y2], _ =>
    have g0 := hfd 0 _ rfl
    have g1 := hfd 1 _ rfl
    have g2 := hfd 2 _ rfl
    simp [cellsInt, cellsBool, cellsWords, Value.cells] at g0 g1 g2
    obtain ⟨z0, hz0, _⟩ := DataW.trod_bool Tryd.underlying4 g0
    obtain ⟨z1, hz1, _, wf1⟩ := DataW.trod_int Tryd.underlying3 g1
    simp at hz0 hz1
    subst hz0 hz1
    simp only [Prod.mk.injEq] at hxy
    obtain ⟨l, hb, hbl⟩ := open_field g2 (fun k hk => by
      have h0 := List.all_eq_true.1 hsz k (DataW.weights_mem_each hts hds k (by
        rw [hxy.1]
        simp only [DataW.weights]
        rw [Tryd.underlying36]
        exact DataW.weights_mem_each (j := 2) rfl rfl k hk))
      simpa using h0)
    exact ⟨z0, z1, v2, l, rfl, hb, hbl⟩
theorem made_again {H : Type} {enc : TypeId × Value → H} {W W' : World} {v : Value} {d : DataW H} {p : List MemPlace} (h1 : DataW.Trod enc Tryd.prog W 0 (fun _ => true) true 36 v d p) (bel : Below W.heap.size W W') :
    DataW.Trod enc Tryd.prog W' 0 (fun b => decide (b < W.heap.size)) true 36 v d p := Below.trod laidOut (by kernel_rfl) (of_decide_eq_true (by kernel_rfl)) h1 bel (trod_place_lt h1)
end Go.Proofs.YtglajdmkbckjjabDoor
