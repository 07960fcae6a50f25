import Derived.Test.YtcjilmafdpnfeaaDoorWMay
import Derived.Test.YtcjilmafdpnfeaaDoorWArgs
import Derived.Test.YtcjilmafdpnfeaaDoorCards
import Derived.Test.YtcjilmafdpnfeaaDoorTie
import Derived.Lib.LaidTab
namespace Go.Proofs.YtcjilmafdpnfeaaDoor
open Go.ChangeShapes Go.WideShapes Go.ChangeAt Go.RowKit
set_option linter.unusedVariables false
set_option linter.unusedSimpArgs false
set_option maxRecDepth 20000

theorem cellsU64 : Tryd.prog.cellsOf 25 = 1 := by kernel_rfl
theorem cellsRec : Tryd.prog.cellsOf 75 = 3 := by kernel_rfl
theorem cellsBtab : Tryd.prog.cellsOf 76 = 54 := by kernel_rfl
theorem gB : Tryd.prog.globalNamed "replica/wire.bounds" = some 0 := by kernel_rfl
theorem gBty : (Tryd.prog.globals[0]?).map (·.type) = some 76 := by kernel_rfl
def recD {H : Type} (z : Nat × Nat × Nat) : DataW H := .agg [.lit (.int .i64 (z.1 : Int)), .lit (.int .u64 (z.2.1 : Int)), .lit (.int .u64 (z.2.2 : Int))]
theorem laid_bounds : (Rows.laid_replica_wire_bounds : DataW Unit) = .agg (bndL.map recD) := rfl
theorem rec_cells {H : Type} {enc : TypeId × Value → H} {W : World} {sp : Nat → Bool} {hh : Bool} {n base : Nat} {v0 v1 v2 : Value} {y : DataW H × List MemPlace} (h : DataW.trod enc Tryd.prog W base sp hh n 75 [v0, v1, v2] = some y) : ∃ a b c : Int, v0 = .int .i64 a ∧ v1 = .int .u64 b ∧ v2 = .int .u64 c ∧ y.1 = .agg [.lit (.int .i64 a), .lit (.int .u64 b), .lit (.int .u64 c)] := by
  obtain ⟨xs2, k2, hk2, hxy2, _, hxl2, hfd2⟩ := DataW.trod_struct Tryd.underlying75 h
  match xs2, hxl2 with
  | [u0, u1, u2], _ =>
    have m0 := hfd2 0 _ rfl
    have m1 := hfd2 1 _ rfl
    have m2 := hfd2 2 _ rfl
    simp [cellsI, cellsU64] at m0 m1 m2
    obtain ⟨b0, p0, q0, _⟩ := DataW.trod_int Tryd.underlying3 m0
    obtain ⟨b1, p1, q1, _⟩ := DataW.trod_int Tryd.underlying25 m1
    obtain ⟨b2, p2, q2, _⟩ := DataW.trod_int Tryd.underlying25 m2
    simp at p0 p1 p2
    subst q0 q1 q2
    exact ⟨b0, b1, b2, p0, p1, p2, by rw [hxy2]; rfl⟩
theorem cells_of_recs {H : Type} {enc : TypeId × Value → H} {w : World} {base : Nat} {sp : Nat → Bool} {held : Bool} {fuel : Nat} {cs : List Value} {zs : List (Nat × Nat × Nat)} {p : List MemPlace} (hz : zs.length = 18)
    (h : DataW.trod enc Tryd.prog w base sp held fuel 76 cs = some (.agg (zs.map recD), p)) : ∀ i, i < 18 → cs[i * 3]? = some (.int .i64 ((zs.getD i (0, 0, 0)).1 : Nat)) ∧ cs[i * 3 + 1]? = some (.int .u64 ((zs.getD i (0, 0, 0)).2.1 : Nat)) ∧ cs[i * 3 + 2]? = some (.int .u64 ((zs.getD i (0, 0, 0)).2.2 : Nat)) := by
  cases fuel with
  | zero => simp [DataW.trod] at h
  | succ fuel =>
    simp only [DataW.trod, Tryd.underlying76, cellsRec, cellsBtab] at h
    split at h
    · rename_i hl
      have hlen : cs.length = 54 := by simpa using hl
      obtain ⟨xs, hm, hx⟩ := Option.map_eq_some_iff.1 h
      have hxs : xs.map (·.1) = zs.map recD := by
        have := congrArg Prod.fst hx
        simpa using this
      intro i hi
      obtain ⟨b, hb, hf⟩ := Lib.mapM_at hm i i (by simp [hi])
      have h3 : ((cs.drop (i * 3)).take 3).length = 3 := by simp; omega
      obtain ⟨v0, v1, v2, hv⟩ : ∃ v0 v1 v2, (cs.drop (i * 3)).take 3 = [v0, v1, v2] := by
        match (cs.drop (i * 3)).take 3, h3 with
        | [v0, v1, v2], _ => exact ⟨v0, v1, v2, rfl⟩
      rw [hv] at hf
      obtain ⟨a, b1, c, rfl, rfl, rfl, hy⟩ := rec_cells hf
      have h2 : (xs.map (·.1))[i]? = some b.1 := by simp [hb]
      rw [hxs, hy] at h2
      have hzi : zs[i]? = some (zs.getD i (0, 0, 0)) := by rw [List.getD_eq_getElem?_getD, List.getElem?_eq_getElem (by omega)]; rfl
      rw [List.getElem?_map, hzi] at h2
      simp [recD] at h2
      obtain ⟨e1, e2, e3⟩ := h2
      have g : ∀ j, j < 3 → cs[i * 3 + j]? = [Value.int .i64 a, .int .u64 b1, .int .u64 c][j]? := fun j hj => by
        rw [← hv, List.getElem?_take, if_pos hj, List.getElem?_drop]
      have g0 := g 0 (by decide)
      have g1 := g 1 (by decide)
      have g2 := g 2 (by decide)
      simp at g0 g1 g2
      exact ⟨by rw [g0, ← e1]; simp, by rw [g1, ← e2]; simp, by rw [g2, ← e3]; simp⟩
    · cases h
def listed : List (String × DataW Unit) := [("replica/wire.bounds", Rows.laid_replica_wire_bounds)]
theorem stabs_of_laid {W : World} (h : laidMetH Tryd.prog listed W) : BTab W := by
  have h' : laidMet Tryd.prog [("replica/wire.bounds", (.agg (bndL.map recD) : DataW Unit))] W := h
  obtain ⟨ps, ⟨g', t', cs, fuel, p, q, hg', ht', hvar, hd, _⟩, _⟩ := h'
  obtain rfl := Option.some.inj (gB.symm.trans hg')
  obtain rfl := Option.some.inj (gBty.symm.trans ht')
  have hc := cells_of_recs rfl hd
  intro n hn
  obtain ⟨c0, c1, c2⟩ := hc n hn
  have k := fun j => World.var?_cell gB hvar j
  exact ⟨by rw [k, List.getElem?_toArray]; exact c0, by rw [k, List.getElem?_toArray]; exact c1, by rw [k, List.getElem?_toArray]; exact c2⟩
def relay (cs : List Value) : Obj → Obj
  | .cells _ t fr => .cells cs.toArray t fr
  | o => o
def laidIn (w : World) : World := { w with heap := w.heap.modify 0 (relay (bndL.flatMap fun z => [.int .i64 (z.1 : Int), .int .u64 (z.2.1 : Int), .int .u64 (z.2.2 : Int)])) }
end Go.Proofs.YtcjilmafdpnfeaaDoor
