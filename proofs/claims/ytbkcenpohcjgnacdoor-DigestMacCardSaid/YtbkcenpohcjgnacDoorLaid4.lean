import Derived.Test.YtbkcenpohcjgnacDoorLaid
namespace Go.Proofs.YtbkcenpohcjgnacDoor
open Go.ChangeShapes Go.WideShapes Go.ChangeAt Go.RowKit
open Num
set_option linter.unusedVariables false

theorem gB : Tryd.prog.globalNamed "replica/replicaref01.begin" = some 0 := by kernel_rfl
theorem gR : Tryd.prog.globalNamed "replica/replicaref01.round" = some 1 := by kernel_rfl
theorem gBty : (Tryd.prog.globals[0]?).map (·.type) = some 41 := by kernel_rfl
theorem gRty : (Tryd.prog.globals[1]?).map (·.type) = some 42 := by kernel_rfl
theorem cells8 : Tryd.prog.cellsOf 41 = 8 := by kernel_rfl

def listed4 : List (String × DataW Unit) := [("replica/digest.firstState", Rows.laid_replica_digest_firstState), ("replica/digest.roundConstants", Rows.laid_replica_digest_roundConstants), ("replica/replicaref01.begin", Rows.laid_replica_replicaref01_begin), ("replica/replicaref01.round", Rows.laid_replica_replicaref01_round)]

/-- the program's two tables and the reference's two -/
structure Tabs4 (w : World) : Prop where
  t : Tabs w
  b : Tab w 0 H0
  r : Tab w 1 Ks
theorem Tabs4.below {w w' : World} (h : Tabs4 w) (hb : Below w.heap.size w w') : Tabs4 w' := ⟨h.t.below hb, h.b.below hb, h.r.below hb⟩

theorem tabs4_of_laid {W : World} (h : laidMetH Tryd.prog listed4 W) : Tabs4 W := by
  have h' : laidMet Tryd.prog [("replica/digest.firstState", Lib.tabData .u32 (H0.map fun n : Nat => (n : Int))), ("replica/digest.roundConstants", Lib.tabData .u32 (Ks.map fun n : Nat => (n : Int))), ("replica/replicaref01.begin", Lib.tabData .u32 (H0.map fun n : Nat => (n : Int))), ("replica/replicaref01.round", Lib.tabData .u32 (Ks.map fun n : Nat => (n : Int)))] W := h
  have h1 := Lib.tabIs_of_head gH gHty Tryd.underlying43 Tryd.underlying40 cells32 cellsS h'
  obtain ⟨ps, ⟨g', t', cs, fuel, p, q, hg', ht', hvar, hd, ⟨g2, t2, cs2, fuel2, p2, q2, hg2, ht2, hvar2, hd2, ⟨g3, t3, cs3, fuel3, p3, q3, hg3, ht3, hvar3, hd3, ⟨g4, t4, cs4, fuel4, p4, q4, hg4, ht4, hvar4, hd4, _⟩, _⟩, _⟩, _⟩, _⟩ := h'
  obtain rfl := Option.some.inj (gK.symm.trans hg2)
  obtain rfl := Option.some.inj (gKty.symm.trans ht2)
  obtain rfl := Option.some.inj (gB.symm.trans hg3)
  obtain rfl := Option.some.inj (gBty.symm.trans ht3)
  obtain rfl := Option.some.inj (gR.symm.trans hg4)
  obtain rfl := Option.some.inj (gRty.symm.trans ht4)
  have h2 : Lib.TabIs Tryd.prog W "replica/digest.roundConstants" .u32 (Ks.map fun n : Nat => (n : Int)) := by
    unfold Lib.TabIs
    rw [hvar2, ← Lib.cells_of_tab Tryd.underlying42 Tryd.underlying40 cells32 cellsW hd2]
  have h3 : Lib.TabIs Tryd.prog W "replica/replicaref01.begin" .u32 (H0.map fun n : Nat => (n : Int)) := by
    unfold Lib.TabIs
    rw [hvar3, ← Lib.cells_of_tab Tryd.underlying41 Tryd.underlying40 cells32 cells8 hd3]
  have h4 : Lib.TabIs Tryd.prog W "replica/replicaref01.round" .u32 (Ks.map fun n : Nat => (n : Int)) := by
    unfold Lib.TabIs
    rw [hvar4, ← Lib.cells_of_tab Tryd.underlying42 Tryd.underlying40 cells32 cellsW hd4]
  exact ⟨⟨tab_of_is gH h1, tab_of_is gK h2⟩, tab_of_is gB h3, tab_of_is gR h4⟩

/-- a world for the witness: the settled one, with the four tables in it -/
def laidIn4 (w : World) : World := { w with heap := (((w.heap.modify 2 (relay (H0.map wordV))).modify 3 (relay (Ks.map wordV))).modify 0 (relay (H0.map wordV))).modify 1 (relay (Ks.map wordV)) }
end Go.Proofs.YtbkcenpohcjgnacDoor
