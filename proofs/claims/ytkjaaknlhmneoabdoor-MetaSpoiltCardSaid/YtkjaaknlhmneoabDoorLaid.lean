import Derived.Test.YtkjaaknlhmneoabDoorShaMac
import Derived.Test.YtkjaaknlhmneoabDoorCards
import Derived.Test.YtkjaaknlhmneoabDoorTie
import Derived.WalkKit
import Derived.ProofKit
import Derived.OpenShut
import Derived.ChangeOld
import Derived.Deep.DeepHandedRow
import Derived.Lib.LaidTab
namespace Go.Proofs.YtkjaaknlhmneoabDoor
open Go.ChangeShapes Go.WideShapes Go.ChangeAt Go.RowKit
open Num
set_option linter.unusedVariables false

theorem own : ownKnob Tryd.prog.godebug = none := by kernel_rfl
theorem laidOut : laidOutB Tryd.prog = true := by kernel_rfl
theorem gH : Tryd.prog.globalNamed "replica/digest.firstState" = some 0 := by kernel_rfl
theorem gK : Tryd.prog.globalNamed "replica/digest.roundConstants" = some 3 := by kernel_rfl
theorem gHty : (Tryd.prog.globals[0]?).map (·.type) = some 65 := by kernel_rfl
theorem gKty : (Tryd.prog.globals[3]?).map (·.type) = some 80 := by kernel_rfl
theorem cellsS : Tryd.prog.cellsOf 65 = 8 := by kernel_rfl
theorem cellsW : Tryd.prog.cellsOf 80 = 64 := by kernel_rfl
theorem cells32 : Tryd.prog.cellsOf 25 = 1 := by kernel_rfl

def listed : List (String × DataW Unit) := [("replica/digest.firstState", Rows.laid_replica_digest_firstState), ("replica/digest.roundConstants", Rows.laid_replica_digest_roundConstants)]

theorem tab_of_is {W : World} {name : String} {g : Nat} {l : List Nat} (hg : Tryd.prog.globalNamed name = some g) (h : Lib.TabIs Tryd.prog W name .u32 (l.map fun n : Nat => (n : Int))) : Tab W g l := by
  intro i hi
  rw [h.cell hg i (by simpa using hi)]
  simp [List.getD, hi]

/-- what the rows' list gives: the two tables -/
theorem tabs_of_laid {W : World} (h : laidMetH Tryd.prog listed W) : Tabs W := by
  have h' : laidMet Tryd.prog [("replica/digest.firstState", Lib.tabData .u32 (H0.map fun n : Nat => (n : Int))), ("replica/digest.roundConstants", Lib.tabData .u32 (Ks.map fun n : Nat => (n : Int)))] W := h
  have h1 := Lib.tabIs_of_head gH gHty Tryd.underlying65 Tryd.underlying25 cells32 cellsS h'
  obtain ⟨ps, ⟨g', t', cs, fuel, p, q, hg', ht', hvar, hd, ⟨g2, t2, cs2, fuel2, p2, q2, hg2, ht2, hvar2, hd2, _⟩, _⟩, _⟩ := h'
  obtain rfl := Option.some.inj (gK.symm.trans hg2)
  obtain rfl := Option.some.inj (gKty.symm.trans ht2)
  have h2 : Lib.TabIs Tryd.prog W "replica/digest.roundConstants" .u32 (Ks.map fun n : Nat => (n : Int)) := by
    unfold Lib.TabIs
    rw [hvar2, ← Lib.cells_of_tab Tryd.underlying80 Tryd.underlying25 cells32 cellsW hd2]
  exact ⟨tab_of_is gH h1, tab_of_is gK h2⟩

def relay (cs : List Value) : Obj → Obj
  | .cells _ t frozen => .cells cs.toArray t frozen
  | o => o
/-- a world for the witness: the settled one, with the two tables in it -/
def laidIn (w : World) : World := { w with heap := (w.heap.modify 0 (relay (H0.map wordV))).modify 3 (relay (Ks.map wordV)) }
end Go.Proofs.YtkjaaknlhmneoabDoor
