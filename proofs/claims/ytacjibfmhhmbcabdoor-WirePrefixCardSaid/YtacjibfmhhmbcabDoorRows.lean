/-
  NARROWER THAN 'FOR EVERY INPUT', by the rows' own cells (each row's printed sentence says how): WirePlace: laid · WireFrameOne: laid · WireBack: laid · WirePrefix: laid · WireFrameBack: laid · WireTells: laid.
  DERIVED. THE GIVEN ROWS OF THIS SEAT. 6 by the template 'for every input the law returns true; each argument reads behind the call as it read before'; 0 by the template 'total and deterministic' (their statements: YtacjibfmhhmbcabDoorTotals.lean).
  GIVEN WITH THE SEED: the statements are not yours to turn. If you find one false, say at which input.
  Laid BY PROGRAM, IN A SANDBOX (cutbox-rows.mjs): the forced cells as the released guide's own fill.sh prints them over the translation 449a16c28e383f93… (all of the seat's roots in one cut). By AI agents, Wed Nov 11 2026. No macro, syntax, notation, axiom, sorry.
-/
import Derived.Test.YtacjibfmhhmbcabDoorChecked
import GoSem.Claim
import GoSem.ClaimJoined
import GoSem.ClaimMapViews
import Derived.JoinedTies
import Derived.KernelRfl
namespace Go.Proofs.YtacjibfmhhmbcabDoor
/- THE CELL 'sum', in the pinned program and in every row, IS THE sha256 OF THE DUMP (.gsa) THAT YtacjibfmhhmbcabDoorProg.lean LOADS. Nothing in Lean hashes anything: it is a label: what it is worth is what the hold of that sum in a sandbox is worth. -/
noncomputable def Tryd.pinned : Pinned := { name := "ytacjibfmhhmbcabdoor", sum := "449a16c28e383f9376baee896171ab4c845e67f303873ab39cc0734bd9a6d6cb", checked := Tryd.checked }
namespace Rows
def none {H : Type} : Left H := { results := [], args := [] }

/- WHAT THE LISTED PACKAGE-LEVEL VARIABLES READ AS WHEN THE CALL BEGINS. Each datum BY PROGRAM (the guide's laid-datum.mjs) off the statement by which the dump's own 'gosem.cut.vars' lays the variable. In a bare row this is a premise. The card (YtacjibfmhhmbcabDoorCards.lean) ties it to the program's text. -/
def laid_replica_wire_bounds {H : Type} : DataW H := .agg [.agg [.lit (.int .i64 0), .lit (.int .u64 0), .lit (.int .u64 4294967295)], .agg [.lit (.int .i64 3), .lit (.int .u64 0), .lit (.int .u64 4294967295)], .agg [.lit (.int .i64 1), .lit (.int .u64 1), .lit (.int .u64 4096)], .agg [.lit (.int .i64 3), .lit (.int .u64 0), .lit (.int .u64 0)], .agg [.lit (.int .i64 4), .lit (.int .u64 0), .lit (.int .u64 4294967295)], .agg [.lit (.int .i64 3), .lit (.int .u64 0), .lit (.int .u64 4096)], .agg [.lit (.int .i64 4), .lit (.int .u64 0), .lit (.int .u64 31)], .agg [.lit (.int .i64 4), .lit (.int .u64 0), .lit (.int .u64 0)], .agg [.lit (.int .i64 1), .lit (.int .u64 0), .lit (.int .u64 63)], .agg [.lit (.int .i64 3), .lit (.int .u64 1), .lit (.int .u64 8)], .agg [.lit (.int .i64 0), .lit (.int .u64 1), .lit (.int .u64 2147483647)], .agg [.lit (.int .i64 1), .lit (.int .u64 0), .lit (.int .u64 4095)], .agg [.lit (.int .i64 2), .lit (.int .u64 1), .lit (.int .u64 4294967295)], .agg [.lit (.int .i64 3), .lit (.int .u64 1), .lit (.int .u64 64)], .agg [.lit (.int .i64 4), .lit (.int .u64 1), .lit (.int .u64 255)], .agg [.lit (.int .i64 4), .lit (.int .u64 0), .lit (.int .u64 255)], .agg [.lit (.int .i64 4), .lit (.int .u64 0), .lit (.int .u64 1)], .agg [.lit (.int .i64 3), .lit (.int .u64 0), .lit (.int .u64 4294967295)]]

/-- 'replicalaw07.WirePlace': WHATEVER THE INPUT: true; the input reads as it did. -/
def wirePlaceSpec : ChangeSpec := { name := "wirePlace", fn := fun _ => fun
  | [d1, d2] => { results := [.lit (.bool true)], args := [d1, d2] }
  | _ => none }
def wirePlaceRow : OpenClaim := { program := "ytacjibfmhhmbcabdoor", sum := "449a16c28e383f9376baee896171ab4c845e67f303873ab39cc0734bd9a6d6cb", func := "replica/replicalaw07.WirePlace", spec := "wirePlace", unfollowed := true, recurses := true, named := ["replica/wire.bounds"], apart := false, laid := [("replica/wire.bounds", laid_replica_wire_bounds)] }
def WirePlaceSaid : Prop := wirePlaceRow.holds Tryd.pinned (OpenSpec.ofChange wirePlaceSpec)

/-- ITS FALSE NEIGHBOUR: 'it returns false'. Refute it at one input. -/
def wirePlaceWrong : ChangeSpec := { name := "wirePlace", fn := fun _ => fun
  | [d1, d2] => { results := [.lit (.bool false)], args := [d1, d2] }
  | _ => none }
def WirePlaceWrongFalsely : Prop := wirePlaceRow.holds Tryd.pinned (OpenSpec.ofChange wirePlaceWrong)

/-- 'replicalaw07.WireFrameOne': WHATEVER THE INPUT: true; the input reads as it did. -/
def wireFrameOneSpec : ChangeSpec := { name := "wireFrameOne", fn := fun _ => fun
  | [d] => { results := [.lit (.bool true)], args := [d] }
  | _ => none }
def wireFrameOneRow : OpenClaim := { program := "ytacjibfmhhmbcabdoor", sum := "449a16c28e383f9376baee896171ab4c845e67f303873ab39cc0734bd9a6d6cb", func := "replica/replicalaw07.WireFrameOne", spec := "wireFrameOne", unfollowed := true, recurses := true, named := ["replica/wire.bounds"], apart := false, laid := [("replica/wire.bounds", laid_replica_wire_bounds)] }
def WireFrameOneSaid : Prop := wireFrameOneRow.holds Tryd.pinned (OpenSpec.ofChange wireFrameOneSpec)

/-- ITS FALSE NEIGHBOUR: 'it returns false'. Refute it at one input. -/
def wireFrameOneWrong : ChangeSpec := { name := "wireFrameOne", fn := fun _ => fun
  | [d] => { results := [.lit (.bool false)], args := [d] }
  | _ => none }
def WireFrameOneWrongFalsely : Prop := wireFrameOneRow.holds Tryd.pinned (OpenSpec.ofChange wireFrameOneWrong)

/-- 'replicalaw07.WireBack': WHATEVER THE INPUT: true; the input reads as it did. -/
def wireBackSpec : ChangeSpec := { name := "wireBack", fn := fun _ => fun
  | [d] => { results := [.lit (.bool true)], args := [d] }
  | _ => none }
def wireBackRow : OpenClaim := { program := "ytacjibfmhhmbcabdoor", sum := "449a16c28e383f9376baee896171ab4c845e67f303873ab39cc0734bd9a6d6cb", func := "replica/replicalaw07.WireBack", spec := "wireBack", unfollowed := true, recurses := true, named := ["replica/wire.bounds"], apart := false, laid := [("replica/wire.bounds", laid_replica_wire_bounds)] }
def WireBackSaid : Prop := wireBackRow.holds Tryd.pinned (OpenSpec.ofChange wireBackSpec)

/-- ITS FALSE NEIGHBOUR: 'it returns false'. Refute it at one input. -/
def wireBackWrong : ChangeSpec := { name := "wireBack", fn := fun _ => fun
  | [d] => { results := [.lit (.bool false)], args := [d] }
  | _ => none }
def WireBackWrongFalsely : Prop := wireBackRow.holds Tryd.pinned (OpenSpec.ofChange wireBackWrong)

/-- 'replicalaw07.WirePrefix': WHATEVER THE INPUT: true; the input reads as it did. -/
def wirePrefixSpec : ChangeSpec := { name := "wirePrefix", fn := fun _ => fun
  | [d1, d2, d3] => { results := [.lit (.bool true)], args := [d1, d2, d3] }
  | _ => none }
def wirePrefixRow : OpenClaim := { program := "ytacjibfmhhmbcabdoor", sum := "449a16c28e383f9376baee896171ab4c845e67f303873ab39cc0734bd9a6d6cb", func := "replica/replicalaw07.WirePrefix", spec := "wirePrefix", unfollowed := true, recurses := true, named := ["replica/wire.bounds"], apart := false, laid := [("replica/wire.bounds", laid_replica_wire_bounds)] }
def WirePrefixSaid : Prop := wirePrefixRow.holds Tryd.pinned (OpenSpec.ofChange wirePrefixSpec)

/-- ITS FALSE NEIGHBOUR: 'it returns false'. Refute it at one input. -/
def wirePrefixWrong : ChangeSpec := { name := "wirePrefix", fn := fun _ => fun
  | [d1, d2, d3] => { results := [.lit (.bool false)], args := [d1, d2, d3] }
  | _ => none }
def WirePrefixWrongFalsely : Prop := wirePrefixRow.holds Tryd.pinned (OpenSpec.ofChange wirePrefixWrong)

/-- 'replicalaw07.WireFrameBack': WHATEVER THE INPUT: true; the input reads as it did. -/
def wireFrameBackSpec : ChangeSpec := { name := "wireFrameBack", fn := fun _ => fun
  | [d] => { results := [.lit (.bool true)], args := [d] }
  | _ => none }
def wireFrameBackRow : OpenClaim := { program := "ytacjibfmhhmbcabdoor", sum := "449a16c28e383f9376baee896171ab4c845e67f303873ab39cc0734bd9a6d6cb", func := "replica/replicalaw07.WireFrameBack", spec := "wireFrameBack", unfollowed := true, recurses := true, named := ["replica/wire.bounds"], apart := false, laid := [("replica/wire.bounds", laid_replica_wire_bounds)] }
def WireFrameBackSaid : Prop := wireFrameBackRow.holds Tryd.pinned (OpenSpec.ofChange wireFrameBackSpec)

/-- ITS FALSE NEIGHBOUR: 'it returns false'. Refute it at one input. -/
def wireFrameBackWrong : ChangeSpec := { name := "wireFrameBack", fn := fun _ => fun
  | [d] => { results := [.lit (.bool false)], args := [d] }
  | _ => none }
def WireFrameBackWrongFalsely : Prop := wireFrameBackRow.holds Tryd.pinned (OpenSpec.ofChange wireFrameBackWrong)

/-- 'replicalaw07.WireTells': WHATEVER THE INPUT: true; the input reads as it did. -/
def wireTellsSpec : ChangeSpec := { name := "wireTells", fn := fun _ => fun
  | [d1, d2, d3, d4] => { results := [.lit (.bool true)], args := [d1, d2, d3, d4] }
  | _ => none }
def wireTellsRow : OpenClaim := { program := "ytacjibfmhhmbcabdoor", sum := "449a16c28e383f9376baee896171ab4c845e67f303873ab39cc0734bd9a6d6cb", func := "replica/replicalaw07.WireTells", spec := "wireTells", unfollowed := true, recurses := true, named := ["replica/wire.bounds"], apart := false, laid := [("replica/wire.bounds", laid_replica_wire_bounds)] }
def WireTellsSaid : Prop := wireTellsRow.holds Tryd.pinned (OpenSpec.ofChange wireTellsSpec)

/-- ITS FALSE NEIGHBOUR: 'it returns false'. Refute it at one input. -/
def wireTellsWrong : ChangeSpec := { name := "wireTells", fn := fun _ => fun
  | [d1, d2, d3, d4] => { results := [.lit (.bool false)], args := [d1, d2, d3, d4] }
  | _ => none }
def WireTellsWrongFalsely : Prop := wireTellsRow.holds Tryd.pinned (OpenSpec.ofChange wireTellsWrong)

/- THE SECOND FORM. 'bulk': how many values and letters a reading holds, each counted each time it is reached (what is shared counts as often as it is met; a slice's spare places count too). A statement '..UptoSaid' is the law's where the arguments, and the package variables that the reading takes, are together of bulk at most 1048576: NARROWER than '..Said'. Prove '..Said' where nothing that the law and all that it calls make is longer than what came in: it says more and counts as full. Else prove '..UptoSaid'. A law counts once. -/
mutual
def uptoBulk {H : Type} : DataW H → Nat
  | .lit (.string bytes) => bytes.length + 1
  | .lit _ => 1
  | .nil => 1
  | .ptr d => uptoBulk d + 1
  | .slice elems spare => uptoBulkAll elems + uptoBulkAll spare + 1
  | .agg parts => uptoBulkAll parts + 1
  | .iface _ d => uptoBulk d + 1
  | .map entries => uptoBulkEntries entries + 1
  | .held _ => 1
def uptoBulkAll {H : Type} : List (DataW H) → Nat
  | [] => 0
  | d :: r => uptoBulk d + uptoBulkAll r
def uptoBulkEntries {H : Type} : List (Lit × DataW H) → Nat
  | [] => 0
  | x :: r => uptoBulkEntry x + uptoBulkEntries r
def uptoBulkEntry {H : Type} : Lit × DataW H → Nat
  | (.string bytes, d) => bytes.length + uptoBulk d + 1
  | (_, d) => uptoBulk d + 1
 end
def uptoSmall : (H : Type) → List (DataW H) → Bool := fun _ ds => decide (uptoBulkAll ds ≤ 1048576)
def OpenSpec.upto (s : _root_.Go.ChangeSpec) : _root_.Go.OpenSpec := { _root_.Go.OpenSpec.ofChange s with cond := some uptoSmall }

/-- 'replicalaw07.WirePlace', WHERE WHAT IT READS IS OF BULK AT MOST 1048576: true; the input reads as it did. -/
def wirePlaceUptoRow : OpenClaim := { program := "ytacjibfmhhmbcabdoor", sum := "449a16c28e383f9376baee896171ab4c845e67f303873ab39cc0734bd9a6d6cb", func := "replica/replicalaw07.WirePlace", spec := "wirePlace", unfollowed := true, recurses := true, named := ["replica/wire.bounds"], apart := false, laid := [("replica/wire.bounds", laid_replica_wire_bounds)], narrowed := true }
def WirePlaceUptoSaid : Prop := wirePlaceUptoRow.holds Tryd.pinned (OpenSpec.upto wirePlaceSpec)

/-- 'replicalaw07.WireFrameOne', WHERE WHAT IT READS IS OF BULK AT MOST 1048576: true; the input reads as it did. -/
def wireFrameOneUptoRow : OpenClaim := { program := "ytacjibfmhhmbcabdoor", sum := "449a16c28e383f9376baee896171ab4c845e67f303873ab39cc0734bd9a6d6cb", func := "replica/replicalaw07.WireFrameOne", spec := "wireFrameOne", unfollowed := true, recurses := true, named := ["replica/wire.bounds"], apart := false, laid := [("replica/wire.bounds", laid_replica_wire_bounds)], narrowed := true }
def WireFrameOneUptoSaid : Prop := wireFrameOneUptoRow.holds Tryd.pinned (OpenSpec.upto wireFrameOneSpec)

/-- 'replicalaw07.WireBack', WHERE WHAT IT READS IS OF BULK AT MOST 1048576: true; the input reads as it did. -/
def wireBackUptoRow : OpenClaim := { program := "ytacjibfmhhmbcabdoor", sum := "449a16c28e383f9376baee896171ab4c845e67f303873ab39cc0734bd9a6d6cb", func := "replica/replicalaw07.WireBack", spec := "wireBack", unfollowed := true, recurses := true, named := ["replica/wire.bounds"], apart := false, laid := [("replica/wire.bounds", laid_replica_wire_bounds)], narrowed := true }
def WireBackUptoSaid : Prop := wireBackUptoRow.holds Tryd.pinned (OpenSpec.upto wireBackSpec)

/-- 'replicalaw07.WirePrefix', WHERE WHAT IT READS IS OF BULK AT MOST 1048576: true; the input reads as it did. -/
def wirePrefixUptoRow : OpenClaim := { program := "ytacjibfmhhmbcabdoor", sum := "449a16c28e383f9376baee896171ab4c845e67f303873ab39cc0734bd9a6d6cb", func := "replica/replicalaw07.WirePrefix", spec := "wirePrefix", unfollowed := true, recurses := true, named := ["replica/wire.bounds"], apart := false, laid := [("replica/wire.bounds", laid_replica_wire_bounds)], narrowed := true }
def WirePrefixUptoSaid : Prop := wirePrefixUptoRow.holds Tryd.pinned (OpenSpec.upto wirePrefixSpec)

/-- 'replicalaw07.WireFrameBack', WHERE WHAT IT READS IS OF BULK AT MOST 1048576: true; the input reads as it did. -/
def wireFrameBackUptoRow : OpenClaim := { program := "ytacjibfmhhmbcabdoor", sum := "449a16c28e383f9376baee896171ab4c845e67f303873ab39cc0734bd9a6d6cb", func := "replica/replicalaw07.WireFrameBack", spec := "wireFrameBack", unfollowed := true, recurses := true, named := ["replica/wire.bounds"], apart := false, laid := [("replica/wire.bounds", laid_replica_wire_bounds)], narrowed := true }
def WireFrameBackUptoSaid : Prop := wireFrameBackUptoRow.holds Tryd.pinned (OpenSpec.upto wireFrameBackSpec)

/-- 'replicalaw07.WireTells', WHERE WHAT IT READS IS OF BULK AT MOST 1048576: true; the input reads as it did. -/
def wireTellsUptoRow : OpenClaim := { program := "ytacjibfmhhmbcabdoor", sum := "449a16c28e383f9376baee896171ab4c845e67f303873ab39cc0734bd9a6d6cb", func := "replica/replicalaw07.WireTells", spec := "wireTells", unfollowed := true, recurses := true, named := ["replica/wire.bounds"], apart := false, laid := [("replica/wire.bounds", laid_replica_wire_bounds)], narrowed := true }
def WireTellsUptoSaid : Prop := wireTellsUptoRow.holds Tryd.pinned (OpenSpec.upto wireTellsSpec)

end Rows
end Go.Proofs.YtacjibfmhhmbcabDoor
