/-
  NARROWER THAN 'FOR EVERY INPUT', by the rows' own cells (each row's printed sentence says how): WireParse: laid.
  DERIVED. THE GIVEN ROWS OF THIS SEAT. 1 by the template 'for every input the law returns true; each argument reads behind the call as it read before'; 0 by the template 'total and deterministic' (their statements: YtcjilmafdpnfeaaDoorTotals.lean).
  GIVEN WITH THE SEED: the statements are not yours to turn. If you find one false, say at which input.
  Laid BY PROGRAM, IN A SANDBOX (cutbox-rows.mjs): the forced cells as the released guide's own fill.sh prints them over the translation f6a587c9a0f9296f… (all of the seat's roots in one cut). By AI agents, Wed Nov 11 2026. No macro, syntax, notation, axiom, sorry.
-/
import Derived.Test.YtcjilmafdpnfeaaDoorChecked
import GoSem.Claim
import GoSem.ClaimJoined
import GoSem.ClaimMapViews
import Derived.JoinedTies
import Derived.KernelRfl
namespace Go.Proofs.YtcjilmafdpnfeaaDoor
/- THE CELL 'sum', in the pinned program and in every row, IS THE sha256 OF THE DUMP (.gsa) THAT YtcjilmafdpnfeaaDoorProg.lean LOADS. Nothing in Lean hashes anything: it is a label: what it is worth is what the hold of that sum in a sandbox is worth. -/
noncomputable def Tryd.pinned : Pinned := { name := "ytcjilmafdpnfeaadoor", sum := "f6a587c9a0f9296fd7e5d9015206478efb35a8bc0f69aa4abf8755b8182b1572", checked := Tryd.checked }
namespace Rows
def none {H : Type} : Left H := { results := [], args := [] }

/- WHAT THE LISTED PACKAGE-LEVEL VARIABLES READ AS WHEN THE CALL BEGINS. Each datum BY PROGRAM (the guide's laid-datum.mjs) off the statement by which the dump's own 'gosem.cut.vars' lays the variable. In a bare row this is a premise. The card (YtcjilmafdpnfeaaDoorCards.lean) ties it to the program's text. -/
def laid_replica_replicaref07_carries {H : Type} : DataW H := .agg [.lit (.int .i64 0), .lit (.int .i64 25), .lit (.int .i64 128), .lit (.int .i64 64), .lit (.int .i64 26), .lit (.int .i64 56), .lit (.int .i64 16), .lit (.int .i64 138), .lit (.int .i64 135), .lit (.int .i64 7), .lit (.int .i64 3), .lit (.int .i64 3), .lit (.int .i64 19), .lit (.int .i64 12), .lit (.int .i64 12), .lit (.int .i64 83), .lit (.int .i64 3), .lit (.int .i64 131), .lit (.int .i64 3), .lit (.int .i64 8), .lit (.int .i64 67), .lit (.int .i64 19), .lit (.int .i64 8), .lit (.int .i64 32), .lit (.int .i64 3), .lit (.int .i64 147)]
def laid_replica_replicaref07_five {H : Type} : DataW H := .agg [.lit (.int .i64 1), .lit (.int .i64 2), .lit (.int .i64 4), .lit (.int .i64 8), .lit (.int .i64 16)]
def laid_replica_wire_bounds {H : Type} : DataW H := .agg [.agg [.lit (.int .i64 0), .lit (.int .u64 0), .lit (.int .u64 4294967295)], .agg [.lit (.int .i64 3), .lit (.int .u64 0), .lit (.int .u64 4294967295)], .agg [.lit (.int .i64 1), .lit (.int .u64 1), .lit (.int .u64 4096)], .agg [.lit (.int .i64 3), .lit (.int .u64 0), .lit (.int .u64 0)], .agg [.lit (.int .i64 4), .lit (.int .u64 0), .lit (.int .u64 4294967295)], .agg [.lit (.int .i64 3), .lit (.int .u64 0), .lit (.int .u64 4096)], .agg [.lit (.int .i64 4), .lit (.int .u64 0), .lit (.int .u64 31)], .agg [.lit (.int .i64 4), .lit (.int .u64 0), .lit (.int .u64 0)], .agg [.lit (.int .i64 1), .lit (.int .u64 0), .lit (.int .u64 63)], .agg [.lit (.int .i64 3), .lit (.int .u64 1), .lit (.int .u64 8)], .agg [.lit (.int .i64 0), .lit (.int .u64 1), .lit (.int .u64 2147483647)], .agg [.lit (.int .i64 1), .lit (.int .u64 0), .lit (.int .u64 4095)], .agg [.lit (.int .i64 2), .lit (.int .u64 1), .lit (.int .u64 4294967295)], .agg [.lit (.int .i64 3), .lit (.int .u64 1), .lit (.int .u64 64)], .agg [.lit (.int .i64 4), .lit (.int .u64 1), .lit (.int .u64 255)], .agg [.lit (.int .i64 4), .lit (.int .u64 0), .lit (.int .u64 255)], .agg [.lit (.int .i64 4), .lit (.int .u64 0), .lit (.int .u64 1)], .agg [.lit (.int .i64 3), .lit (.int .u64 0), .lit (.int .u64 4294967295)]]

/-- 'replicalaw07.WireParse': WHATEVER THE INPUT: true; the input reads as it did. -/
def wireParseSpec : ChangeSpec := { name := "wireParse", fn := fun _ => fun
  | [d] => { results := [.lit (.bool true)], args := [d] }
  | _ => none }
def wireParseRow : OpenClaim := { program := "ytcjilmafdpnfeaadoor", sum := "f6a587c9a0f9296fd7e5d9015206478efb35a8bc0f69aa4abf8755b8182b1572", func := "replica/replicalaw07.WireParse", spec := "wireParse", named := ["replica/wire.bounds", "replica/replicaref07.five", "replica/replicaref07.carries"], apart := false, laid := [("replica/replicaref07.carries", laid_replica_replicaref07_carries), ("replica/replicaref07.five", laid_replica_replicaref07_five), ("replica/wire.bounds", laid_replica_wire_bounds)] }
def WireParseSaid : Prop := wireParseRow.holds Tryd.pinned (OpenSpec.ofChange wireParseSpec)

/-- ITS FALSE NEIGHBOUR: 'it returns false'. Refute it at one input. -/
def wireParseWrong : ChangeSpec := { name := "wireParse", fn := fun _ => fun
  | [d] => { results := [.lit (.bool false)], args := [d] }
  | _ => none }
def WireParseWrongFalsely : Prop := wireParseRow.holds Tryd.pinned (OpenSpec.ofChange wireParseWrong)

/- THE SECOND FORM. 'bulk': how many values and letters a reading holds, each counted each time it is reached (what is shared counts as often as it is met; a slice's spare places count too). A statement '..UptoSaid' is the law's where the arguments, and the package variables that the reading takes, are together of bulk at most 1048576: NARROWER than '..Said'. Prove '..Said' where nothing that the law and all that it calls make is longer than what came in: it says more and counts as full. Else prove '..UptoSaid'. A law counts once. -/
mutual
def uptoBulk {H : Type} : DataW H → Nat
  | .lit (.string bytes) => bytes.length + 1
  | .lit _ => 1
  | .nil => 1
  | .ptr d => uptoBulk d + 1
  | .slice elems spare => uptoBulkAll elems + uptoBulkAll spare + 1
  | .agg parts => uptoBulkAll parts + 1
  | .iface _ d => uptoBulk d + 1
  | .map entries => uptoBulkEntries entries + 1
  | .held _ => 1
def uptoBulkAll {H : Type} : List (DataW H) → Nat
  | [] => 0
  | d :: r => uptoBulk d + uptoBulkAll r
def uptoBulkEntries {H : Type} : List (Lit × DataW H) → Nat
  | [] => 0
  | x :: r => uptoBulkEntry x + uptoBulkEntries r
def uptoBulkEntry {H : Type} : Lit × DataW H → Nat
  | (.string bytes, d) => bytes.length + uptoBulk d + 1
  | (_, d) => uptoBulk d + 1
 end
def uptoSmall : (H : Type) → List (DataW H) → Bool := fun _ ds => decide (uptoBulkAll ds ≤ 1048576)
def OpenSpec.upto (s : _root_.Go.ChangeSpec) : _root_.Go.OpenSpec := { _root_.Go.OpenSpec.ofChange s with cond := some uptoSmall }

/-- 'replicalaw07.WireParse', WHERE WHAT IT READS IS OF BULK AT MOST 1048576: true; the input reads as it did. -/
def wireParseUptoRow : OpenClaim := { program := "ytcjilmafdpnfeaadoor", sum := "f6a587c9a0f9296fd7e5d9015206478efb35a8bc0f69aa4abf8755b8182b1572", func := "replica/replicalaw07.WireParse", spec := "wireParse", named := ["replica/wire.bounds", "replica/replicaref07.five", "replica/replicaref07.carries"], apart := false, laid := [("replica/replicaref07.carries", laid_replica_replicaref07_carries), ("replica/replicaref07.five", laid_replica_replicaref07_five), ("replica/wire.bounds", laid_replica_wire_bounds)], narrowed := true }
def WireParseUptoSaid : Prop := wireParseUptoRow.holds Tryd.pinned (OpenSpec.upto wireParseSpec)

end Rows
end Go.Proofs.YtcjilmafdpnfeaaDoor
