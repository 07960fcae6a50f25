/-
  No cell of these rows narrows 'for every input' (looked for: loops, veiled, ifaces, maps, wideKeys, modest, calm, conditions, laid).
  DERIVED. THE GIVEN ROWS OF THIS SEAT. 6 by the template 'for every input the law returns true; each argument reads behind the call as it read before'; 0 by the template 'total and deterministic' (their statements: YtdjdcpldofmdjaaTotals.lean).
  GIVEN WITH THE SEED: the statements are not yours to turn. If you find one false, say at which input.
  Laid BY PROGRAM, IN A SANDBOX (cutbox-rows.mjs): the forced cells as the released guide's own fill.sh prints them over the translation fd0322d30c64a6ca… (all of the seat's roots in one cut). By AI agents, Wed Nov 11 2026. No macro, syntax, notation, axiom, sorry.
-/
import Derived.Test.YtdjdcpldofmdjaaChecked
import GoSem.Claim
import GoSem.ClaimJoined
import GoSem.ClaimMapViews
import Derived.JoinedTies
import Derived.KernelRfl
namespace Go.Proofs.Ytdjdcpldofmdjaa
/- THE CELL 'sum', in the pinned program and in every row, IS THE sha256 OF THE DUMP (.gsa) THAT YtdjdcpldofmdjaaProg.lean LOADS. Nothing in Lean hashes anything: it is a label: what it is worth is what the hold of that sum in a sandbox is worth. -/
noncomputable def Try.pinned : Pinned := { name := "ytdjdcpldofmdjaa", sum := "fd0322d30c64a6ca5d857afb6247039ab41299237abf77cdc0f67efd5c9e00a2", checked := Try.checked }
namespace Rows
def none {H : Type} : Left H := { results := [], args := [] }

/-- 'replicalaw12.ConfLines': WHATEVER THE INPUT: true; the input reads as it did. -/
def confLinesSpec : ChangeSpec := { name := "confLines", fn := fun _ => fun
  | [d] => { results := [.lit (.bool true)], args := [d] }
  | _ => none }
def confLinesRow : OpenClaim := { program := "ytdjdcpldofmdjaa", sum := "fd0322d30c64a6ca5d857afb6247039ab41299237abf77cdc0f67efd5c9e00a2", func := "replica/replicalaw12.ConfLines", spec := "confLines", unfollowed := true, recurses := true, apart := false }
def ConfLinesSaid : Prop := confLinesRow.holds Try.pinned (OpenSpec.ofChange confLinesSpec)

/-- ITS FALSE NEIGHBOUR: 'it returns false'. Refute it at one input. -/
def confLinesWrong : ChangeSpec := { name := "confLines", fn := fun _ => fun
  | [d] => { results := [.lit (.bool false)], args := [d] }
  | _ => none }
def ConfLinesWrongFalsely : Prop := confLinesRow.holds Try.pinned (OpenSpec.ofChange confLinesWrong)

/-- 'replicalaw12.ConfChecks': WHATEVER THE INPUT: true; the input reads as it did. -/
def confChecksSpec : ChangeSpec := { name := "confChecks", fn := fun _ => fun
  | [d] => { results := [.lit (.bool true)], args := [d] }
  | _ => none }
def confChecksRow : OpenClaim := { program := "ytdjdcpldofmdjaa", sum := "fd0322d30c64a6ca5d857afb6247039ab41299237abf77cdc0f67efd5c9e00a2", func := "replica/replicalaw12.ConfChecks", spec := "confChecks", unfollowed := true, recurses := true, apart := false }
def ConfChecksSaid : Prop := confChecksRow.holds Try.pinned (OpenSpec.ofChange confChecksSpec)

/-- ITS FALSE NEIGHBOUR: 'it returns false'. Refute it at one input. -/
def confChecksWrong : ChangeSpec := { name := "confChecks", fn := fun _ => fun
  | [d] => { results := [.lit (.bool false)], args := [d] }
  | _ => none }
def ConfChecksWrongFalsely : Prop := confChecksRow.holds Try.pinned (OpenSpec.ofChange confChecksWrong)

/-- 'replicalaw12.ConfStatuses': WHATEVER THE INPUT: true; the input reads as it did. -/
def confStatusesSpec : ChangeSpec := { name := "confStatuses", fn := fun _ => fun
  | [d] => { results := [.lit (.bool true)], args := [d] }
  | _ => none }
def confStatusesRow : OpenClaim := { program := "ytdjdcpldofmdjaa", sum := "fd0322d30c64a6ca5d857afb6247039ab41299237abf77cdc0f67efd5c9e00a2", func := "replica/replicalaw12.ConfStatuses", spec := "confStatuses", unfollowed := true, recurses := true, apart := false }
def ConfStatusesSaid : Prop := confStatusesRow.holds Try.pinned (OpenSpec.ofChange confStatusesSpec)

/-- ITS FALSE NEIGHBOUR: 'it returns false'. Refute it at one input. -/
def confStatusesWrong : ChangeSpec := { name := "confStatuses", fn := fun _ => fun
  | [d] => { results := [.lit (.bool false)], args := [d] }
  | _ => none }
def ConfStatusesWrongFalsely : Prop := confStatusesRow.holds Try.pinned (OpenSpec.ofChange confStatusesWrong)

/-- 'replicalaw12.ConfLinePlace': WHATEVER THE INPUT: true; the input reads as it did. -/
def confLinePlaceSpec : ChangeSpec := { name := "confLinePlace", fn := fun _ => fun
  | [d1, d2, d3, d4] => { results := [.lit (.bool true)], args := [d1, d2, d3, d4] }
  | _ => none }
def confLinePlaceRow : OpenClaim := { program := "ytdjdcpldofmdjaa", sum := "fd0322d30c64a6ca5d857afb6247039ab41299237abf77cdc0f67efd5c9e00a2", func := "replica/replicalaw12.ConfLinePlace", spec := "confLinePlace", unfollowed := true, recurses := true, apart := false }
def ConfLinePlaceSaid : Prop := confLinePlaceRow.holds Try.pinned (OpenSpec.ofChange confLinePlaceSpec)

/-- ITS FALSE NEIGHBOUR: 'it returns false'. Refute it at one input. -/
def confLinePlaceWrong : ChangeSpec := { name := "confLinePlace", fn := fun _ => fun
  | [d1, d2, d3, d4] => { results := [.lit (.bool false)], args := [d1, d2, d3, d4] }
  | _ => none }
def ConfLinePlaceWrongFalsely : Prop := confLinePlaceRow.holds Try.pinned (OpenSpec.ofChange confLinePlaceWrong)

/-- 'replicalaw12.ConfLineBack': WHATEVER THE INPUT: true; the input reads as it did. -/
def confLineBackSpec : ChangeSpec := { name := "confLineBack", fn := fun _ => fun
  | [d] => { results := [.lit (.bool true)], args := [d] }
  | _ => none }
def confLineBackRow : OpenClaim := { program := "ytdjdcpldofmdjaa", sum := "fd0322d30c64a6ca5d857afb6247039ab41299237abf77cdc0f67efd5c9e00a2", func := "replica/replicalaw12.ConfLineBack", spec := "confLineBack", unfollowed := true, recurses := true, apart := false }
def ConfLineBackSaid : Prop := confLineBackRow.holds Try.pinned (OpenSpec.ofChange confLineBackSpec)

/-- ITS FALSE NEIGHBOUR: 'it returns false'. Refute it at one input. -/
def confLineBackWrong : ChangeSpec := { name := "confLineBack", fn := fun _ => fun
  | [d] => { results := [.lit (.bool false)], args := [d] }
  | _ => none }
def ConfLineBackWrongFalsely : Prop := confLineBackRow.holds Try.pinned (OpenSpec.ofChange confLineBackWrong)

/-- 'replicalaw12.ConfLineOnly': WHATEVER THE INPUT: true; the input reads as it did. -/
def confLineOnlySpec : ChangeSpec := { name := "confLineOnly", fn := fun _ => fun
  | [d1, d2] => { results := [.lit (.bool true)], args := [d1, d2] }
  | _ => none }
def confLineOnlyRow : OpenClaim := { program := "ytdjdcpldofmdjaa", sum := "fd0322d30c64a6ca5d857afb6247039ab41299237abf77cdc0f67efd5c9e00a2", func := "replica/replicalaw12.ConfLineOnly", spec := "confLineOnly", unfollowed := true, recurses := true, apart := false }
def ConfLineOnlySaid : Prop := confLineOnlyRow.holds Try.pinned (OpenSpec.ofChange confLineOnlySpec)

/-- ITS FALSE NEIGHBOUR: 'it returns false'. Refute it at one input. -/
def confLineOnlyWrong : ChangeSpec := { name := "confLineOnly", fn := fun _ => fun
  | [d1, d2] => { results := [.lit (.bool false)], args := [d1, d2] }
  | _ => none }
def ConfLineOnlyWrongFalsely : Prop := confLineOnlyRow.holds Try.pinned (OpenSpec.ofChange confLineOnlyWrong)

/- THE SECOND FORM. 'bulk': how many values and letters a reading holds, each counted each time it is reached (what is shared counts as often as it is met; a slice's spare places count too). A statement '..UptoSaid' is the law's where the arguments, and the package variables that the reading takes, are together of bulk at most 1048576: NARROWER than '..Said'. Prove '..Said' where nothing that the law and all that it calls make is longer than what came in: it says more and counts as full. Else prove '..UptoSaid'. A law counts once. -/
mutual
def uptoBulk {H : Type} : DataW H → Nat
  | .lit (.string bytes) => bytes.length + 1
  | .lit _ => 1
  | .nil => 1
  | .ptr d => uptoBulk d + 1
  | .slice elems spare => uptoBulkAll elems + uptoBulkAll spare + 1
  | .agg parts => uptoBulkAll parts + 1
  | .iface _ d => uptoBulk d + 1
  | .map entries => uptoBulkEntries entries + 1
  | .held _ => 1
def uptoBulkAll {H : Type} : List (DataW H) → Nat
  | [] => 0
  | d :: r => uptoBulk d + uptoBulkAll r
def uptoBulkEntries {H : Type} : List (Lit × DataW H) → Nat
  | [] => 0
  | x :: r => uptoBulkEntry x + uptoBulkEntries r
def uptoBulkEntry {H : Type} : Lit × DataW H → Nat
  | (.string bytes, d) => bytes.length + uptoBulk d + 1
  | (_, d) => uptoBulk d + 1
 end
def uptoSmall : (H : Type) → List (DataW H) → Bool := fun _ ds => decide (uptoBulkAll ds ≤ 1048576)
def OpenSpec.upto (s : _root_.Go.ChangeSpec) : _root_.Go.OpenSpec := { _root_.Go.OpenSpec.ofChange s with cond := some uptoSmall }

/-- 'replicalaw12.ConfLines', WHERE WHAT IT READS IS OF BULK AT MOST 1048576: true; the input reads as it did. -/
def confLinesUptoRow : OpenClaim := { program := "ytdjdcpldofmdjaa", sum := "fd0322d30c64a6ca5d857afb6247039ab41299237abf77cdc0f67efd5c9e00a2", func := "replica/replicalaw12.ConfLines", spec := "confLines", unfollowed := true, recurses := true, apart := false, narrowed := true }
def ConfLinesUptoSaid : Prop := confLinesUptoRow.holds Try.pinned (OpenSpec.upto confLinesSpec)

/-- 'replicalaw12.ConfChecks', WHERE WHAT IT READS IS OF BULK AT MOST 1048576: true; the input reads as it did. -/
def confChecksUptoRow : OpenClaim := { program := "ytdjdcpldofmdjaa", sum := "fd0322d30c64a6ca5d857afb6247039ab41299237abf77cdc0f67efd5c9e00a2", func := "replica/replicalaw12.ConfChecks", spec := "confChecks", unfollowed := true, recurses := true, apart := false, narrowed := true }
def ConfChecksUptoSaid : Prop := confChecksUptoRow.holds Try.pinned (OpenSpec.upto confChecksSpec)

/-- 'replicalaw12.ConfStatuses', WHERE WHAT IT READS IS OF BULK AT MOST 1048576: true; the input reads as it did. -/
def confStatusesUptoRow : OpenClaim := { program := "ytdjdcpldofmdjaa", sum := "fd0322d30c64a6ca5d857afb6247039ab41299237abf77cdc0f67efd5c9e00a2", func := "replica/replicalaw12.ConfStatuses", spec := "confStatuses", unfollowed := true, recurses := true, apart := false, narrowed := true }
def ConfStatusesUptoSaid : Prop := confStatusesUptoRow.holds Try.pinned (OpenSpec.upto confStatusesSpec)

/-- 'replicalaw12.ConfLinePlace', WHERE WHAT IT READS IS OF BULK AT MOST 1048576: true; the input reads as it did. -/
def confLinePlaceUptoRow : OpenClaim := { program := "ytdjdcpldofmdjaa", sum := "fd0322d30c64a6ca5d857afb6247039ab41299237abf77cdc0f67efd5c9e00a2", func := "replica/replicalaw12.ConfLinePlace", spec := "confLinePlace", unfollowed := true, recurses := true, apart := false, narrowed := true }
def ConfLinePlaceUptoSaid : Prop := confLinePlaceUptoRow.holds Try.pinned (OpenSpec.upto confLinePlaceSpec)

/-- 'replicalaw12.ConfLineBack', WHERE WHAT IT READS IS OF BULK AT MOST 1048576: true; the input reads as it did. -/
def confLineBackUptoRow : OpenClaim := { program := "ytdjdcpldofmdjaa", sum := "fd0322d30c64a6ca5d857afb6247039ab41299237abf77cdc0f67efd5c9e00a2", func := "replica/replicalaw12.ConfLineBack", spec := "confLineBack", unfollowed := true, recurses := true, apart := false, narrowed := true }
def ConfLineBackUptoSaid : Prop := confLineBackUptoRow.holds Try.pinned (OpenSpec.upto confLineBackSpec)

/-- 'replicalaw12.ConfLineOnly', WHERE WHAT IT READS IS OF BULK AT MOST 1048576: true; the input reads as it did. -/
def confLineOnlyUptoRow : OpenClaim := { program := "ytdjdcpldofmdjaa", sum := "fd0322d30c64a6ca5d857afb6247039ab41299237abf77cdc0f67efd5c9e00a2", func := "replica/replicalaw12.ConfLineOnly", spec := "confLineOnly", unfollowed := true, recurses := true, apart := false, narrowed := true }
def ConfLineOnlyUptoSaid : Prop := confLineOnlyUptoRow.holds Try.pinned (OpenSpec.upto confLineOnlySpec)

end Rows
end Go.Proofs.Ytdjdcpldofmdjaa
