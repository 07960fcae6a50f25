/-
  No cell of these rows narrows 'for every input' (looked for: loops, veiled, ifaces, maps, wideKeys, modest, calm, conditions, laid).
  DERIVED. THE GIVEN ROWS OF THIS SEAT. 6 by the template 'for every input the law returns true; each argument reads behind the call as it read before'; 0 by the template 'total and deterministic' (their statements: YthbnkgbpodnjcabTotals.lean).
  GIVEN WITH THE SEED: the statements are not yours to turn. If you find one false, say at which input.
  Laid BY PROGRAM, IN A SANDBOX (cutbox-rows.mjs): the forced cells as the released guide's own fill.sh prints them over the translation b0ba4e88fc5ed6ce… (all of the seat's roots in one cut). By AI agents, Wed Nov 11 2026. No macro, syntax, notation, axiom, sorry.
-/
import Derived.Test.YthbnkgbpodnjcabChecked
import GoSem.Claim
import GoSem.ClaimJoined
import GoSem.ClaimMapViews
import Derived.JoinedTies
import Derived.KernelRfl
namespace Go.Proofs.Ythbnkgbpodnjcab
/- THE CELL 'sum', in the pinned program and in every row, IS THE sha256 OF THE DUMP (.gsa) THAT YthbnkgbpodnjcabProg.lean LOADS. Nothing in Lean hashes anything: it is a label: what it is worth is what the hold of that sum in a sandbox is worth. -/
noncomputable def Try.pinned : Pinned := { name := "ythbnkgbpodnjcab", sum := "b0ba4e88fc5ed6ce7a43e7441e78f75578ddab203d956a561eff87fdfe39cb0f", checked := Try.checked }
namespace Rows
def none {H : Type} : Left H := { results := [], args := [] }

/-- 'replicalaw08.LinkNews': WHATEVER THE INPUT: true; the input reads as it did. -/
def linkNewsSpec : ChangeSpec := { name := "linkNews", fn := fun _ => fun
  | [d] => { results := [.lit (.bool true)], args := [d] }
  | _ => none }
def linkNewsRow : OpenClaim := { program := "ythbnkgbpodnjcab", sum := "b0ba4e88fc5ed6ce7a43e7441e78f75578ddab203d956a561eff87fdfe39cb0f", func := "replica/replicalaw08.LinkNews", spec := "linkNews", unfollowed := true, recurses := true, apart := false }
def LinkNewsSaid : Prop := linkNewsRow.holds Try.pinned (OpenSpec.ofChange linkNewsSpec)

/-- ITS FALSE NEIGHBOUR: 'it returns false'. Refute it at one input. -/
def linkNewsWrong : ChangeSpec := { name := "linkNews", fn := fun _ => fun
  | [d] => { results := [.lit (.bool false)], args := [d] }
  | _ => none }
def LinkNewsWrongFalsely : Prop := linkNewsRow.holds Try.pinned (OpenSpec.ofChange linkNewsWrong)

/-- 'replicalaw08.LinkPair': WHATEVER THE INPUT: true; the input reads as it did. -/
def linkPairSpec : ChangeSpec := { name := "linkPair", fn := fun _ => fun
  | [d1, d2, d3, d4] => { results := [.lit (.bool true)], args := [d1, d2, d3, d4] }
  | _ => none }
def linkPairRow : OpenClaim := { program := "ythbnkgbpodnjcab", sum := "b0ba4e88fc5ed6ce7a43e7441e78f75578ddab203d956a561eff87fdfe39cb0f", func := "replica/replicalaw08.LinkPair", spec := "linkPair", unfollowed := true, recurses := true, apart := false }
def LinkPairSaid : Prop := linkPairRow.holds Try.pinned (OpenSpec.ofChange linkPairSpec)

/-- ITS FALSE NEIGHBOUR: 'it returns false'. Refute it at one input. -/
def linkPairWrong : ChangeSpec := { name := "linkPair", fn := fun _ => fun
  | [d1, d2, d3, d4] => { results := [.lit (.bool false)], args := [d1, d2, d3, d4] }
  | _ => none }
def LinkPairWrongFalsely : Prop := linkPairRow.holds Try.pinned (OpenSpec.ofChange linkPairWrong)

/-- 'replicalaw08.LinkSends': WHATEVER THE INPUT: true; the input reads as it did. -/
def linkSendsSpec : ChangeSpec := { name := "linkSends", fn := fun _ => fun
  | [d1, d2] => { results := [.lit (.bool true)], args := [d1, d2] }
  | _ => none }
def linkSendsRow : OpenClaim := { program := "ythbnkgbpodnjcab", sum := "b0ba4e88fc5ed6ce7a43e7441e78f75578ddab203d956a561eff87fdfe39cb0f", func := "replica/replicalaw08.LinkSends", spec := "linkSends", unfollowed := true, recurses := true, apart := false }
def LinkSendsSaid : Prop := linkSendsRow.holds Try.pinned (OpenSpec.ofChange linkSendsSpec)

/-- ITS FALSE NEIGHBOUR: 'it returns false'. Refute it at one input. -/
def linkSendsWrong : ChangeSpec := { name := "linkSends", fn := fun _ => fun
  | [d1, d2] => { results := [.lit (.bool false)], args := [d1, d2] }
  | _ => none }
def LinkSendsWrongFalsely : Prop := linkSendsRow.holds Try.pinned (OpenSpec.ofChange linkSendsWrong)

/-- 'replicalaw08.LinkTakes': WHATEVER THE INPUT: true; the input reads as it did. -/
def linkTakesSpec : ChangeSpec := { name := "linkTakes", fn := fun _ => fun
  | [d1, d2] => { results := [.lit (.bool true)], args := [d1, d2] }
  | _ => none }
def linkTakesRow : OpenClaim := { program := "ythbnkgbpodnjcab", sum := "b0ba4e88fc5ed6ce7a43e7441e78f75578ddab203d956a561eff87fdfe39cb0f", func := "replica/replicalaw08.LinkTakes", spec := "linkTakes", unfollowed := true, recurses := true, apart := false }
def LinkTakesSaid : Prop := linkTakesRow.holds Try.pinned (OpenSpec.ofChange linkTakesSpec)

/-- ITS FALSE NEIGHBOUR: 'it returns false'. Refute it at one input. -/
def linkTakesWrong : ChangeSpec := { name := "linkTakes", fn := fun _ => fun
  | [d1, d2] => { results := [.lit (.bool false)], args := [d1, d2] }
  | _ => none }
def LinkTakesWrongFalsely : Prop := linkTakesRow.holds Try.pinned (OpenSpec.ofChange linkTakesWrong)

/-- 'replicalaw08.LinkOuts': WHATEVER THE INPUT: true; the input reads as it did. -/
def linkOutsSpec : ChangeSpec := { name := "linkOuts", fn := fun _ => fun
  | [d1, d2] => { results := [.lit (.bool true)], args := [d1, d2] }
  | _ => none }
def linkOutsRow : OpenClaim := { program := "ythbnkgbpodnjcab", sum := "b0ba4e88fc5ed6ce7a43e7441e78f75578ddab203d956a561eff87fdfe39cb0f", func := "replica/replicalaw08.LinkOuts", spec := "linkOuts", unfollowed := true, recurses := true, apart := false }
def LinkOutsSaid : Prop := linkOutsRow.holds Try.pinned (OpenSpec.ofChange linkOutsSpec)

/-- ITS FALSE NEIGHBOUR: 'it returns false'. Refute it at one input. -/
def linkOutsWrong : ChangeSpec := { name := "linkOuts", fn := fun _ => fun
  | [d1, d2] => { results := [.lit (.bool false)], args := [d1, d2] }
  | _ => none }
def LinkOutsWrongFalsely : Prop := linkOutsRow.holds Try.pinned (OpenSpec.ofChange linkOutsWrong)

/-- 'replicalaw08.LinkStates': WHATEVER THE INPUT: true; the input reads as it did. -/
def linkStatesSpec : ChangeSpec := { name := "linkStates", fn := fun _ => fun
  | [d1, d2] => { results := [.lit (.bool true)], args := [d1, d2] }
  | _ => none }
def linkStatesRow : OpenClaim := { program := "ythbnkgbpodnjcab", sum := "b0ba4e88fc5ed6ce7a43e7441e78f75578ddab203d956a561eff87fdfe39cb0f", func := "replica/replicalaw08.LinkStates", spec := "linkStates", unfollowed := true, recurses := true, apart := false }
def LinkStatesSaid : Prop := linkStatesRow.holds Try.pinned (OpenSpec.ofChange linkStatesSpec)

/-- ITS FALSE NEIGHBOUR: 'it returns false'. Refute it at one input. -/
def linkStatesWrong : ChangeSpec := { name := "linkStates", fn := fun _ => fun
  | [d1, d2] => { results := [.lit (.bool false)], args := [d1, d2] }
  | _ => none }
def LinkStatesWrongFalsely : Prop := linkStatesRow.holds Try.pinned (OpenSpec.ofChange linkStatesWrong)

/- THE SECOND FORM. 'bulk': how many values and letters a reading holds, each counted each time it is reached (what is shared counts as often as it is met; a slice's spare places count too). A statement '..UptoSaid' is the law's where the arguments, and the package variables that the reading takes, are together of bulk at most 1048576: NARROWER than '..Said'. Prove '..Said' where nothing that the law and all that it calls make is longer than what came in: it says more and counts as full. Else prove '..UptoSaid'. A law counts once. -/
mutual
def uptoBulk {H : Type} : DataW H → Nat
  | .lit (.string bytes) => bytes.length + 1
  | .lit _ => 1
  | .nil => 1
  | .ptr d => uptoBulk d + 1
  | .slice elems spare => uptoBulkAll elems + uptoBulkAll spare + 1
  | .agg parts => uptoBulkAll parts + 1
  | .iface _ d => uptoBulk d + 1
  | .map entries => uptoBulkEntries entries + 1
  | .held _ => 1
def uptoBulkAll {H : Type} : List (DataW H) → Nat
  | [] => 0
  | d :: r => uptoBulk d + uptoBulkAll r
def uptoBulkEntries {H : Type} : List (Lit × DataW H) → Nat
  | [] => 0
  | x :: r => uptoBulkEntry x + uptoBulkEntries r
def uptoBulkEntry {H : Type} : Lit × DataW H → Nat
  | (.string bytes, d) => bytes.length + uptoBulk d + 1
  | (_, d) => uptoBulk d + 1
 end
def uptoSmall : (H : Type) → List (DataW H) → Bool := fun _ ds => decide (uptoBulkAll ds ≤ 1048576)
def OpenSpec.upto (s : _root_.Go.ChangeSpec) : _root_.Go.OpenSpec := { _root_.Go.OpenSpec.ofChange s with cond := some uptoSmall }

/-- 'replicalaw08.LinkNews', WHERE WHAT IT READS IS OF BULK AT MOST 1048576: true; the input reads as it did. -/
def linkNewsUptoRow : OpenClaim := { program := "ythbnkgbpodnjcab", sum := "b0ba4e88fc5ed6ce7a43e7441e78f75578ddab203d956a561eff87fdfe39cb0f", func := "replica/replicalaw08.LinkNews", spec := "linkNews", unfollowed := true, recurses := true, apart := false, narrowed := true }
def LinkNewsUptoSaid : Prop := linkNewsUptoRow.holds Try.pinned (OpenSpec.upto linkNewsSpec)

/-- 'replicalaw08.LinkPair', WHERE WHAT IT READS IS OF BULK AT MOST 1048576: true; the input reads as it did. -/
def linkPairUptoRow : OpenClaim := { program := "ythbnkgbpodnjcab", sum := "b0ba4e88fc5ed6ce7a43e7441e78f75578ddab203d956a561eff87fdfe39cb0f", func := "replica/replicalaw08.LinkPair", spec := "linkPair", unfollowed := true, recurses := true, apart := false, narrowed := true }
def LinkPairUptoSaid : Prop := linkPairUptoRow.holds Try.pinned (OpenSpec.upto linkPairSpec)

/-- 'replicalaw08.LinkSends', WHERE WHAT IT READS IS OF BULK AT MOST 1048576: true; the input reads as it did. -/
def linkSendsUptoRow : OpenClaim := { program := "ythbnkgbpodnjcab", sum := "b0ba4e88fc5ed6ce7a43e7441e78f75578ddab203d956a561eff87fdfe39cb0f", func := "replica/replicalaw08.LinkSends", spec := "linkSends", unfollowed := true, recurses := true, apart := false, narrowed := true }
def LinkSendsUptoSaid : Prop := linkSendsUptoRow.holds Try.pinned (OpenSpec.upto linkSendsSpec)

/-- 'replicalaw08.LinkTakes', WHERE WHAT IT READS IS OF BULK AT MOST 1048576: true; the input reads as it did. -/
def linkTakesUptoRow : OpenClaim := { program := "ythbnkgbpodnjcab", sum := "b0ba4e88fc5ed6ce7a43e7441e78f75578ddab203d956a561eff87fdfe39cb0f", func := "replica/replicalaw08.LinkTakes", spec := "linkTakes", unfollowed := true, recurses := true, apart := false, narrowed := true }
def LinkTakesUptoSaid : Prop := linkTakesUptoRow.holds Try.pinned (OpenSpec.upto linkTakesSpec)

/-- 'replicalaw08.LinkOuts', WHERE WHAT IT READS IS OF BULK AT MOST 1048576: true; the input reads as it did. -/
def linkOutsUptoRow : OpenClaim := { program := "ythbnkgbpodnjcab", sum := "b0ba4e88fc5ed6ce7a43e7441e78f75578ddab203d956a561eff87fdfe39cb0f", func := "replica/replicalaw08.LinkOuts", spec := "linkOuts", unfollowed := true, recurses := true, apart := false, narrowed := true }
def LinkOutsUptoSaid : Prop := linkOutsUptoRow.holds Try.pinned (OpenSpec.upto linkOutsSpec)

/-- 'replicalaw08.LinkStates', WHERE WHAT IT READS IS OF BULK AT MOST 1048576: true; the input reads as it did. -/
def linkStatesUptoRow : OpenClaim := { program := "ythbnkgbpodnjcab", sum := "b0ba4e88fc5ed6ce7a43e7441e78f75578ddab203d956a561eff87fdfe39cb0f", func := "replica/replicalaw08.LinkStates", spec := "linkStates", unfollowed := true, recurses := true, apart := false, narrowed := true }
def LinkStatesUptoSaid : Prop := linkStatesUptoRow.holds Try.pinned (OpenSpec.upto linkStatesSpec)

end Rows
end Go.Proofs.Ythbnkgbpodnjcab
