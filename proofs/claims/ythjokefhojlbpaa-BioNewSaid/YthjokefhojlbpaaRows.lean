/-
  No cell of these rows narrows 'for every input' (looked for: loops, veiled, ifaces, maps, wideKeys, modest, calm, conditions, laid).
  DERIVED. THE GIVEN ROWS OF THIS SEAT. 6 by the template 'for every input the law returns true; each argument reads behind the call as it read before'; 0 by the template 'total and deterministic' (their statements: YthjokefhojlbpaaTotals.lean).
  GIVEN WITH THE SEED: the statements are not yours to turn. If you find one false, say at which input.
  Laid BY PROGRAM, IN A SANDBOX (cutbox-rows.mjs): the forced cells as the released guide's own fill.sh prints them over the translation a9e7ae5e5580b484… (all of the seat's roots in one cut). By AI agents, Wed Nov 11 2026. No macro, syntax, notation, axiom, sorry.
-/
import Derived.Test.YthjokefhojlbpaaChecked
import GoSem.Claim
import GoSem.ClaimJoined
import GoSem.ClaimMapViews
import Derived.JoinedTies
import Derived.KernelRfl
namespace Go.Proofs.Ythjokefhojlbpaa
/- THE CELL 'sum', in the pinned program and in every row, IS THE sha256 OF THE DUMP (.gsa) THAT YthjokefhojlbpaaProg.lean LOADS. Nothing in Lean hashes anything: it is a label: what it is worth is what the hold of that sum in a sandbox is worth. -/
noncomputable def Try.pinned : Pinned := { name := "ythjokefhojlbpaa", sum := "a9e7ae5e5580b484cfa5e0c97ee5d7d454176124b6d96da7981e728ff651b300", checked := Try.checked }
namespace Rows
def none {H : Type} : Left H := { results := [], args := [] }

/-- 'replicalaw21.BioNew': WHATEVER THE INPUT: true; the input reads as it did. -/
def bioNewSpec : ChangeSpec := { name := "bioNew", fn := fun _ => fun
  | [d] => { results := [.lit (.bool true)], args := [d] }
  | _ => none }
def bioNewRow : OpenClaim := { program := "ythjokefhojlbpaa", sum := "a9e7ae5e5580b484cfa5e0c97ee5d7d454176124b6d96da7981e728ff651b300", func := "replica/replicalaw21.BioNew", spec := "bioNew", apart := false }
def BioNewSaid : Prop := bioNewRow.holds Try.pinned (OpenSpec.ofChange bioNewSpec)

/-- ITS FALSE NEIGHBOUR: 'it returns false'. Refute it at one input. -/
def bioNewWrong : ChangeSpec := { name := "bioNew", fn := fun _ => fun
  | [d] => { results := [.lit (.bool false)], args := [d] }
  | _ => none }
def BioNewWrongFalsely : Prop := bioNewRow.holds Try.pinned (OpenSpec.ofChange bioNewWrong)

/-- 'replicalaw21.BioApart': WHATEVER THE INPUT: true; the input reads as it did. -/
def bioApartSpec : ChangeSpec := { name := "bioApart", fn := fun _ => fun
  | [d1, d2, d3, d4] => { results := [.lit (.bool true)], args := [d1, d2, d3, d4] }
  | _ => none }
def bioApartRow : OpenClaim := { program := "ythjokefhojlbpaa", sum := "a9e7ae5e5580b484cfa5e0c97ee5d7d454176124b6d96da7981e728ff651b300", func := "replica/replicalaw21.BioApart", spec := "bioApart", unfollowed := true, recurses := true, apart := false }
def BioApartSaid : Prop := bioApartRow.holds Try.pinned (OpenSpec.ofChange bioApartSpec)

/-- ITS FALSE NEIGHBOUR: 'it returns false'. Refute it at one input. -/
def bioApartWrong : ChangeSpec := { name := "bioApart", fn := fun _ => fun
  | [d1, d2, d3, d4] => { results := [.lit (.bool false)], args := [d1, d2, d3, d4] }
  | _ => none }
def BioApartWrongFalsely : Prop := bioApartRow.holds Try.pinned (OpenSpec.ofChange bioApartWrong)

/-- 'replicalaw21.BioErrors': WHATEVER THE INPUT: true; the input reads as it did. -/
def bioErrorsSpec : ChangeSpec := { name := "bioErrors", fn := fun _ => fun
  | [d1, d2, d3, d4] => { results := [.lit (.bool true)], args := [d1, d2, d3, d4] }
  | _ => none }
def bioErrorsRow : OpenClaim := { program := "ythjokefhojlbpaa", sum := "a9e7ae5e5580b484cfa5e0c97ee5d7d454176124b6d96da7981e728ff651b300", func := "replica/replicalaw21.BioErrors", spec := "bioErrors", unfollowed := true, recurses := true, apart := false }
def BioErrorsSaid : Prop := bioErrorsRow.holds Try.pinned (OpenSpec.ofChange bioErrorsSpec)

/-- ITS FALSE NEIGHBOUR: 'it returns false'. Refute it at one input. -/
def bioErrorsWrong : ChangeSpec := { name := "bioErrors", fn := fun _ => fun
  | [d1, d2, d3, d4] => { results := [.lit (.bool false)], args := [d1, d2, d3, d4] }
  | _ => none }
def BioErrorsWrongFalsely : Prop := bioErrorsRow.holds Try.pinned (OpenSpec.ofChange bioErrorsWrong)

/-- 'replicalaw21.BioArray': WHATEVER THE INPUT: true; the input reads as it did. -/
def bioArraySpec : ChangeSpec := { name := "bioArray", fn := fun _ => fun
  | [d1, d2, d3, d4] => { results := [.lit (.bool true)], args := [d1, d2, d3, d4] }
  | _ => none }
def bioArrayRow : OpenClaim := { program := "ythjokefhojlbpaa", sum := "a9e7ae5e5580b484cfa5e0c97ee5d7d454176124b6d96da7981e728ff651b300", func := "replica/replicalaw21.BioArray", spec := "bioArray", unfollowed := true, recurses := true, apart := false }
def BioArraySaid : Prop := bioArrayRow.holds Try.pinned (OpenSpec.ofChange bioArraySpec)

/-- ITS FALSE NEIGHBOUR: 'it returns false'. Refute it at one input. -/
def bioArrayWrong : ChangeSpec := { name := "bioArray", fn := fun _ => fun
  | [d1, d2, d3, d4] => { results := [.lit (.bool false)], args := [d1, d2, d3, d4] }
  | _ => none }
def BioArrayWrongFalsely : Prop := bioArrayRow.holds Try.pinned (OpenSpec.ofChange bioArrayWrong)

/-- 'replicalaw21.BioOrder': WHATEVER THE INPUT: true; the input reads as it did. -/
def bioOrderSpec : ChangeSpec := { name := "bioOrder", fn := fun _ => fun
  | [d1, d2, d3, d4] => { results := [.lit (.bool true)], args := [d1, d2, d3, d4] }
  | _ => none }
def bioOrderRow : OpenClaim := { program := "ythjokefhojlbpaa", sum := "a9e7ae5e5580b484cfa5e0c97ee5d7d454176124b6d96da7981e728ff651b300", func := "replica/replicalaw21.BioOrder", spec := "bioOrder", unfollowed := true, recurses := true, apart := false }
def BioOrderSaid : Prop := bioOrderRow.holds Try.pinned (OpenSpec.ofChange bioOrderSpec)

/-- ITS FALSE NEIGHBOUR: 'it returns false'. Refute it at one input. -/
def bioOrderWrong : ChangeSpec := { name := "bioOrder", fn := fun _ => fun
  | [d1, d2, d3, d4] => { results := [.lit (.bool false)], args := [d1, d2, d3, d4] }
  | _ => none }
def BioOrderWrongFalsely : Prop := bioOrderRow.holds Try.pinned (OpenSpec.ofChange bioOrderWrong)

/-- 'replicalaw21.BioLost': WHATEVER THE INPUT: true; the input reads as it did. -/
def bioLostSpec : ChangeSpec := { name := "bioLost", fn := fun _ => fun
  | [d1, d2, d3, d4, d5] => { results := [.lit (.bool true)], args := [d1, d2, d3, d4, d5] }
  | _ => none }
def bioLostRow : OpenClaim := { program := "ythjokefhojlbpaa", sum := "a9e7ae5e5580b484cfa5e0c97ee5d7d454176124b6d96da7981e728ff651b300", func := "replica/replicalaw21.BioLost", spec := "bioLost", unfollowed := true, recurses := true, apart := false }
def BioLostSaid : Prop := bioLostRow.holds Try.pinned (OpenSpec.ofChange bioLostSpec)

/-- ITS FALSE NEIGHBOUR: 'it returns false'. Refute it at one input. -/
def bioLostWrong : ChangeSpec := { name := "bioLost", fn := fun _ => fun
  | [d1, d2, d3, d4, d5] => { results := [.lit (.bool false)], args := [d1, d2, d3, d4, d5] }
  | _ => none }
def BioLostWrongFalsely : Prop := bioLostRow.holds Try.pinned (OpenSpec.ofChange bioLostWrong)

/- THE SECOND FORM. 'bulk': how many values and letters a reading holds, each counted each time it is reached (what is shared counts as often as it is met; a slice's spare places count too). A statement '..UptoSaid' is the law's where the arguments, and the package variables that the reading takes, are together of bulk at most 1048576: NARROWER than '..Said'. Prove '..Said' where nothing that the law and all that it calls make is longer than what came in: it says more and counts as full. Else prove '..UptoSaid'. A law counts once. -/
mutual
def uptoBulk {H : Type} : DataW H → Nat
  | .lit (.string bytes) => bytes.length + 1
  | .lit _ => 1
  | .nil => 1
  | .ptr d => uptoBulk d + 1
  | .slice elems spare => uptoBulkAll elems + uptoBulkAll spare + 1
  | .agg parts => uptoBulkAll parts + 1
  | .iface _ d => uptoBulk d + 1
  | .map entries => uptoBulkEntries entries + 1
  | .held _ => 1
def uptoBulkAll {H : Type} : List (DataW H) → Nat
  | [] => 0
  | d :: r => uptoBulk d + uptoBulkAll r
def uptoBulkEntries {H : Type} : List (Lit × DataW H) → Nat
  | [] => 0
  | x :: r => uptoBulkEntry x + uptoBulkEntries r
def uptoBulkEntry {H : Type} : Lit × DataW H → Nat
  | (.string bytes, d) => bytes.length + uptoBulk d + 1
  | (_, d) => uptoBulk d + 1
 end
def uptoSmall : (H : Type) → List (DataW H) → Bool := fun _ ds => decide (uptoBulkAll ds ≤ 1048576)
def OpenSpec.upto (s : _root_.Go.ChangeSpec) : _root_.Go.OpenSpec := { _root_.Go.OpenSpec.ofChange s with cond := some uptoSmall }

/-- 'replicalaw21.BioNew', WHERE WHAT IT READS IS OF BULK AT MOST 1048576: true; the input reads as it did. -/
def bioNewUptoRow : OpenClaim := { program := "ythjokefhojlbpaa", sum := "a9e7ae5e5580b484cfa5e0c97ee5d7d454176124b6d96da7981e728ff651b300", func := "replica/replicalaw21.BioNew", spec := "bioNew", apart := false, narrowed := true }
def BioNewUptoSaid : Prop := bioNewUptoRow.holds Try.pinned (OpenSpec.upto bioNewSpec)

/-- 'replicalaw21.BioApart', WHERE WHAT IT READS IS OF BULK AT MOST 1048576: true; the input reads as it did. -/
def bioApartUptoRow : OpenClaim := { program := "ythjokefhojlbpaa", sum := "a9e7ae5e5580b484cfa5e0c97ee5d7d454176124b6d96da7981e728ff651b300", func := "replica/replicalaw21.BioApart", spec := "bioApart", unfollowed := true, recurses := true, apart := false, narrowed := true }
def BioApartUptoSaid : Prop := bioApartUptoRow.holds Try.pinned (OpenSpec.upto bioApartSpec)

/-- 'replicalaw21.BioErrors', WHERE WHAT IT READS IS OF BULK AT MOST 1048576: true; the input reads as it did. -/
def bioErrorsUptoRow : OpenClaim := { program := "ythjokefhojlbpaa", sum := "a9e7ae5e5580b484cfa5e0c97ee5d7d454176124b6d96da7981e728ff651b300", func := "replica/replicalaw21.BioErrors", spec := "bioErrors", unfollowed := true, recurses := true, apart := false, narrowed := true }
def BioErrorsUptoSaid : Prop := bioErrorsUptoRow.holds Try.pinned (OpenSpec.upto bioErrorsSpec)

/-- 'replicalaw21.BioArray', WHERE WHAT IT READS IS OF BULK AT MOST 1048576: true; the input reads as it did. -/
def bioArrayUptoRow : OpenClaim := { program := "ythjokefhojlbpaa", sum := "a9e7ae5e5580b484cfa5e0c97ee5d7d454176124b6d96da7981e728ff651b300", func := "replica/replicalaw21.BioArray", spec := "bioArray", unfollowed := true, recurses := true, apart := false, narrowed := true }
def BioArrayUptoSaid : Prop := bioArrayUptoRow.holds Try.pinned (OpenSpec.upto bioArraySpec)

/-- 'replicalaw21.BioOrder', WHERE WHAT IT READS IS OF BULK AT MOST 1048576: true; the input reads as it did. -/
def bioOrderUptoRow : OpenClaim := { program := "ythjokefhojlbpaa", sum := "a9e7ae5e5580b484cfa5e0c97ee5d7d454176124b6d96da7981e728ff651b300", func := "replica/replicalaw21.BioOrder", spec := "bioOrder", unfollowed := true, recurses := true, apart := false, narrowed := true }
def BioOrderUptoSaid : Prop := bioOrderUptoRow.holds Try.pinned (OpenSpec.upto bioOrderSpec)

/-- 'replicalaw21.BioLost', WHERE WHAT IT READS IS OF BULK AT MOST 1048576: true; the input reads as it did. -/
def bioLostUptoRow : OpenClaim := { program := "ythjokefhojlbpaa", sum := "a9e7ae5e5580b484cfa5e0c97ee5d7d454176124b6d96da7981e728ff651b300", func := "replica/replicalaw21.BioLost", spec := "bioLost", unfollowed := true, recurses := true, apart := false, narrowed := true }
def BioLostUptoSaid : Prop := bioLostUptoRow.holds Try.pinned (OpenSpec.upto bioLostSpec)

end Rows
end Go.Proofs.Ythjokefhojlbpaa
