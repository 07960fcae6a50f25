/-
  No cell of these rows narrows 'for every input' (looked for: loops, veiled, ifaces, maps, wideKeys, modest, calm, conditions, laid).
  DERIVED. THE GIVEN ROWS OF THIS SEAT. 6 by the template 'for every input the law returns true; each argument reads behind the call as it read before'; 0 by the template 'total and deterministic' (their statements: YtafjldmfghokaaaTotals.lean).
  GIVEN WITH THE SEED: the statements are not yours to turn. If you find one false, say at which input.
  Laid BY PROGRAM, IN A SANDBOX (cutbox-rows.mjs): the forced cells as the released guide's own fill.sh prints them over the translation 888759a294f201f6… (all of the seat's roots in one cut). By AI agents, Wed Nov 11 2026. No macro, syntax, notation, axiom, sorry.
-/
import Derived.Test.YtafjldmfghokaaaChecked
import GoSem.Claim
import GoSem.ClaimJoined
import GoSem.ClaimMapViews
import Derived.JoinedTies
import Derived.KernelRfl
namespace Go.Proofs.Ytafjldmfghokaaa
/- THE CELL 'sum', in the pinned program and in every row, IS THE sha256 OF THE DUMP (.gsa) THAT YtafjldmfghokaaaProg.lean LOADS. Nothing in Lean hashes anything: it is a label: what it is worth is what the hold of that sum in a sandbox is worth. -/
noncomputable def Try.pinned : Pinned := { name := "ytafjldmfghokaaa", sum := "888759a294f201f65e2c782cbbebfbca794e74b4fe69ddf5132752e11116be5c", checked := Try.checked }
namespace Rows
def none {H : Type} : Left H := { results := [], args := [] }

/-- 'replicalaw04.ActlogRing': WHATEVER THE INPUT: true; the input reads as it did. -/
def actlogRingSpec : ChangeSpec := { name := "actlogRing", fn := fun _ => fun
  | [d] => { results := [.lit (.bool true)], args := [d] }
  | _ => none }
def actlogRingRow : OpenClaim := { program := "ytafjldmfghokaaa", sum := "888759a294f201f65e2c782cbbebfbca794e74b4fe69ddf5132752e11116be5c", func := "replica/replicalaw04.ActlogRing", spec := "actlogRing", plainKeys := false, apart := false }
def ActlogRingSaid : Prop := actlogRingRow.holds Try.pinned (OpenSpec.ofChange actlogRingSpec)

/-- ITS FALSE NEIGHBOUR: 'it returns false'. Refute it at one input. -/
def actlogRingWrong : ChangeSpec := { name := "actlogRing", fn := fun _ => fun
  | [d] => { results := [.lit (.bool false)], args := [d] }
  | _ => none }
def ActlogRingWrongFalsely : Prop := actlogRingRow.holds Try.pinned (OpenSpec.ofChange actlogRingWrong)

/-- 'replicalaw04.ActlogOldest': WHATEVER THE INPUT: true; the input reads as it did. -/
def actlogOldestSpec : ChangeSpec := { name := "actlogOldest", fn := fun _ => fun
  | [d1, d2] => { results := [.lit (.bool true)], args := [d1, d2] }
  | _ => none }
def actlogOldestRow : OpenClaim := { program := "ytafjldmfghokaaa", sum := "888759a294f201f65e2c782cbbebfbca794e74b4fe69ddf5132752e11116be5c", func := "replica/replicalaw04.ActlogOldest", spec := "actlogOldest", plainKeys := false, apart := false }
def ActlogOldestSaid : Prop := actlogOldestRow.holds Try.pinned (OpenSpec.ofChange actlogOldestSpec)

/-- ITS FALSE NEIGHBOUR: 'it returns false'. Refute it at one input. -/
def actlogOldestWrong : ChangeSpec := { name := "actlogOldest", fn := fun _ => fun
  | [d1, d2] => { results := [.lit (.bool false)], args := [d1, d2] }
  | _ => none }
def ActlogOldestWrongFalsely : Prop := actlogOldestRow.holds Try.pinned (OpenSpec.ofChange actlogOldestWrong)

/-- 'replicalaw04.ActlogLru': WHATEVER THE INPUT: true; the input reads as it did. -/
def actlogLruSpec : ChangeSpec := { name := "actlogLru", fn := fun _ => fun
  | [d1, d2] => { results := [.lit (.bool true)], args := [d1, d2] }
  | _ => none }
def actlogLruRow : OpenClaim := { program := "ytafjldmfghokaaa", sum := "888759a294f201f65e2c782cbbebfbca794e74b4fe69ddf5132752e11116be5c", func := "replica/replicalaw04.ActlogLru", spec := "actlogLru", plainKeys := false, apart := false }
def ActlogLruSaid : Prop := actlogLruRow.holds Try.pinned (OpenSpec.ofChange actlogLruSpec)

/-- ITS FALSE NEIGHBOUR: 'it returns false'. Refute it at one input. -/
def actlogLruWrong : ChangeSpec := { name := "actlogLru", fn := fun _ => fun
  | [d1, d2] => { results := [.lit (.bool false)], args := [d1, d2] }
  | _ => none }
def ActlogLruWrongFalsely : Prop := actlogLruRow.holds Try.pinned (OpenSpec.ofChange actlogLruWrong)

/-- 'replicalaw04.ActlogKinds': WHATEVER THE INPUT: true; the input reads as it did. -/
def actlogKindsSpec : ChangeSpec := { name := "actlogKinds", fn := fun _ => fun
  | [d1, d2, d3] => { results := [.lit (.bool true)], args := [d1, d2, d3] }
  | _ => none }
def actlogKindsRow : OpenClaim := { program := "ytafjldmfghokaaa", sum := "888759a294f201f65e2c782cbbebfbca794e74b4fe69ddf5132752e11116be5c", func := "replica/replicalaw04.ActlogKinds", spec := "actlogKinds", plainKeys := false, apart := false }
def ActlogKindsSaid : Prop := actlogKindsRow.holds Try.pinned (OpenSpec.ofChange actlogKindsSpec)

/-- ITS FALSE NEIGHBOUR: 'it returns false'. Refute it at one input. -/
def actlogKindsWrong : ChangeSpec := { name := "actlogKinds", fn := fun _ => fun
  | [d1, d2, d3] => { results := [.lit (.bool false)], args := [d1, d2, d3] }
  | _ => none }
def ActlogKindsWrongFalsely : Prop := actlogKindsRow.holds Try.pinned (OpenSpec.ofChange actlogKindsWrong)

/-- 'replicalaw04.ActlogReplay': WHATEVER THE INPUT: true; the input reads as it did. -/
def actlogReplaySpec : ChangeSpec := { name := "actlogReplay", fn := fun _ => fun
  | [d1, d2, d3] => { results := [.lit (.bool true)], args := [d1, d2, d3] }
  | _ => none }
def actlogReplayRow : OpenClaim := { program := "ytafjldmfghokaaa", sum := "888759a294f201f65e2c782cbbebfbca794e74b4fe69ddf5132752e11116be5c", func := "replica/replicalaw04.ActlogReplay", spec := "actlogReplay", plainKeys := false, apart := false }
def ActlogReplaySaid : Prop := actlogReplayRow.holds Try.pinned (OpenSpec.ofChange actlogReplaySpec)

/-- ITS FALSE NEIGHBOUR: 'it returns false'. Refute it at one input. -/
def actlogReplayWrong : ChangeSpec := { name := "actlogReplay", fn := fun _ => fun
  | [d1, d2, d3] => { results := [.lit (.bool false)], args := [d1, d2, d3] }
  | _ => none }
def ActlogReplayWrongFalsely : Prop := actlogReplayRow.holds Try.pinned (OpenSpec.ofChange actlogReplayWrong)

/-- 'replicalaw04.ActlogKeeps': WHATEVER THE INPUT: true; the input reads as it did. -/
def actlogKeepsSpec : ChangeSpec := { name := "actlogKeeps", fn := fun _ => fun
  | [d1, d2] => { results := [.lit (.bool true)], args := [d1, d2] }
  | _ => none }
def actlogKeepsRow : OpenClaim := { program := "ytafjldmfghokaaa", sum := "888759a294f201f65e2c782cbbebfbca794e74b4fe69ddf5132752e11116be5c", func := "replica/replicalaw04.ActlogKeeps", spec := "actlogKeeps", recurses := true, plainKeys := false, apart := false }
def ActlogKeepsSaid : Prop := actlogKeepsRow.holds Try.pinned (OpenSpec.ofChange actlogKeepsSpec)

/-- ITS FALSE NEIGHBOUR: 'it returns false'. Refute it at one input. -/
def actlogKeepsWrong : ChangeSpec := { name := "actlogKeeps", fn := fun _ => fun
  | [d1, d2] => { results := [.lit (.bool false)], args := [d1, d2] }
  | _ => none }
def ActlogKeepsWrongFalsely : Prop := actlogKeepsRow.holds Try.pinned (OpenSpec.ofChange actlogKeepsWrong)

/- THE SECOND FORM. 'bulk': how many values and letters a reading holds, each counted each time it is reached (what is shared counts as often as it is met; a slice's spare places count too). A statement '..UptoSaid' is the law's where the arguments, and the package variables that the reading takes, are together of bulk at most 1048576: NARROWER than '..Said'. Prove '..Said' where nothing that the law and all that it calls make is longer than what came in: it says more and counts as full. Else prove '..UptoSaid'. A law counts once. -/
mutual
def uptoBulk {H : Type} : DataW H → Nat
  | .lit (.string bytes) => bytes.length + 1
  | .lit _ => 1
  | .nil => 1
  | .ptr d => uptoBulk d + 1
  | .slice elems spare => uptoBulkAll elems + uptoBulkAll spare + 1
  | .agg parts => uptoBulkAll parts + 1
  | .iface _ d => uptoBulk d + 1
  | .map entries => uptoBulkEntries entries + 1
  | .held _ => 1
def uptoBulkAll {H : Type} : List (DataW H) → Nat
  | [] => 0
  | d :: r => uptoBulk d + uptoBulkAll r
def uptoBulkEntries {H : Type} : List (Lit × DataW H) → Nat
  | [] => 0
  | x :: r => uptoBulkEntry x + uptoBulkEntries r
def uptoBulkEntry {H : Type} : Lit × DataW H → Nat
  | (.string bytes, d) => bytes.length + uptoBulk d + 1
  | (_, d) => uptoBulk d + 1
 end
def uptoSmall : (H : Type) → List (DataW H) → Bool := fun _ ds => decide (uptoBulkAll ds ≤ 1048576)
def OpenSpec.upto (s : _root_.Go.ChangeSpec) : _root_.Go.OpenSpec := { _root_.Go.OpenSpec.ofChange s with cond := some uptoSmall }

/-- 'replicalaw04.ActlogRing', WHERE WHAT IT READS IS OF BULK AT MOST 1048576: true; the input reads as it did. -/
def actlogRingUptoRow : OpenClaim := { program := "ytafjldmfghokaaa", sum := "888759a294f201f65e2c782cbbebfbca794e74b4fe69ddf5132752e11116be5c", func := "replica/replicalaw04.ActlogRing", spec := "actlogRing", plainKeys := false, apart := false, narrowed := true }
def ActlogRingUptoSaid : Prop := actlogRingUptoRow.holds Try.pinned (OpenSpec.upto actlogRingSpec)

/-- 'replicalaw04.ActlogOldest', WHERE WHAT IT READS IS OF BULK AT MOST 1048576: true; the input reads as it did. -/
def actlogOldestUptoRow : OpenClaim := { program := "ytafjldmfghokaaa", sum := "888759a294f201f65e2c782cbbebfbca794e74b4fe69ddf5132752e11116be5c", func := "replica/replicalaw04.ActlogOldest", spec := "actlogOldest", plainKeys := false, apart := false, narrowed := true }
def ActlogOldestUptoSaid : Prop := actlogOldestUptoRow.holds Try.pinned (OpenSpec.upto actlogOldestSpec)

/-- 'replicalaw04.ActlogLru', WHERE WHAT IT READS IS OF BULK AT MOST 1048576: true; the input reads as it did. -/
def actlogLruUptoRow : OpenClaim := { program := "ytafjldmfghokaaa", sum := "888759a294f201f65e2c782cbbebfbca794e74b4fe69ddf5132752e11116be5c", func := "replica/replicalaw04.ActlogLru", spec := "actlogLru", plainKeys := false, apart := false, narrowed := true }
def ActlogLruUptoSaid : Prop := actlogLruUptoRow.holds Try.pinned (OpenSpec.upto actlogLruSpec)

/-- 'replicalaw04.ActlogKinds', WHERE WHAT IT READS IS OF BULK AT MOST 1048576: true; the input reads as it did. -/
def actlogKindsUptoRow : OpenClaim := { program := "ytafjldmfghokaaa", sum := "888759a294f201f65e2c782cbbebfbca794e74b4fe69ddf5132752e11116be5c", func := "replica/replicalaw04.ActlogKinds", spec := "actlogKinds", plainKeys := false, apart := false, narrowed := true }
def ActlogKindsUptoSaid : Prop := actlogKindsUptoRow.holds Try.pinned (OpenSpec.upto actlogKindsSpec)

/-- 'replicalaw04.ActlogReplay', WHERE WHAT IT READS IS OF BULK AT MOST 1048576: true; the input reads as it did. -/
def actlogReplayUptoRow : OpenClaim := { program := "ytafjldmfghokaaa", sum := "888759a294f201f65e2c782cbbebfbca794e74b4fe69ddf5132752e11116be5c", func := "replica/replicalaw04.ActlogReplay", spec := "actlogReplay", plainKeys := false, apart := false, narrowed := true }
def ActlogReplayUptoSaid : Prop := actlogReplayUptoRow.holds Try.pinned (OpenSpec.upto actlogReplaySpec)

/-- 'replicalaw04.ActlogKeeps', WHERE WHAT IT READS IS OF BULK AT MOST 1048576: true; the input reads as it did. -/
def actlogKeepsUptoRow : OpenClaim := { program := "ytafjldmfghokaaa", sum := "888759a294f201f65e2c782cbbebfbca794e74b4fe69ddf5132752e11116be5c", func := "replica/replicalaw04.ActlogKeeps", spec := "actlogKeeps", recurses := true, plainKeys := false, apart := false, narrowed := true }
def ActlogKeepsUptoSaid : Prop := actlogKeepsUptoRow.holds Try.pinned (OpenSpec.upto actlogKeepsSpec)

end Rows
end Go.Proofs.Ytafjldmfghokaaa
