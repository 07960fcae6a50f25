import Derived.Test.YtlpmpicmpklaoacGreatDLaw1
namespace Go.Proofs.YtlpmpicmpklaoacGreat
open Go.RowKit Go.Maps
set_option linter.unusedVariables false
set_option linter.unusedSimpArgs false
set_option maxRecDepth 20000

/-- one call on a disk -/
structure OpV where
  kind : Int
  block : Int
  count : Int
  dv : Value
  dl : List Nat
def OpV.val (o : OpV) : Value := .agg #[.int .i64 o.kind, .int .i64 o.block, .int .i64 o.count, o.dv]
def i64ok (n : Int) : Prop := -9223372036854775808 ≤ n ∧ n ≤ 9223372036854775807
structure OpV.ok (w : World) (L : Lay) (o : OpV) : Prop where
  bs : BSl w o.dv o.dl
  b : i64ok o.block
  c : i64ok o.count
  off : 0 < o.dl.length → ∀ g, blockOf o.dv = some g → ¬ L.U g

def St.call (S : St) (o : OpV) : St :=
  if o.kind = 1 then S.read o.block else if o.kind = 2 then S.write o.block o.dl else if o.kind = 3 then S.through o.block o.dl else if o.kind = 4 then (S.zero o.block o.count).1 else if o.kind = 5 then S.flush
  else if o.kind = 10 then S.spoil o.block else if o.kind = 11 then S.fused o.count else if o.kind = 13 then S.crash o.dl else S

def CallPost (w : World) (L : Lay) (S' : St) (e : Ending) (w' : World) : Prop := e = .returned (.tuple #[]) ∧ ∃ U', Rep w' { L with U := U' } S' ∧ Grow w w' L.U U'
theorem CallPost.mk {w : World} {L : Lay} {S' : St} {w' : World} (U' : Nat → Prop) (h1 : Rep w' { L with U := U' } S') (h2 : Grow w w' L.U U') : CallPost w L S' (.returned (.tuple #[])) w' := ⟨rfl, U', h1, h2⟩
def OpV.box (o : OpV) : Obj := .cells #[.int .i64 o.kind, .int .i64 o.block, .int .i64 o.count, o.dv] 43

end Go.Proofs.YtlpmpicmpklaoacGreat
