import Derived.Test.YtlkccencilhacaaARef2
namespace Go.Proofs.Ytlkccencilhacaa
open Go.RowKit Go.Sort
set_option linter.unusedVariables false
set_option linter.unusedSimpArgs false
set_option maxRecDepth 20000

def RefRes (S : LS) (key : Int) (r : Nat) : Prop := (∃ s : Nat, S.ks[s]? = some key ∧ S.rs[s]? = some r) ∨ (key ∉ S.ks ∧ r = 0)
end Go.Proofs.Ytlkccencilhacaa
