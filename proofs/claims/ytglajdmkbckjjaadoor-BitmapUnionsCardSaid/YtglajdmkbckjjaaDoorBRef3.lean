import Derived.Test.YtglajdmkbckjjaaDoorBRef2
namespace Go.Proofs.YtglajdmkbckjjaaDoor
open Go.RowKit Go.Shelf
set_option linter.unusedVariables false
set_option linter.unusedSimpArgs false
set_option maxRecDepth 20000

theorem cnt_succ (f : Nat → Bool) (k : Nat) : cnt f (k + 1) = cnt f k + (f k).toNat := rfl
end Go.Proofs.YtglajdmkbckjjaaDoor
