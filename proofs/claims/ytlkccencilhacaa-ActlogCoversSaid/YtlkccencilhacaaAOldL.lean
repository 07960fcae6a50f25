import Derived.Test.YtlkccencilhacaaAOld
namespace Go.Proofs.Ytlkccencilhacaa
open Go.RowKit Go.Sort
set_option linter.unusedVariables false
set_option linter.unusedSimpArgs false
set_option maxRecDepth 20000

/-- a list of ints that came in -/
def ISl (w : World) (v : Value) (zs : List Int) : Prop :=
  ∃ a cap, v = .slice a zs.length cap ∧ zs.length ≤ cap ∧ cap ≤ maxLen ∧ (∀ z ∈ zs, i64ok z) ∧ (0 < zs.length → ∃ b off, a = some ⟨b, off, none⟩ ∧ ∀ i, i < zs.length → w.cell? ⟨b, off + i, none⟩ = some (.int .i64 (zs.getD i 0)))
theorem ptrI (W : World) : (binOp .eql 104 (.pointer none) (.pointer none)).run Try.prog W = .ok (.bool true) W := by kernel_rfl
theorem ptrI' (W : World) (a : Addr) : (binOp .eql 104 (.pointer (some a)) (.pointer none)).run Try.prog W = .ok (.bool false) W := by kernel_rfl
end Go.Proofs.Ytlkccencilhacaa
