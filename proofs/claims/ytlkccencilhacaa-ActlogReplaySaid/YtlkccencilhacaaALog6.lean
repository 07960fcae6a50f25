import Derived.Test.YtlkccencilhacaaALog5
namespace Go.Proofs.Ytlkccencilhacaa
open Go.RowKit Go.Sort
set_option linter.unusedVariables false
set_option linter.unusedSimpArgs false
set_option maxRecDepth 20000

theorem ctxWord_any (w : World) (g n cap i : Nat) (hi : i < 4) (hn : 44 ≤ n) (hc : n ≤ cap) (hc2 : cap ≤ maxLen) :
    Calls Try.prog 80 #[.slice (some ⟨g, 0, none⟩) n cap, .int .i64 (i : Int)] w fun e w' => e = .returned (.slice (some ⟨g, 28 + i * 4, none⟩) 4 (cap - (28 + i * 4))) ∧ w' = w := by
  unfold maxLen at hc2
  go_enter Try.func80, Try.ntmps80
  go_wp2_with fail
  go_ret
  refine ⟨?_, rfl⟩
  have e : 28 + i * 4 + 4 - (28 + i * 4) = 4 := by omega
  show Ending.returned (.slice (some ⟨g, 28 + i * 4, none⟩) (28 + i * 4 + 4 - (28 + i * 4)) (cap - (28 + i * 4))) = _
  rw [e]
end Go.Proofs.Ytlkccencilhacaa
