import Derived.Test.YtepgiomgkgfioaaMtHw2
namespace Go.Proofs.Ytepgiomgkgfioaa
open Go.RowKit
open Num
set_option linter.unusedVariables false
set_option linter.unusedSimpArgs false
set_option maxRecDepth 20000

theorem nilWordsEq (a : Option Addr) (n c : Nat) (W : World) : (binOp .eql 31 (.slice a n c) (.slice none 0 0)).run Try.prog W = .ok (.bool a.isNone) W := by
  have := Lib.run_eql_slice_nil (P := Try.prog) W 31 57 a n c 0 0 Try.underlying31
  exact this
theorem USl.part {w : World} {g : Nat} {l m : List Nat} (h : WRow w g (l ++ m)) (hb : ∀ x ∈ l, x < 18446744073709551616) (hl : l.length + m.length ≤ 17592186044422) : USl w (.slice (some ⟨g, 0, none⟩) l.length (l.length + m.length)) l := by
  refine ⟨some ⟨g, 0, none⟩, l.length + m.length, rfl, by omega, by unfold maxLen; omega, hb, fun _ => ⟨g, 0, rfl, heap_lt h, fun i hi => ?_⟩⟩
  rw [Nat.zero_add, (h.cell (i := i) (by simp; omega)).1]
  simp [List.getD, List.getElem?_append_left hi]
end Go.Proofs.Ytepgiomgkgfioaa
