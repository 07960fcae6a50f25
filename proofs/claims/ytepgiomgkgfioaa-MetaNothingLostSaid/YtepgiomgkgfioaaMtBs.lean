import Derived.Test.YtepgiomgkgfioaaMtBx
namespace Go.Proofs.Ytepgiomgkgfioaa
open Go.RowKit
open Num
set_option linter.unusedVariables false
set_option linter.unusedSimpArgs false
set_option maxRecDepth 20000

theorem WRow.usl {w : World} {U L : Nat} {ws : List Nat} (h : WRow w U ws) (hL : ws.length = L) (hb : ∀ i, i < ws.length → ws.getD i 0 < 18446744073709551616) (hm : L ≤ 8388608) : USl w (.slice (some ⟨U, 0, none⟩) L L) ws := by
  refine ⟨some ⟨U, 0, none⟩, L, by rw [hL], by omega, by unfold maxLen; omega, fun x hx => ?_, fun _ => ⟨U, 0, rfl, (Array.getElem?_eq_some_iff.1 h).1, fun i hi => by rw [Nat.zero_add]; exact (h.cell hi).1⟩⟩
  obtain ⟨i, hi, rfl⟩ := List.mem_iff_getElem.1 hx
  have := hb i hi
  simpa [List.getD, hi] using this
end Go.Proofs.Ytepgiomgkgfioaa
