import Derived.Test.YtglajdmkbckjjabDoorBLevels
namespace Go.Proofs.YtglajdmkbckjjabDoor
open Go.RowKit Go.Shelf
set_option linter.unusedVariables false
set_option linter.unusedSimpArgs false
set_option maxRecDepth 20000

theorem WSl.parts {w : World} {v : Value} {l : List Nat} (h : WSl w v l) (h0 : 0 < l.length) : ∃ b off cap, v = .slice (some ⟨b, off, none⟩) l.length cap ∧ l.length ≤ cap ∧ cap ≤ 9223372036854775807 ∧ ∀ i, i < l.length → w.cell? ⟨b, off + i, none⟩ = some (.int .u64 (l.getD i 0 : Nat)) := by
  obtain ⟨a, cap, rfl, h1, h2, h3, h4, h5⟩ := h
  obtain ⟨b, off, rfl, hc⟩ := h5 h0
  exact ⟨b, off, cap, rfl, h1, by unfold maxLen at h2; omega, hc⟩

end Go.Proofs.YtglajdmkbckjjabDoor
