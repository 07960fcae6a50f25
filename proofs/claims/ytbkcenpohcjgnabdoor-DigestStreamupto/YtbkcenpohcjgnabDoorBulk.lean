import Derived.Test.YtbkcenpohcjgnabDoorArgs
namespace Go.Proofs.YtbkcenpohcjgnabDoor
open Go.ChangeShapes Go.WideShapes Go.ChangeAt Go.RowKit
set_option linter.unusedVariables false

theorem bulk_pos {H : Type} (d : DataW H) : 1 ≤ Rows.uptoBulk d := by
  cases d with
  | lit l => cases l <;> simp [Rows.uptoBulk]
  | _ => simp [Rows.uptoBulk]
theorem bulk_len {H : Type} (l : List (DataW H)) : l.length ≤ Rows.uptoBulkAll l := by
  induction l with
  | nil => exact Nat.zero_le _
  | cons x r ih => have := bulk_pos x; rw [Rows.uptoBulkAll, List.length_cons]; omega
/-- a list of bytes is no longer than its bulk -/
theorem bulk_bytes {H : Type} {enc : TypeId × Value → H} {W : World} {v : Value} {l : List Nat} {d : DataW H} {p : List MemPlace} (hb : BSl W v l) (h1 : DataW.Trod enc Tryd.prog W 0 (fun _ => true) true 22 v d p) : l.length ≤ Rows.uptoBulk d := by
  obtain ⟨a, cap, rfl, _⟩ := hb
  obtain ⟨fuel, hf⟩ := h1
  rcases open_ints Tryd.underlying22 Tryd.underlying5 (by kernel_rfl) hf with ⟨hcs, _⟩ | ⟨x, n, c, zs, hcs, _, hl, hm, hz, hx, hcell, hwz⟩
  · simp [Value.cells] at hcs
    omega
  · simp [Value.cells] at hcs
    obtain ⟨rfl, rfl, rfl⟩ := hcs
    simp only [Prod.mk.injEq] at hx
    obtain ⟨rfl, _⟩ := hx
    have h2 := bulk_len (lits (H := H) .u8 (zs.take l.length))
    simp only [if_true] at hz
    simp only [lits, List.length_map, List.length_take] at h2
    rw [Rows.uptoBulk]
    simp only [lits] at *
    omega
end Go.Proofs.YtbkcenpohcjgnabDoor
