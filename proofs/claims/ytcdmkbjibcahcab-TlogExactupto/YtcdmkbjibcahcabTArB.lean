import Derived.Test.YtcdmkbjibcahcabTOps
import Derived.JoinedCond
import Derived.Deep.CondSized
namespace Go.Proofs.Ytcdmkbjibcahcab
open Go.ChangeShapes Go.WideShapes Go.ChangeAt Go.RowKit
set_option linter.unusedVariables false
set_option linter.unusedSimpArgs false
set_option maxRecDepth 20000

theorem bulk_pos {H : Type} (d : DataW H) : 1 ≤ Rows.uptoBulk d := by
  cases d with
  | lit l => cases l <;> simp [Rows.uptoBulk]
  | _ => simp [Rows.uptoBulk]
theorem bulk_len {H : Type} (l : List (DataW H)) : l.length ≤ Rows.uptoBulkAll l := by
  induction l with
  | nil => exact Nat.zero_le _
  | cons x r ih => have := bulk_pos x; rw [Rows.uptoBulkAll, List.length_cons]; omega
theorem open_opsB {H : Type} {enc : TypeId × Value → H} {W : World} {base : Nat} {v : Value} {d : DataW H} {p : List MemPlace}
    (hok : Value.okWide Try.prog W .any base 22 v) (h1 : DataW.Trod enc Try.prog W 0 (fun _ => true) true 22 v d p) : ∃ os : List OpV, OSl W v os ∧ os.length ≤ Rows.uptoBulk d ∧ ∀ s ∈ os, s.ok := by
  obtain ⟨a1, len1, cap1, rfl⟩ := okWide_slice Try.underlying22 hok
  obtain ⟨fuel, hf⟩ := h1
  rcases Go.Deep.open_slice Try.underlying22 hf with ⟨hcs, _⟩ | ⟨a, len, cap, m, n, D, Pl, hcs, _, hl, hm, hmm, hx, hel⟩
  · simp [Value.cells] at hcs
    obtain ⟨rfl, rfl, rfl⟩ := hcs
    exact ⟨[], ⟨none, 0, rfl, Nat.le_refl _, by unfold maxLen; omega, by simp⟩, Nat.zero_le _, by simp⟩
  · simp [Value.cells] at hcs
    obtain ⟨rfl, rfl, rfl⟩ := hcs
    simp only [if_true] at hmm
    subst hmm
    have each : ∀ i, i < len1 → ∃ s : OpV, s.ok ∧ (W.cell? (a.add (i * 4)) = some (.int .i64 s.kind) ∧ W.cell? (a.add (i * 4 + 1)) = some (.int .i64 s.of)) ∧ W.cell? (a.add (i * 4 + 2)) = some (.int .i64 s.a) ∧ W.cell? (a.add (i * 4 + 3)) = some (.int .i64 s.b) := by
      intro i hi
      obtain ⟨cs', h1, h2⟩ := hel i (by omega)
      rw [cellsOp] at h1
      obtain ⟨_, hlen, hcell⟩ := World.cells?_some h1
      obtain ⟨xs, k, hk, hxy, _, hxl, hfd⟩ := DataW.trod_struct Try.underlying34 h2
      match xs, hxl, cs', hlen with
      | [y0, y1, y2, y3], _, [v0, v1, v2, v3], _ =>
        have g0 := hfd 0 _ rfl
        have g1 := hfd 1 _ rfl
        have g2 := hfd 2 _ rfl
        have g3 := hfd 3 _ rfl
        simp [cellsI] at g0 g1 g2 g3
        have e0 := hcell 0 (by omega)
        have e1 := hcell 1 (by omega)
        have e2 := hcell 2 (by omega)
        have e3 := hcell 3 (by omega)
        rw [Go.Deep.add_add] at e0 e1 e2 e3
        obtain ⟨z0, hz0, _, wf0⟩ := DataW.trod_int Try.underlying3 g0
        obtain ⟨z1, hz1, _, wf1⟩ := DataW.trod_int Try.underlying3 g1
        obtain ⟨z2, hz2, _, wf2⟩ := DataW.trod_int Try.underlying3 g2
        obtain ⟨z3, hz3, _, wf3⟩ := DataW.trod_int Try.underlying3 g3
        simp at hz0 hz1 hz2 hz3
        subst hz0
        subst hz1
        subst hz2
        subst hz3
        exact ⟨⟨z0, z1, z2, z3⟩, ⟨ok_wf wf0, ok_wf wf1, ok_wf wf2, ok_wf wf3⟩, ⟨by simpa using e0, by simpa using e1⟩, by simpa using e2, by simpa using e3⟩
    obtain ⟨f, hfa⟩ := Go.Deep.choose_lt each
    have hd : Rows.uptoBulkAll ((List.range len1).map D) + 1 ≤ Rows.uptoBulk d := by
      simp only [Prod.mk.injEq] at hx
      rw [hx.1, Rows.uptoBulk]; omega
    have hlen1 := bulk_len ((List.range len1).map D)
    simp only [List.length_map, List.length_range] at hlen1
    refine ⟨(List.range len1).map f, ⟨some a, m, by simp, by simpa using hl, hm, ?_⟩, by simp; omega, by
      intro s hs
      obtain ⟨i, hi, rfl⟩ := List.mem_map.1 hs
      exact (hfa i (List.mem_range.1 hi)).1⟩
    intro hpos
    simp only [List.length_map, List.length_range] at hpos
    obtain ⟨b, off, spot⟩ := a
    have hspot : spot = none := by simpa [Addr.add] using World.cell?_spot (hfa 0 hpos).2.1.1
    subst hspot
    refine ⟨b, off, rfl, fun i hi => ?_⟩
    simp only [List.length_map, List.length_range] at hi
    have h := (hfa i hi).2
    simp only [List.getElem_map, List.getElem_range]
    refine ⟨⟨?_, ?_⟩, ?_, ?_⟩
    · rw [← Addr.add_lit]; exact h.1.1
    · rw [Nat.add_assoc, ← Addr.add_lit]; exact h.1.2
    · rw [Nat.add_assoc, ← Addr.add_lit]; exact h.2.1
    · rw [Nat.add_assoc, ← Addr.add_lit]; exact h.2.2
end Go.Proofs.Ytcdmkbjibcahcab
