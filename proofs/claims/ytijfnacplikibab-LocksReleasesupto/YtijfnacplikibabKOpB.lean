import Derived.Test.YtijfnacplikibabKOps
import Derived.JoinedCond
import Derived.Deep.CondSized
namespace Go.Proofs.Ytijfnacplikibab
open Go.ChangeShapes Go.WideShapes Go.ChangeAt Go.RowKit
set_option linter.unusedVariables false
set_option linter.unusedSimpArgs false
set_option maxRecDepth 20000

theorem bulk_pos {H : Type} (d : DataW H) : 1 ≤ Rows.uptoBulk d := by
  cases d with
  | lit l => cases l <;> simp [Rows.uptoBulk]
  | _ => simp [Rows.uptoBulk]
theorem bulk_len {H : Type} (l : List (DataW H)) : l.length ≤ Rows.uptoBulkAll l := by
  induction l with
  | nil => exact Nat.zero_le _
  | cons x r ih => have := bulk_pos x; rw [Rows.uptoBulkAll, List.length_cons]; omega
theorem open_opsB {H : Type} {enc : TypeId × Value → H} {W : World} {base : Nat} {v : Value} {d : DataW H} {p : List MemPlace}
    (hok : Value.okWide Try.prog W .any base 24 v) (h1 : DataW.Trod enc Try.prog W 0 (fun _ => true) true 24 v d p) : ∃ os : List OpV, OSl W v os ∧ os.length ≤ Rows.uptoBulk d := by
  obtain ⟨a1, len1, cap1, rfl⟩ := okWide_slice Try.underlying24 hok
  obtain ⟨fuel, hf⟩ := h1
  rcases Go.Deep.open_slice Try.underlying24 hf with ⟨hcs, _⟩ | ⟨a, len, cap, m, n, D, Pl, hcs, _, hl, hm, hmm, hx, hel⟩
  · simp [Value.cells] at hcs
    obtain ⟨rfl, rfl, rfl⟩ := hcs
    exact ⟨[], ⟨none, 0, rfl, Nat.le_refl _, by unfold maxLen; omega, by simp⟩, Nat.zero_le _⟩
  · simp [Value.cells] at hcs
    obtain ⟨rfl, rfl, rfl⟩ := hcs
    simp only [if_true] at hmm
    subst hmm
    have each : ∀ i, i < len1 → ∃ s : OpV, (W.cell? (a.add (i * 5)) = some (.int .i64 s.kind) ∧ W.cell? (a.add (i * 5 + 1)) = some (.bool s.snd)) ∧ W.cell? (a.add (i * 5 + 2)) = some (.int .i64 s.ext) ∧ W.cell? (a.add (i * 5 + 3)) = some (.int .i64 s.mode) ∧ W.cell? (a.add (i * 5 + 4)) = some (.int .i64 s.owner) := by
      intro i hi
      obtain ⟨cs', h1, h2⟩ := hel i (by omega)
      rw [cellsOp] at h1
      obtain ⟨_, hlen, hcell⟩ := World.cells?_some h1
      obtain ⟨xs, k, hk, hxy, _, hxl, hfd⟩ := DataW.trod_struct Try.underlying36 h2
      match xs, hxl, cs', hlen with
      | [y0, y1, y2, y3, y4], _, [v0, v1, v2, v3, v4], _ =>
        have g0 := hfd 0 _ rfl
        have g1 := hfd 1 _ rfl
        have g2 := hfd 2 _ rfl
        have g3 := hfd 3 _ rfl
        have g4 := hfd 4 _ rfl
        simp [cellsI, cellsB] at g0 g1 g2 g3 g4
        have e0 := hcell 0 (by omega)
        have e1 := hcell 1 (by omega)
        have e2 := hcell 2 (by omega)
        have e3 := hcell 3 (by omega)
        have e4 := hcell 4 (by omega)
        rw [Go.Deep.add_add] at e0 e1 e2 e3 e4
        obtain ⟨z0, hz0, _, wf0⟩ := DataW.trod_int Try.underlying3 g0
        obtain ⟨z1, hz1, _⟩ := DataW.trod_bool Try.underlying4 g1
        obtain ⟨z2, hz2, _, wf2⟩ := DataW.trod_int Try.underlying3 g2
        obtain ⟨z3, hz3, _, wf3⟩ := DataW.trod_int Try.underlying3 g3
        obtain ⟨z4, hz4, _, wf4⟩ := DataW.trod_int Try.underlying3 g4
        simp at hz0 hz1 hz2 hz3 hz4
        subst hz0
        subst hz1
        subst hz2
        subst hz3
        subst hz4
        exact ⟨⟨z0, z1, z2, z3, z4⟩, ⟨by simpa using e0, by simpa using e1⟩, by simpa using e2, by simpa using e3, by simpa using e4⟩
    obtain ⟨f, hfa⟩ := Go.Deep.choose_lt each
    have hd : Rows.uptoBulkAll ((List.range len1).map D) + 1 ≤ Rows.uptoBulk d := by
      simp only [Prod.mk.injEq] at hx
      rw [hx.1, Rows.uptoBulk]; omega
    have hlen1 := bulk_len ((List.range len1).map D)
    simp only [List.length_map, List.length_range] at hlen1
    refine ⟨(List.range len1).map f, ⟨some a, m, by simp, by simpa using hl, hm, ?_⟩, by simp; omega⟩
    intro hpos
    simp only [List.length_map, List.length_range] at hpos
    obtain ⟨b, off, spot⟩ := a
    have hspot : spot = none := by simpa [Addr.add] using World.cell?_spot (hfa 0 hpos).1.1
    subst hspot
    refine ⟨b, off, rfl, fun i hi => ?_⟩
    simp only [List.length_map, List.length_range] at hi
    have h := hfa i hi
    simp only [List.getElem_map, List.getElem_range]
    refine ⟨⟨?_, ?_⟩, ?_, ?_, ?_⟩
    · rw [← Addr.add_lit]; exact h.1.1
    · rw [Nat.add_assoc, ← Addr.add_lit]; exact h.1.2
    · rw [Nat.add_assoc, ← Addr.add_lit]; exact h.2.1
    · rw [Nat.add_assoc, ← Addr.add_lit]; exact h.2.2.1
    · rw [Nat.add_assoc, ← Addr.add_lit]; exact h.2.2.2
end Go.Proofs.Ytijfnacplikibab
