import Derived.Test.YtbkcenpohcjgnabDoorStreamLaw
import Derived.Test.YtbkcenpohcjgnabDoorBulk
import Derived.Deep.Slices
import Derived.ChangeSame
namespace Go.Proofs.YtbkcenpohcjgnabDoor
open Go.ChangeShapes Go.WideShapes Go.ChangeAt Go.RowKit
set_option linter.unusedVariables false
set_option linter.unusedSimpArgs false

theorem Tryd.cells49 : Tryd.prog.cellsOf 49 = 3 := by kernel_rfl
theorem Tryd.cells3 : Tryd.prog.cellsOf 3 = 1 := by kernel_rfl
theorem Tryd.cells22 : Tryd.prog.cellsOf 22 = 1 := by kernel_rfl

theorem bulk_sum {H : Type} {D : Nat → DataW H} {g : Nat → Nat} : ∀ {l : List Nat}, (∀ i ∈ l, g i ≤ Rows.uptoBulk (D i)) → (l.map g).sum ≤ Rows.uptoBulkAll (l.map D)
  | [], _ => by simp [Rows.uptoBulkAll]
  | i :: r, h => by
    have h1 := h i List.mem_cons_self
    have h2 := bulk_sum (l := r) fun j hj => h j (List.mem_cons_of_mem _ hj)
    simp only [List.map_cons, List.sum_cons, Rows.uptoBulkAll]
    omega

/-- the third field, as bytes -/
theorem open_field {H : Type} {enc : TypeId × Value → H} {W : World} {n : Nat} {v : Value} {y : DataW H × List MemPlace} (h : DataW.trod enc Tryd.prog W 0 (fun _ => true) true n 22 [v] = some y) : ∃ l : List Nat, BSl W v l ∧ l.length ≤ Rows.uptoBulk y.1 := by
  rcases open_ints Tryd.underlying22 Tryd.underlying5 (by kernel_rfl) h with ⟨hcs, hy⟩ | ⟨x, len, cap, zs, hcs, _, hl, hm, hz, hx, hcell, hwz⟩
  · simp at hcs
    subst hcs
    exact ⟨[], ⟨none, 0, rfl, Nat.le_refl _, by unfold maxLen; omega, fun _ => rfl, by simp, by simp⟩, Nat.zero_le _⟩
  · simp at hcs
    subst hcs
    simp only [if_true] at hz
    obtain ⟨l, hll, hb⟩ := bsl_of_row (.inr ⟨_, rfl, hl, hm, hz, hcell, hwz⟩)
    have hy1 : y.1 = .slice (lits .u8 (zs.take len)) (lits .u8 (zs.drop len)) := by rw [hx]
    refine ⟨l, hb, ?_⟩
    rw [hy1, Rows.uptoBulk]
    have h2 := bulk_len (lits (H := H) .u8 (zs.take len))
    simp only [lits, List.length_map, List.length_take] at h2 ⊢
    omega

theorem open_steps {H : Type} {enc : TypeId × Value → H} {W : World} {base : Nat} {v : Value} {d : DataW H} {p : List MemPlace}
    (hok : Value.okWide Tryd.prog W .any base 45 v) (h1 : DataW.Trod enc Tryd.prog W 0 (fun _ => true) true 45 v d p) : ∃ ss : List Stp, SSl W v ss ∧ ss.length ≤ Rows.uptoBulk d ∧ (ss.map (fun s => s.p.length)).sum ≤ Rows.uptoBulk d := by
  obtain ⟨a1, len1, cap1, rfl⟩ := okWide_slice Tryd.underlying45 hok
  obtain ⟨fuel, hf⟩ := h1
  rcases Go.Deep.open_slice Tryd.underlying45 hf with ⟨hcs, _⟩ | ⟨a, len, cap, m, n, D, Pl, hcs, _, hl, hm, hmm, hx, hel⟩
  · simp [Value.cells] at hcs
    obtain ⟨rfl, rfl, rfl⟩ := hcs
    exact ⟨[], ⟨none, 0, rfl, Nat.le_refl _, by unfold maxLen; omega, by simp, by simp⟩, Nat.zero_le _, Nat.zero_le _⟩
  · simp [Value.cells] at hcs
    obtain ⟨rfl, rfl, rfl⟩ := hcs
    simp only [if_true] at hmm
    subst hmm
    have each : ∀ i, i < len1 → ∃ s : Stp, i64ok s.kind ∧ i64ok s.of ∧ BSl W s.pv s.p ∧ W.cell? (a.add (i * 3)) = some (.int .i64 s.kind) ∧ W.cell? (a.add (i * 3 + 1)) = some (.int .i64 s.of) ∧ W.cell? (a.add (i * 3 + 2)) = some s.pv ∧ s.p.length ≤ Rows.uptoBulk (D i) := by
      intro i hi
      obtain ⟨cs', h1, h2⟩ := hel i (by omega)
      rw [Tryd.cells49] at h1
      obtain ⟨_, hlen, hcell⟩ := World.cells?_some h1
      obtain ⟨xs, k, hk, hxy, _, hxl, hfd⟩ := DataW.trod_struct Tryd.underlying49 h2
      match xs, hxl, cs', hlen with
      | [y0, y1, y2], _, [v0, v1, v2], _ =>
        have g0 := hfd 0 _ rfl
        have g1 := hfd 1 _ rfl
        have g2 := hfd 2 _ rfl
        simp [Tryd.cells3, Tryd.cells22] at g0 g1 g2
        have e0 := hcell 0 (by omega)
        have e1 := hcell 1 (by omega)
        have e2 := hcell 2 (by omega)
        rw [Go.Deep.add_add] at e0 e1 e2
        obtain ⟨z0, hz0, _, wf0⟩ := DataW.trod_int Tryd.underlying3 g0
        obtain ⟨z1, hz1, _, wf1⟩ := DataW.trod_int Tryd.underlying3 g1
        simp at hz0 hz1
        subst hz0
        subst hz1
        obtain ⟨l, hb, hlb⟩ := open_field g2
        refine ⟨⟨z0, z1, v2, l⟩, bounds_i64 wf0, bounds_i64 wf1, hb, by simpa using e0, by simpa using e1, by simpa using e2, ?_⟩
        simp only [Prod.mk.injEq] at hxy
        rw [hxy.1]
        simp only [List.map_cons, List.map_nil, Rows.uptoBulk, Rows.uptoBulkAll]
        omega
    haveI : Inhabited Stp := ⟨⟨0, 0, .slice none 0 0, []⟩⟩
    obtain ⟨f, hfa⟩ := Go.Deep.choose_lt each
    have hd : Rows.uptoBulkAll ((List.range len1).map D) + 1 ≤ Rows.uptoBulk d := by
      simp only [Prod.mk.injEq] at hx
      rw [hx.1, Rows.uptoBulk]; omega
    have hlen1 := bulk_len ((List.range len1).map D)
    simp only [List.length_map, List.length_range] at hlen1
    refine ⟨(List.range len1).map f, ⟨some a, m, by simp, by simpa using hl, hm, ?_, ?_⟩, by simp; omega, ?_⟩
    · intro s hs
      obtain ⟨i, hi, rfl⟩ := List.mem_map.1 hs
      have h := hfa i (List.mem_range.1 hi)
      exact ⟨h.1, h.2.1, h.2.2.1⟩
    · intro hpos
      simp only [List.length_map, List.length_range] at hpos
      obtain ⟨b, off, spot⟩ := a
      have hspot : spot = none := by simpa [Addr.add] using World.cell?_spot (hfa 0 hpos).2.2.2.1
      subst hspot
      refine ⟨b, off, rfl, fun i hi => ?_⟩
      simp only [List.length_map, List.length_range] at hi
      have h := hfa i hi
      simp only [List.getElem_map, List.getElem_range]
      refine ⟨?_, ?_, ?_⟩
      · rw [← Addr.add_lit]; exact h.2.2.2.1
      · rw [Nat.add_assoc, ← Addr.add_lit]; exact h.2.2.2.2.1
      · rw [Nat.add_assoc, ← Addr.add_lit]; exact h.2.2.2.2.2.1
    · have hs := bulk_sum (l := List.range len1) (D := D) (g := fun i => (f i).p.length) (fun i hi => (hfa i (List.mem_range.1 hi)).2.2.2.2.2.2)
      rw [List.map_map]
      exact Nat.le_trans hs (by omega)
theorem steps_again {H : Type} {enc : TypeId × Value → H} {W W' : World} {v : Value} {d : DataW H} {p : List MemPlace} (h1 : DataW.Trod enc Tryd.prog W 0 (fun _ => true) true 45 v d p) (bel : Below W.heap.size W W') :
    DataW.Trod enc Tryd.prog W' 0 (fun b => decide (b < W.heap.size)) true 45 v d p := Below.trod laidOut (by kernel_rfl) (of_decide_eq_true (by kernel_rfl)) h1 bel (trod_place_lt h1)
end Go.Proofs.YtbkcenpohcjgnabDoor
