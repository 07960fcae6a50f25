import Derived.Test.YtlpmpicmpklaoabDArgs
import Derived.Test.YtlpmpicmpklaoabDRun
namespace Go.Proofs.Ytlpmpicmpklaoab
open Go.ChangeShapes Go.WideShapes Go.ChangeAt Go.RowKit
set_option linter.unusedVariables false
set_option linter.unusedSimpArgs false
set_option maxRecDepth 20000

theorem cellsRun : Try.prog.cellsOf 32 = 5 := by kernel_rfl
theorem open_runs {H : Type} {enc : TypeId × Value → H} {W : World} {base : Nat} {v : Value} {d : DataW H} {p : List MemPlace} {ts : List TypeId} {ds : List (DataW H)} (j : Nat) (hts : ts[j]? = some 23) (hds : ds[j]? = some d)
    (hsz : (DataW.weightsEach Try.prog ts ds).all (· ≤ reachBytes) = true)
    (hok : Value.okWide Try.prog W .any base 23 v) (h1 : DataW.Trod enc Try.prog W 0 (fun _ => true) true 23 v d p) : ∃ ps : List RunV, RSl W v ps ∧ ps.length ≤ 3518437208780 := by
  obtain ⟨a1, len1, cap1, rfl⟩ := okWide_slice Try.underlying23 hok
  obtain ⟨fuel, hf⟩ := h1
  rcases Go.Deep.open_slice Try.underlying23 hf with ⟨hcs, _⟩ | ⟨a, len, cap, m, n, D, Pl, hcs, _, hl, hm, hmm, hx, hel⟩
  · simp [Value.cells] at hcs
    obtain ⟨rfl, rfl, rfl⟩ := hcs
    exact ⟨[], ⟨none, 0, rfl, Nat.le_refl _, by unfold maxLen; omega, by simp, by simp⟩, Nat.zero_le _⟩
  · simp [Value.cells] at hcs
    obtain ⟨rfl, rfl, rfl⟩ := hcs
    simp only [if_true] at hmm
    subst hmm
    have each : ∀ i, i < len1 → ∃ s : RunV, s.ok W ∧ W.cell? (a.add (i * 5)) = some (.int .i64 s.kind) ∧ W.cell? (a.add (i * 5 + 1)) = some (.int .i64 s.put.block) ∧ W.cell? (a.add (i * 5 + 2)) = some s.put.tv ∧ W.cell? (a.add (i * 5 + 3)) = some (.bool s.put.past) ∧ W.cell? (a.add (i * 5 + 4)) = some (.int .i64 s.len) := by
      intro i hi
      obtain ⟨cs', h1, h2⟩ := hel i (by omega)
      rw [cellsRun] at h1
      obtain ⟨_, hlen, hcell⟩ := World.cells?_some h1
      obtain ⟨xs, k, hk, hxy, _, hxl, hfd⟩ := DataW.trod_struct Try.underlying32 h2
      match xs, hxl, cs', hlen with
      | [y0, y1, y2], _, [v0, v1, v2, v3, v4], _ =>
        have g0 := hfd 0 _ rfl
        have g1 := hfd 1 _ rfl
        have g2 := hfd 2 _ rfl
        simp [cellsInt, cellsPut] at g0 g1 g2
        have e0 := hcell 0 (by omega)
        have e1 := hcell 1 (by omega)
        have e2 := hcell 2 (by omega)
        have e3 := hcell 3 (by omega)
        have e4 := hcell 4 (by omega)
        rw [Go.Deep.add_add] at e0 e1 e2 e3 e4
        obtain ⟨z0, hz0, _, wf0⟩ := DataW.trod_int Try.underlying3 g0
        obtain ⟨z4, hz4, _, wf4⟩ := DataW.trod_int Try.underlying3 g2
        obtain ⟨ps, k', hk', hpy, _, hpl, hpd⟩ := DataW.trod_struct Try.underlying30 g1
        match ps, hpl with
        | [p0, p1, p2], _ =>
          have u0 := hpd 0 _ rfl
          have u1 := hpd 1 _ rfl
          have u2 := hpd 2 _ rfl
          simp [cellsInt, cellsBytes, cellsBool] at u0 u1 u2
          obtain ⟨z1, hz1, _, wf1⟩ := DataW.trod_int Try.underlying3 u0
          obtain ⟨z3, hz3, _⟩ := DataW.trod_bool Try.underlying4 u2
          simp at hz0 hz1 hz3 hz4
          subst hz0
          subst hz1
          subst hz3
          subst hz4
          obtain ⟨l, hb⟩ := open_field u1
          exact ⟨⟨z0, ⟨z1, v2, l, z3⟩, z4⟩, ⟨bounds_i64 wf0, bounds_i64 wf1, bounds_i64 wf4, hb⟩, by simpa using e0, by simpa using e1, by simpa using e2, by simpa using e3, by simpa using e4⟩
    haveI : Inhabited RunV := ⟨⟨0, ⟨0, .slice none 0 0, [], false⟩, 0⟩⟩
    obtain ⟨f, hfa⟩ := Go.Deep.choose_lt each
    have hw := sized_slice hsz (j := j) (t := 23) (e := 32) hts (by rw [hds]; simp only [Prod.mk.injEq] at hx; rw [hx.1]) Try.underlying23
    rw [show Try.prog.bytesOf 32 = 56 from by kernel_rfl] at hw
    simp only [List.length_map, List.length_range, reachBytes] at hw
    refine ⟨(List.range len1).map f, ⟨some a, m, by simp, by simpa using hl, hm, ?_, ?_⟩, by simp; omega⟩
    · intro s hs
      obtain ⟨i, hi, rfl⟩ := List.mem_map.1 hs
      exact (hfa i (List.mem_range.1 hi)).1
    · intro hpos
      simp only [List.length_map, List.length_range] at hpos
      obtain ⟨b, off, spot⟩ := a
      have hspot : spot = none := by simpa [Addr.add] using World.cell?_spot (hfa 0 hpos).2.1
      subst hspot
      refine ⟨b, off, rfl, fun i hi => ?_⟩
      simp only [List.length_map, List.length_range] at hi
      have h := hfa i hi
      simp only [List.getElem_map, List.getElem_range]
      refine ⟨?_, ?_, ?_, ?_, ?_⟩
      · rw [← Addr.add_lit]; exact h.2.1
      · rw [Nat.add_assoc, ← Addr.add_lit]; exact h.2.2.1
      · rw [Nat.add_assoc, ← Addr.add_lit]; exact h.2.2.2.1
      · rw [Nat.add_assoc, ← Addr.add_lit]; exact h.2.2.2.2.1
      · rw [Nat.add_assoc, ← Addr.add_lit]; exact h.2.2.2.2.2
theorem again_runs {H : Type} {enc : TypeId × Value → H} {W W' : World} {v : Value} {d : DataW H} {p : List MemPlace} (h1 : DataW.Trod enc Try.prog W 0 (fun _ => true) true 23 v d p) (bel : Below W.heap.size W W') :
    DataW.Trod enc Try.prog W' 0 (fun b => decide (b < W.heap.size)) true 23 v d p := Below.trod laidOut (by kernel_rfl) (of_decide_eq_true (by kernel_rfl)) h1 bel (trod_place_lt h1)
end Go.Proofs.Ytlpmpicmpklaoab
