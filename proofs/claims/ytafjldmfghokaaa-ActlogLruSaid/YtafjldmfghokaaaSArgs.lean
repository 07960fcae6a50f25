import Derived.Test.YtafjldmfghokaaaAOwn
import Derived.Test.YtafjldmfghokaaaSLaw
import Derived.Test.YtafjldmfghokaaaAArgs
import Derived.Deep.DeepHandedRow
namespace Go.Proofs.Ytafjldmfghokaaa.St
open Go.ChangeShapes Go.WideShapes Go.ChangeAt Go.RowKit
set_option linter.unusedVariables false
set_option linter.unusedSimpArgs false
set_option maxRecDepth 20000

theorem cellsInt : Try.prog.cellsOf 3 = 1 := by kernel_rfl
theorem cellsAsk : Try.prog.cellsOf 51 = 3 := by kernel_rfl
theorem bytesAsk : Try.prog.bytesOf 51 = 24 := by kernel_rfl
theorem open_asks {H : Type} {enc : TypeId × Value → H} {W : World} {base : Nat} {v : Value} {d : DataW H} {p : List MemPlace} {ts : List TypeId} {ds : List (DataW H)} (j : Nat) (hts : ts[j]? = some 42) (hds : ds[j]? = some d)
    (hsz : (DataW.weightsEach Try.prog ts ds).all (· ≤ reachBytes) = true)
    (hok : Value.okWide Try.prog W .any base 42 v) (h1 : DataW.Trod enc Try.prog W 0 (fun _ => true) true 42 v d p) : ∃ l : List AskV, ASl W v l ∧ l.length ≤ 1000000000000000 := by
  obtain ⟨a1, len1, cap1, rfl⟩ := okWide_slice Try.underlying42 hok
  obtain ⟨fuel, hf⟩ := h1
  rcases Go.Deep.open_slice Try.underlying42 hf with ⟨hcs, _⟩ | ⟨a, len, cap, m, n, D, Pl, hcs, _, hl, hm, hmm, hx, hel⟩
  · simp [Value.cells] at hcs
    obtain ⟨rfl, rfl, rfl⟩ := hcs
    exact ⟨[], ⟨none, 0, rfl, Nat.le_refl _, by unfold maxLen; omega, by simp, by simp⟩, Nat.zero_le _⟩
  · simp [Value.cells] at hcs
    obtain ⟨rfl, rfl, rfl⟩ := hcs
    have hlen : len1 ≤ 1000000000000000 := by
      simp only [Prod.mk.injEq] at hx
      have h0 := List.all_eq_true.1 hsz _ (DataW.weights_mem_each hts hds _ (by
        rw [hx.1]
        simp only [DataW.weights]
        rw [Try.underlying42]
        exact List.mem_cons_self))
      simp only [List.length_map, List.length_range, bytesAsk, decide_eq_true_eq] at h0
      unfold reachBytes at h0
      omega
    simp only [if_true] at hmm
    subst hmm
    have each : ∀ i, i < len1 → ∃ s : AskV, (i64ok s.kind ∧ i64ok s.of_ ∧ i64ok s.key) ∧ W.cell? (a.add (i * 3)) = some (.int .i64 s.kind) ∧ W.cell? (a.add (i * 3 + 1)) = some (.int .i64 s.of_) ∧ W.cell? (a.add (i * 3 + 2)) = some (.int .i64 s.key) := by
      intro i hi
      obtain ⟨cs', h1, h2⟩ := hel i (by omega)
      rw [cellsAsk] at h1
      obtain ⟨_, hlen, hcell⟩ := World.cells?_some h1
      obtain ⟨xs, k, hk, hxy, _, hxl, hfd⟩ := DataW.trod_struct Try.underlying51 h2
      match xs, hxl, cs', hlen with
      | [y0, y1, y2], _, [v0, v1, v2], _ =>
        have g0 := hfd 0 _ rfl
        have g1 := hfd 1 _ rfl
        have g2 := hfd 2 _ rfl
        simp [cellsInt] at g0 g1 g2
        have e0 := hcell 0 (by omega)
        have e1 := hcell 1 (by omega)
        have e2 := hcell 2 (by omega)
        rw [Go.Deep.add_add] at e0 e1 e2
        obtain ⟨z0, hz0, _, wf0⟩ := DataW.trod_int Try.underlying3 g0
        obtain ⟨z1, hz1, _, wf1⟩ := DataW.trod_int Try.underlying3 g1
        obtain ⟨z2, hz2, _, wf2⟩ := DataW.trod_int Try.underlying3 g2
        simp at hz0 hz1 hz2
        subst hz0 hz1 hz2
        have b0 : i64ok z0 := by have := bounds_i64 wf0; unfold i64ok; omega
        have b1 : i64ok z1 := by have := bounds_i64 wf1; unfold i64ok; omega
        have b2 : i64ok z2 := by have := bounds_i64 wf2; unfold i64ok; omega
        exact ⟨⟨z0, z1, z2⟩, ⟨b0, b1, b2⟩, by simpa using e0, by simpa using e1, by simpa using e2⟩
    haveI : Inhabited AskV := ⟨⟨0, 0, 0⟩⟩
    obtain ⟨f, hfa⟩ := Go.Deep.choose_lt each
    refine ⟨(List.range len1).map f, ⟨some a, m, by simp, by simpa using hl, hm, ?_, ?_⟩, by simpa using hlen⟩
    · intro s hs
      obtain ⟨i, hi, rfl⟩ := List.mem_map.1 hs
      exact (hfa i (List.mem_range.1 hi)).1
    · intro hpos
      simp only [List.length_map, List.length_range] at hpos
      obtain ⟨b, off, spot⟩ := a
      have hspot : spot = none := by simpa [Addr.add] using World.cell?_spot (hfa 0 hpos).2.1
      subst hspot
      refine ⟨b, off, rfl, fun i hi => ?_⟩
      simp only [List.length_map, List.length_range] at hi
      have h := hfa i hi
      simp only [List.getElem_map, List.getElem_range]
      refine ⟨?_, ?_, ?_⟩
      · rw [← Addr.add_lit]; exact h.2.1
      · rw [Nat.add_assoc, ← Addr.add_lit]; exact h.2.2.1
      · rw [Nat.add_assoc, ← Addr.add_lit]; exact h.2.2.2
theorem again_asks {H : Type} {enc : TypeId × Value → H} {W W' : World} {v : Value} {d : DataW H} {p : List MemPlace} (h1 : DataW.Trod enc Try.prog W 0 (fun _ => true) true 42 v d p) (bel : Below W.heap.size W W') :
    DataW.Trod enc Try.prog W' 0 (fun b => decide (b < W.heap.size)) true 42 v d p := Below.trod laidOut (by kernel_rfl) (of_decide_eq_true (by kernel_rfl)) h1 bel (trod_place_lt h1)
end Go.Proofs.Ytafjldmfghokaaa.St
