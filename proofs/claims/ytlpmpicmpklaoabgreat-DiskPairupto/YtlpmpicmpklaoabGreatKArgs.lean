import Derived.Test.YtlpmpicmpklaoabGreatEArgs
import Derived.Test.YtlpmpicmpklaoabGreatKPair
namespace Go.Proofs.YtlpmpicmpklaoabGreat
open Go.ChangeShapes Go.WideShapes Go.ChangeAt Go.RowKit
set_option linter.unusedVariables false
set_option linter.unusedSimpArgs false
set_option maxRecDepth 20000

theorem open_bools {H : Type} {enc : TypeId × Value → H} {W : World} {base : Nat} {v : Value} {d : DataW H} {p : List MemPlace}
    (hok : Value.okWide Tryz.prog W .any base 43 v) (h1 : DataW.Trod enc Tryz.prog W 0 (fun _ => true) true 43 v d p) : ∃ ts : List Bool, K.TSl W v ts := by
  obtain ⟨a1, len1, cap1, rfl⟩ := okWide_slice Tryz.underlying43 hok
  obtain ⟨fuel, hf⟩ := h1
  rcases Go.Deep.open_slice Tryz.underlying43 hf with ⟨hcs, _⟩ | ⟨a, len, cap, m, n, D, Pl, hcs, _, hl, hm, hmm, hx, hel⟩
  · simp [Value.cells] at hcs
    obtain ⟨rfl, rfl, rfl⟩ := hcs
    exact ⟨[], ⟨none, 0, rfl, Nat.le_refl _, by unfold maxLen; omega, by simp⟩⟩
  · simp [Value.cells] at hcs
    obtain ⟨rfl, rfl, rfl⟩ := hcs
    simp only [if_true] at hmm
    subst hmm
    have each : ∀ i, i < len1 → ∃ s : Bool, W.cell? (a.add i) = some (.bool s) := by
      intro i hi
      obtain ⟨cs', h1, h2⟩ := hel i (by omega)
      rw [cellsBool] at h1
      obtain ⟨_, hlen, hcell⟩ := World.cells?_some h1
      match cs', hlen with
      | [v0], _ =>
        have e0 := hcell 0 (by omega)
        rw [Go.Deep.add_add] at e0
        obtain ⟨z0, hz0, _⟩ := DataW.trod_bool Tryz.underlying4 h2
        simp at hz0
        subst hz0
        exact ⟨z0, by simpa using e0⟩
    obtain ⟨f, hfa⟩ := Go.Deep.choose_lt each
    refine ⟨(List.range len1).map f, ⟨some a, m, by simp, by simpa using hl, hm, ?_⟩⟩
    intro hpos
    simp only [List.length_map, List.length_range] at hpos
    obtain ⟨b, off, spot⟩ := a
    have hspot : spot = none := by simpa [Addr.add] using World.cell?_spot (hfa 0 hpos)
    subst hspot
    refine ⟨b, off, rfl, fun i hi => ?_⟩
    simp only [List.length_map, List.length_range] at hi
    simp only [List.getElem_map, List.getElem_range]
    rw [← Addr.add_lit]; exact hfa i hi
theorem again_bools {H : Type} {enc : TypeId × Value → H} {W W' : World} {v : Value} {d : DataW H} {p : List MemPlace} (h1 : DataW.Trod enc Tryz.prog W 0 (fun _ => true) true 43 v d p) (bel : Below W.heap.size W W') :
    DataW.Trod enc Tryz.prog W' 0 (fun b => decide (b < W.heap.size)) true 43 v d p := Below.trod laidOut (by kernel_rfl) (of_decide_eq_true (by kernel_rfl)) h1 bel (trod_place_lt h1)
end Go.Proofs.YtlpmpicmpklaoabGreat
