import Derived.Test.YtkjaaknlhmneoaaAOwn
import Derived.Test.YtkjaaknlhmneoaaMtBm2
namespace Go.Proofs.Ytkjaaknlhmneoaa
open Go.ChangeShapes Go.WideShapes Go.ChangeAt Go.RowKit
open Num
set_option linter.unusedVariables false
set_option maxRecDepth 20000

theorem bitsLaw (w : World) (n s t : Int) (v : Value) (seed : List Nat) (hv : USl w v seed) : Calls Try.prog 6 #[.int .i64 n, v, .int .i64 s, .int .i64 t] w fun e w' => e = .returned (.bool true) ∧ Below w.heap.size w w' := by
  by_cases h : (decide (1 ≤ n) && decide (n ≤ 65536)) = false ∨ okSz s = false
  · exact bits_bad w n s t v h
  · rw [not_or, Bool.not_eq_false, Bool.not_eq_false, Bool.and_eq_true, decide_eq_true_eq, decide_eq_true_eq] at h
    obtain ⟨⟨h1, h2⟩, hs⟩ := h
    have hp := okSz_pos hs
    obtain ⟨n', rfl⟩ : ∃ k : Nat, n = (k : Int) := ⟨n.toNat, by omega⟩
    obtain ⟨s', rfl⟩ : ∃ k : Nat, s = (k : Int) := ⟨s.toNat, by omega⟩
    exact bits_yes w n' s' t v seed hv hs (by omega) (by omega)
theorem cell_lt {w : World} {b o : Nat} {v : Value} (h : w.cell? ⟨b, o, none⟩ = some v) : b < w.heap.size := by
  by_cases hb : b < w.heap.size
  · exact hb
  · simp [World.cell?, Array.getElem?_eq_none (Nat.le_of_not_lt hb)] at h
/-- a list of words that came in -/
theorem open_words {H : Type} {enc : TypeId × Value → H} {W : World} {base : Nat} {v : Value} {d : DataW H} {p : List MemPlace}
    (hok : Value.okWide Try.prog W .any base 35 v) (h1 : DataW.Trod enc Try.prog W 0 (fun _ => true) true 35 v d p) : ∃ l : List Nat, USl W v l := by
  obtain ⟨a1, len1, cap1, rfl⟩ := okWide_slice Try.underlying35 hok
  obtain ⟨fuel, hf⟩ := h1
  rcases open_ints Try.underlying35 Try.underlying43 (by kernel_rfl) hf with ⟨hcs, _⟩ | ⟨x, l, c, zs, hcs, _, hl, hm, hz, hx, hcell, hwz⟩
  · simp [Value.cells] at hcs
    obtain ⟨rfl, rfl, rfl⟩ := hcs
    exact ⟨[], none, 0, rfl, Nat.le_refl _, by unfold maxLen; omega, by simp, by simp⟩
  · simp [Value.cells] at hcs
    obtain ⟨rfl, rfl, rfl⟩ := hcs
    simp only [if_true] at hz
    have hlen : ((zs.take len1).map Int.toNat).length = len1 := by simp; omega
    refine ⟨(zs.take len1).map Int.toNat, _, cap1, by rw [hlen], by omega, hm, fun b hb => ?_, fun hp => ?_⟩
    · obtain ⟨n, hn, rfl⟩ := List.mem_map.1 hb
      have := bounds_u64 (hwz n (List.mem_of_mem_take hn))
      omega
    · obtain ⟨b, off, rfl, hc⟩ := ints_at hcell (by omega)
      have hall : ∀ i, i < ((zs.take len1).map Int.toNat).length → W.cell? ⟨b, off + i, none⟩ = some (.int .u64 (((zs.take len1).map Int.toNat).getD i 0 : Nat)) := fun i hi => by
        rw [hc i (by omega)]
        have hi' : i < zs.length := by omega
        have hb := bounds_u64 (hwz zs[i] (List.getElem_mem hi'))
        have hi2 : i < len1 := by omega
        have e2 : ((zs.take len1).map Int.toNat).getD i 0 = zs[i].toNat := by
          simp [List.getD, hi', hi2]
        have e3 : zs.getD i 0 = zs[i] := by simp [List.getD, hi']
        rw [e2, e3, Int.toNat_of_nonneg hb.1]
      exact ⟨b, off, rfl, cell_lt (hall 0 hp), hall⟩
theorem place_lt {H : Type} {enc : TypeId × Value → H} {W : World} {t : TypeId} {v : Value} {d : DataW H} {p : List MemPlace} (h1 : DataW.Trod enc Try.prog W 0 (fun _ => true) true t v d p) : ∀ x ∈ p, x.block < W.heap.size := by
  obtain ⟨m, hm⟩ := h1; exact DataW.trod_lt m _ _ _ hm
theorem again_words {H : Type} {enc : TypeId × Value → H} {W W' : World} {v : Value} {d : DataW H} {p : List MemPlace} (h1 : DataW.Trod enc Try.prog W 0 (fun _ => true) true 35 v d p) (bel : Below W.heap.size W W') :
    DataW.Trod enc Try.prog W' 0 (fun b => decide (b < W.heap.size)) true 35 v d p := Below.trod laidOut (by kernel_rfl) (of_decide_eq_true (by kernel_rfl)) h1 bel (place_lt h1)
end Go.Proofs.Ytkjaaknlhmneoaa
