import Derived.Test.YtlkccencilhacaaAOwn
import Derived.Test.YtlkccencilhacaaAOldL
namespace Go.Proofs.Ytlkccencilhacaa
open Go.ChangeShapes Go.WideShapes Go.ChangeAt Go.RowKit
set_option linter.unusedVariables false
set_option linter.unusedSimpArgs false
set_option maxRecDepth 20000

theorem bytesInt : Try.prog.bytesOf 3 = 8 := by kernel_rfl
theorem trod_place_lt {H : Type} {enc : TypeId × Value → H} {W : World} {t : TypeId} {v : Value} {d : DataW H} {p : List MemPlace} (h1 : DataW.Trod enc Try.prog W 0 (fun _ => true) true t v d p) : ∀ x ∈ p, x.block < W.heap.size := by
  obtain ⟨m, hm⟩ := h1; exact DataW.trod_lt m _ _ _ hm
/-- a list of ints that came in -/
theorem open_steps {H : Type} {enc : TypeId × Value → H} {W : World} {base : Nat} {v : Value} {d : DataW H} {p : List MemPlace} {ts : List TypeId} {ds : List (DataW H)} (j : Nat) (hts : ts[j]? = some 25) (hds : ds[j]? = some d)
    (hsz : (DataW.weightsEach Try.prog ts ds).all (· ≤ reachBytes) = true) (hok : Value.okWide Try.prog W .any base 25 v) (h1 : DataW.Trod enc Try.prog W 0 (fun _ => true) true 25 v d p) : ∃ zs : List Int, ISl W v zs ∧ zs.length ≤ 1000000000000000 := by
  obtain ⟨a1, len1, cap1, rfl⟩ := okWide_slice Try.underlying25 hok
  obtain ⟨fuel, hf⟩ := h1
  rcases open_ints Try.underlying25 Try.underlying3 (by kernel_rfl) hf with ⟨hcs, _⟩ | ⟨x, l, c, zs, hcs, _, hl, hm, hz, hx, hcell, hwz⟩
  · simp [Value.cells] at hcs
    obtain ⟨rfl, rfl, rfl⟩ := hcs
    exact ⟨[], ⟨none, 0, rfl, Nat.le_refl _, by unfold maxLen; omega, by simp, by simp⟩, Nat.zero_le _⟩
  · simp [Value.cells] at hcs
    obtain ⟨rfl, rfl, rfl⟩ := hcs
    simp only [if_true] at hz
    have hlen : (zs.take len1).length = len1 := by simp; omega
    refine ⟨zs.take len1, ⟨_, cap1, by rw [hlen], by omega, hm, fun z hz' => ?_, fun hp => ?_⟩, ?_⟩
    · have := bounds_i64 (hwz z (List.mem_of_mem_take hz'))
      exact ⟨by omega, by omega⟩
    · obtain ⟨b, off, rfl, hc⟩ := ints_at hcell (by omega)
      refine ⟨b, off, rfl, fun i hi => ?_⟩
      rw [hc i (by omega)]
      have hi2 : i < len1 := by omega
      simp [List.getD, hi2]
    · have h0 := List.all_eq_true.1 hsz (zs.length * 8) (DataW.weights_mem_each hts hds _ (by
        simp only [Prod.mk.injEq] at hx
        rw [hx.1]
        simp only [DataW.weights]
        rw [Try.underlying25]
        simp only [lits, List.length_map, List.length_take, List.length_drop, bytesInt]
        rw [show min len1 zs.length + (zs.length - len1) = zs.length by omega]
        exact List.mem_cons_self))
      simp only [decide_eq_true_eq] at h0
      unfold reachBytes at h0
      rw [hlen]
      omega
theorem again_ints {H : Type} {enc : TypeId × Value → H} {W W' : World} {v : Value} {d : DataW H} {p : List MemPlace} (h1 : DataW.Trod enc Try.prog W 0 (fun _ => true) true 25 v d p) (bel : Below W.heap.size W W') :
    DataW.Trod enc Try.prog W' 0 (fun b => decide (b < W.heap.size)) true 25 v d p := Below.trod laidOut (by kernel_rfl) (of_decide_eq_true (by kernel_rfl)) h1 bel (trod_place_lt h1)
end Go.Proofs.Ytlkccencilhacaa
