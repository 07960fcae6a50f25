import Derived.Test.YtkjaaknlhmneoaaMtBa
import Derived.Test.YtkjaaknlhmneoaaMtPo
namespace Go.Proofs.Ytkjaaknlhmneoaa
open Go.ChangeShapes Go.WideShapes Go.ChangeAt Go.RowKit
open Num
set_option linter.unusedVariables false
set_option maxRecDepth 20000

/-- a list of words that came in -/
theorem open_wordsL {H : Type} {enc : TypeId × Value → H} {W : World} {base : Nat} {v : Value} {d : DataW H} {p : List MemPlace} {ts : List TypeId} {ds : List (DataW H)} (j : Nat) (hts : ts[j]? = some 35) (hds : ds[j]? = some d) (hsz : (DataW.weightsEach Try.prog ts ds).all (· ≤ reachBytes) = true)
    (hok : Value.okWide Try.prog W .any base 35 v) (h1 : DataW.Trod enc Try.prog W 0 (fun _ => true) true 35 v d p) : ∃ l : List Nat, USl W v l ∧ l.length ≤ 17592186044416 := by
  obtain ⟨a1, len1, cap1, rfl⟩ := okWide_slice Try.underlying35 hok
  obtain ⟨fuel, hf⟩ := h1
  rcases open_ints Try.underlying35 Try.underlying43 (by kernel_rfl) hf with ⟨hcs, _⟩ | ⟨x, l, c, zs, hcs, _, hl, hm, hz, hx, hcell, hwz⟩
  · simp [Value.cells] at hcs
    obtain ⟨rfl, rfl, rfl⟩ := hcs
    exact ⟨[], ⟨none, 0, rfl, Nat.le_refl _, by unfold maxLen; omega, by simp, by simp⟩, by simp⟩
  · simp [Value.cells] at hcs
    obtain ⟨rfl, rfl, rfl⟩ := hcs
    simp only [Prod.mk.injEq] at hx
    obtain ⟨rfl, hpx⟩ := hx
    have hw := sized_slice hsz (j := j) (t := 35) (e := 43) hts hds Try.underlying35
    rw [show Try.prog.bytesOf 43 = 8 from by kernel_rfl] at hw
    simp only [lits, List.length_map, List.length_take, List.length_drop, reachBytes] at hw
    simp only [if_true] at hz
    have hlen : ((zs.take len1).map Int.toNat).length = len1 := by simp; omega
    refine ⟨(zs.take len1).map Int.toNat, ⟨_, cap1, by rw [hlen], by omega, hm, fun b hb => ?_, fun hp => ?_⟩, by rw [hlen]; omega⟩
    · obtain ⟨n, hn, rfl⟩ := List.mem_map.1 hb
      have := bounds_u64 (hwz n (List.mem_of_mem_take hn))
      omega
    · obtain ⟨b, off, rfl, hc⟩ := ints_at hcell (by omega)
      have hall : ∀ i, i < ((zs.take len1).map Int.toNat).length → W.cell? ⟨b, off + i, none⟩ = some (.int .u64 (((zs.take len1).map Int.toNat).getD i 0 : Nat)) := fun i hi => by
        rw [hc i (by omega)]
        have hi' : i < zs.length := by omega
        have hb := bounds_u64 (hwz zs[i] (List.getElem_mem hi'))
        have hi2 : i < len1 := by omega
        have e2 : ((zs.take len1).map Int.toNat).getD i 0 = zs[i].toNat := by
          simp [List.getD, hi', hi2]
        have e3 : zs.getD i 0 = zs[i] := by simp [List.getD, hi']
        rw [e2, e3, Int.toNat_of_nonneg hb.1]
      exact ⟨b, off, rfl, cell_lt (hall 0 hp), hall⟩

theorem zero_last (L i : Nat) : (List.replicate L 0).getD i 0 = 0 := by
  rw [List.getD_eq_getElem?_getD]
  cases e : (List.replicate L 0)[i]? with
  | none => rfl
  | some z => exact List.eq_of_mem_replicate (List.mem_of_getElem? e)
theorem bel_same {x y : World} (h : y = x) : Below x.heap.size x y := by rw [h]; exact Below.refl _ _
theorem packsLaw (w : World) (n s : Int) (v : Value) (ws : List Nat) (hv : USl w v ws) (hl : ws.length ≤ 17592186044416) : Calls Try.prog 7 #[.int .i64 n, v, .int .i64 s] w fun e w' => e = .returned (.bool true) ∧ Below w.heap.size w w' := by
  by_cases h : (decide (1 ≤ n) && decide (n ≤ 65536)) = false ∨ okSz s = false
  · have hd : (okSz s && (decide (1 ≤ n) && decide (n ≤ 65536))) = false := by rcases h with h | h <;> simp [h]
    refine packs_err w n s v ws hv hl 1 (fun y u _ => (pack_bad y n s u h).mono fun e w' ⟨h1, h2⟩ => ⟨h1, bel_same h2⟩) (fun y u _ => (pack_bad y n s u h).mono fun e w' ⟨h1, h2⟩ => ⟨⟨_, h1⟩, bel_same h2⟩) (fun y _ => (rpack_bad y n s v hd).mono fun e w' ⟨h1, h2⟩ => ⟨h1, bel_same h2⟩)
  · rw [not_or, Bool.not_eq_false, Bool.not_eq_false, Bool.and_eq_true, decide_eq_true_eq, decide_eq_true_eq] at h
    obtain ⟨⟨h1, h2⟩, hs⟩ := h
    have hp := okSz_pos hs
    obtain ⟨n', rfl⟩ : ∃ k : Nat, n = (k : Int) := ⟨n.toNat, by omega⟩
    obtain ⟨s', rfl⟩ : ∃ k : Nat, s = (k : Int) := ⟨s.toNat, by omega⟩
    have h1 : 1 ≤ n' := by omega
    have h2 : n' ≤ 65536 := by omega
    by_cases hlen : ws.length = (n' + 63) / 64
    · have hz : ∀ y u, USl y u (List.replicate ws.length 0) → Calls Try.prog 15 #[.int .i64 (n' : Int), u, .int .i64 (s' : Int)] y fun e w' => (∃ x, e = .returned x) ∧ Below y.heap.size y w' := fun y u hu =>
        (pack_ok y n' s' u _ hu hs h1 h2 (by simpa using hlen) (andNot_lm (by rw [zero_last]; exact Nat.pow_pos (by decide)))).mono fun e w' ⟨O, e1, _, _, e4⟩ => ⟨⟨_, e1⟩, e4⟩
      by_cases hlast : ws.getD ((n' + 63) / 64 - 1) 0 < 2 ^ lr n'
      · exact packs_ok w n' s' v ws hv hs h1 h2 hlen hlast
      · have hws : ∀ i, i < ws.length → ws.getD i 0 < 18446744073709551616 := fun i hi => by
          obtain ⟨_, _, _, _, _, q, _⟩ := id hv
          exact q _ (by rw [List.getD_eq_getElem?_getD, List.getElem?_eq_getElem hi]; exact List.getElem_mem hi)
        exact packs_err w n' s' v ws hv hl 2 (fun y u hu => (pack_range y n' s' u ws hu hs h1 h2 hlen (andNot_over (hws _ (by omega)) hlast)).mono fun e w' ⟨e1, q, e2⟩ => ⟨e1, by rw [e2]; exact ⟨rfl, rfl, rfl, Nat.le_refl _, fun _ _ => rfl⟩⟩) hz (fun y hy => (rpack_range y n' s' v ws hy hs h1 h2 hlen (over_bit hlen h1 hws hlast)).mono fun e w' ⟨h1, h2⟩ => ⟨h1, bel_same h2⟩)
    · exact packs_err w n' s' v ws hv hl 3 (fun y u hu => (pack_size y n' s' u ws hu hs h1 h2 hlen).mono fun e w' ⟨h1, h2⟩ => ⟨h1, bel_same h2⟩) (fun y u hu => (pack_size y n' s' u _ hu hs h1 h2 (by simpa using hlen)).mono fun e w' ⟨h1, h2⟩ => ⟨⟨_, h1⟩, bel_same h2⟩) (fun y hy => (rpack_size y n' s' v ws hy hs h1 h2 hlen).mono fun e w' ⟨h1, h2⟩ => ⟨h1, bel_same h2⟩)
end Go.Proofs.Ytkjaaknlhmneoaa
