import Derived.Test.YtlkccencilhacaaAKpF
import Derived.Test.YtlkccencilhacaaAShelfS
import Derived.Lib.OwnBridge
namespace Go.Proofs.Ytlkccencilhacaa
open Go.RowKit Go.Maps Go.Sort Go.Shelf
set_option linter.unusedVariables false
set_option linter.unusedSimpArgs false
set_option maxRecDepth 20000

theorem sort_any (w : World) (v : Value) (T : List Int) (h : IR w v T) (hl : T.length ≤ 5000) : Calls Try.prog 74 #[v] w fun e w' => e = .returned (.tuple #[]) ∧ IR w' v (T.mergeSort fun x y => decide (x ≤ y)) ∧ Chg (fun g => v.ownBlock = some g) w w' := by
  have h' : w.ownsRow 0 3 1 v T.length (T.map fun z => Value.int .i64 z) := h
  by_cases hv : v = .slice none 0 0
  · subst hv
    have e0 : T = [] := by
      have := h'.2
      rcases this with ⟨_, e⟩ | ⟨g, cap, cur, e, _⟩
      · exact List.length_eq_zero_iff.1 e
      · cases e
    subst e0
    refine (AnyM.slices_Sort_int_none Try.sortA none 0 w).mono ?_
    rintro e w' ⟨rfl, rfl⟩
    exact ⟨rfl, by rw [List.mergeSort_nil]; exact h, Chg.refl _ _⟩
  · obtain ⟨g, cap, rfl, -, hlt, hn, hm, -, hH⟩ := Lib.holds_of_ownsRow h' hv
    refine (AnyM.slices_Sort_int Try.sortA g 0 cap T w hH hlt (by omega)).mono ?_
    rintro e w' ⟨rfl, n, os, rfl⟩
    have hp := Lib.ownsRow_putRow (q := n) (k := T.length) (ys := T.mergeSort fun x y => decide (x ≤ y)) h' (by simp) (Nat.le_refl _)
    rw [List.take_of_length_le (by simp)] at hp
    have hsz : (putRow (Value.int .i64) (Sort.ahead w n) g 0 (T.mergeSort fun x y => decide (x ≤ y)).toArray).heap.size = w.heap.size := by simp [putRow, mapBlock, Sort.ahead]
    have hgr : ∀ (b : Nat), b < w.heap.size → (grow (putRow (Value.int .i64) (Sort.ahead w n) g 0 (T.mergeSort fun x y => decide (x ≤ y)).toArray) os).heap[b]? = (putRow (Value.int .i64) (Sort.ahead w n) g 0 (T.mergeSort fun x y => decide (x ≤ y)).toArray).heap[b]? := fun b hb => by
      show (_ ++ os)[b]? = _
      rw [Array.getElem?_append_left (by rw [hsz]; exact hb)]
    refine ⟨rfl, ?_, ⟨rfl, rfl, rfl, ?_, fun b hb hne => ?_⟩⟩
    · have hi : IR (putRow (Value.int .i64) (Sort.ahead w n) g 0 (T.mergeSort fun x y => decide (x ≤ y)).toArray) (.slice (some ⟨g, 0, none⟩) T.length cap) (T.mergeSort fun x y => decide (x ≤ y)) := by
        unfold IR
        rw [List.length_mergeSort]
        exact hp
      refine rowKept hi fun b eb => hgr b ?_
      simp [Value.ownBlock] at eb
      omega
    · show w.heap.size ≤ (_ ++ os).size
      rw [Array.size_append, hsz]
      omega
    · rw [hgr b hb]
      have : g ≠ b := fun e => hne (by simp [Value.ownBlock, e])
      simp [putRow, mapBlock, Sort.ahead, Array.getElem?_modify, this]
theorem keys_mem {S : LS} {M : Nat} (hS : S.Ok M) {k : Int} (h : k ∈ S.ks) : k ∈ S.keys := by
  obtain ⟨s, hs⟩ := List.getElem?_of_mem h
  have hl := (List.getElem?_eq_some_iff.1 hs).1
  have hrl : s < S.rs.length := by rw [hS.rl]; exact hl
  have hg : S.ks.getD s 0 = k := by simp [List.getD, hs]
  unfold LS.keys
  by_cases hz : S.rs.getD s 0 = 0
  · exact List.mem_append_left _ (List.mem_map.2 ⟨s, (hS.im s).2 (by rw [List.getElem?_eq_getElem hrl]; simp [List.getD, hrl] at hz; rw [hz]), hg⟩)
  · exact List.mem_append_right _ (List.mem_map.2 ⟨s, List.mem_filter.2 ⟨List.mem_range.2 hl, decide_eq_true (Nat.pos_of_ne_zero hz)⟩, hg⟩)
/-- what Hot gives: the keys, rising -/
def hotL (S : LS) : List Int := S.keys.mergeSort fun x y => decide (x ≤ y)
set_option maxHeartbeats 1000000 in
theorem hot_any {w : World} {lp p bm M : Nat} {kv rv iv : Value} {S : LS} {ext size first written : Nat} (h : LgR w lp p bm kv rv iv S ext size first written) (hS : S.Ok M) :
    Calls Try.prog 46 #[.pointer (some ⟨lp, 0, none⟩)] w fun e w' => ∃ v, e = .returned v ∧ IR w' v (hotL S) ∧ Below w.heap.size w w' ∧ ∀ b, v.ownBlock = some b → w.heap.size ≤ b := by
  have c0 : w.cell? ⟨lp, 0, none⟩ = some (.pointer (some ⟨p, 0, none⟩)) := h.c 0
  have HK := hide (Keys_any h.l hS)
  have HST := hide fun x v (hv : IR x v S.keys) => sort_any x v S.keys hv (by have := hS.keys_len; have := hS.kl; have := hS.s2; omega)
  clear h hS
  unfold hotL
  generalize S.keys = K at *
  go_enter Try.func46, Try.ntmps46
  go_wp2_with (first
    | (go_at_call 73; refine HK.out.mono ?_; rintro e w1 ⟨v, rfl, hv, hb, hn⟩; have HV := hide (show IR w1 v K from hv); have HB := hide hb; have HN := hide hn; clear hv hb hn HK)
    | (go_at_call 74; refine (HST.out _ _ HV.out).mono ?_; rintro e w2 ⟨rfl, h1, h2⟩; have H1 := hide h1; have H2 := hide h2; clear h1 h2 HST))
  go_ret
  exact ⟨_, rfl, H1.out, HB.out.trans (H2.out.below HB.out.size HN.out), HN.out⟩
end Go.Proofs.Ytlkccencilhacaa
