import Derived.Test.YtkjaaknlhmneoaaMtPe
namespace Go.Proofs.Ytkjaaknlhmneoaa
open Go.RowKit
open Num
set_option linter.unusedVariables false
set_option linter.unusedSimpArgs false
set_option maxRecDepth 20000

/-! A list of blocks that is marked, block by block. -/
def mk8 (i : Nat) : Nat := (i + 1) % 256
/-- a list of bytes of one's own, by its block -/
theorem Own.stays {w w' : World} {base : Nat} {v : Value} {l : List Nat} (h : Own w base v l) (hb : ∀ g, v.ownBlock = some g → w'.heap[g]? = w.heap[g]?) : Own w' base v l := by
  refine ⟨⟨h.1.1, ?_⟩, h.2⟩
  rcases h.1.2 with h0 | ⟨g, cap, cur, rfl, h1, hg, r⟩
  · exact .inl h0
  · exact .inr ⟨g, cap, cur, rfl, h1, by rw [hb g rfl]; exact hg, r⟩
structure MK (x wr : World) (O m s k : Nat) (B : Nat → List Nat) : Prop where
  os : wr.os = x.os
  tape : wr.tape = x.tape
  output : wr.output = x.output
  size : x.heap.size ≤ wr.heap.size
  inx : O + 1 + m ≤ x.heap.size
  keep : ∀ b, b < x.heap.size → (b < O ∨ O + 1 + m ≤ b) → wr.heap[b]? = x.heap[b]?
  row : ∃ cs, wr.heap[O]? = some (.cells cs 45 (0, 0)) ∧ cs.size = m ∧ ∀ i, k ≤ i → i < m → cs[i]? = some (.slice (some ⟨O + 1 + i, 0, none⟩) s s)
  done : ∀ i, i < k → ∃ u, wr.cell? ⟨O, i, none⟩ = some u ∧ Own wr 0 u (List.replicate (s + 90) (mk8 i)) ∧ ∀ g, u.ownBlock = some g → (g = O + 1 + i ∨ x.heap.size ≤ g) ∧ g < wr.heap.size
  rest : ∀ i, k ≤ i → i < m → wr.heap[O + 1 + i]? = some (.cells ((B i).map byteV).toArray 5 (0, 0))
theorem MK.start {x : World} {O m s : Nat} {B : Nat → List Nat} (h : PB x O m s B) (hm : 0 < m) : MK x x O m s 0 B := by
  have hl := (Array.getElem?_eq_some_iff.1 (h.blk (m - 1) (by omega))).1
  refine ⟨rfl, rfl, rfl, Nat.le_refl _, by omega, fun _ _ _ => rfl, ⟨_, h.row, by simp, fun i _ hi => ?_⟩, fun i hi => by omega, fun i _ hi => h.blk i hi⟩
  rw [List.getElem?_toArray, List.getElem?_map, List.getElem?_range hi]; rfl
theorem MK.drew {x wr : World} {O m s k : Nat} {B : Nat → List Nat} (h : MK x wr O m s k B) (n : Nat) : MK x (wr.drewN n) O m s k B := ⟨h.os, h.tape, h.output, h.size, h.inx, h.keep, h.row, fun i hi => by
  obtain ⟨u, h1, h2, h3⟩ := h.done i hi
  exact ⟨u, h1, h2.stays fun _ _ => rfl, h3⟩, h.rest⟩
theorem MK.cell {x wr : World} {O m s k : Nat} {B : Nat → List Nat} (h : MK x wr O m s k B) (hk : k < m) : wr.cell? ⟨O, k, none⟩ = some (.slice (some ⟨O + 1 + k, 0, none⟩) s s) ∧ wr.frozen? ⟨O, k, none⟩ = false := by
  obtain ⟨cs, h1, h2, h3⟩ := h.row
  exact ⟨by rw [cell_of_row _ _ _ _ _ _ h1]; exact h3 k (Nat.le_refl _) hk, frozen_of_row _ _ _ _ _ h1⟩
/-- while block k is marked: j bytes of it -/
structure MJ (x wr : World) (O m s k j : Nat) (B : Nat → List Nat) : Prop where
  bas : ∃ y, MK x y O m s k B ∧ wr.os = y.os ∧ wr.tape = y.tape ∧ wr.output = y.output ∧ wr.heap.size = y.heap.size ∧ ∀ b, b ≠ O + 1 + k → wr.heap[b]? = y.heap[b]?
  blk : wr.heap[O + 1 + k]? = some (.cells ((List.replicate j (mk8 k) ++ (B k).drop j).map byteV).toArray 5 (0, 0))
theorem MJ.start {x wr : World} {O m s k : Nat} {B : Nat → List Nat} (h : MK x wr O m s k B) (hk : k < m) : MJ x wr O m s k 0 B :=
  ⟨⟨wr, h, rfl, rfl, rfl, rfl, fun _ _ => rfl⟩, by rw [List.replicate_zero, List.drop_zero, List.nil_append]; exact h.rest k (Nat.le_refl _) hk⟩
theorem MJ.drew {x wr : World} {O m s k j : Nat} {B : Nat → List Nat} (h : MJ x wr O m s k j B) (n : Nat) : MJ x (wr.drewN n) O m s k j B := by
  obtain ⟨⟨y, h1, h2⟩, h3⟩ := h
  exact ⟨⟨y, h1, h2⟩, h3⟩
theorem MJ.cells {x wr : World} {O m s k j : Nat} {B : Nat → List Nat} (h : MJ x wr O m s k j B) (hk : k < m) (hB : (B k).length = s) (hj : j < s) : wr.cell? ⟨O, k, none⟩ = some (.slice (some ⟨O + 1 + k, 0, none⟩) s s) ∧ (∃ c, wr.cell? ⟨O + 1 + k, j, none⟩ = some (.int .u8 c)) ∧ wr.frozen? ⟨O + 1 + k, j, none⟩ = false := by
  obtain ⟨⟨y, h1, _, _, _, _, h6⟩, h3⟩ := h
  refine ⟨(World.cell?_of_block (h6 O (by omega))).trans (h1.cell hk).1, ?_, frozen_of_row _ _ _ _ _ h3⟩
  have hl : j < (List.replicate j (mk8 k) ++ (B k).drop j).length := by simp; omega
  exact ⟨_, by rw [cell_of_row _ _ _ _ _ _ h3, List.getElem?_toArray, List.getElem?_map, List.getElem?_eq_getElem hl]; rfl⟩
theorem MJ.row {x wr : World} {O m s k j : Nat} {B : Nat → List Nat} (h : MJ x wr O m s k j B) (hk : k < m) : wr.cell? ⟨O, k, none⟩ = some (.slice (some ⟨O + 1 + k, 0, none⟩) s s) := by
  obtain ⟨⟨y, h1, _, _, _, _, h6⟩, h3⟩ := h
  exact (World.cell?_of_block (h6 O (by omega))).trans (h1.cell hk).1
theorem MJ.put {x wr : World} {O m s k j : Nat} {B : Nat → List Nat} (h : MJ x wr O m s k j B) (hB : (B k).length = s) (hj : j < s) : MJ x (wr.setCell ⟨O + 1 + k, j, none⟩ (.int .u8 (mk8 k : Nat))) O m s k (j + 1) B := by
  obtain ⟨⟨y, h1, h2, h4, h5, h7, h6⟩, h3⟩ := h
  refine ⟨⟨y, h1, h2, h4, h5, by rw [World.size_setCell]; exact h7, fun b hb => (Go.heap_setCell_other _ _ _ _ (by exact hb)).trans (h6 b hb)⟩, ?_⟩
  rw [Go.heap_setCell_same _ _ j _ 5 _ h3, List.setIfInBounds_toArray, show (.int .u8 ((mk8 k : Nat) : Int) : Value) = byteV (mk8 k) from rfl, ← List.map_set]
  congr 3
  rw [List.set_append_right _ _ (by simp), List.length_replicate, Nat.sub_self, List.drop_eq_getElem_cons (by omega), List.set_cons_zero, List.replicate_succ', List.append_assoc]
  rfl
/-- the block marked whole, as bytes of one's own -/
theorem MJ.own {x wr : World} {O m s k : Nat} {B : Nat → List Nat} (h : MJ x wr O m s k s B) (hB : (B k).length = s) (hs : s ≤ 1024) : Own wr 0 (.slice (some ⟨O + 1 + k, 0, none⟩) s s) (List.replicate s (mk8 k)) := by
  have h3 := h.blk
  rw [List.drop_of_length_le (by omega), List.append_nil] at h3
  refine ⟨⟨by simp, .inr ⟨O + 1 + k, s, _, by simp, Nat.zero_le _, h3, by simp, by unfold maxLen; omega, by simp, by simp⟩⟩, fun b hb => by rw [List.eq_of_mem_replicate hb]; exact Nat.mod_lt _ (by decide)⟩
/-- grown, and its slice stored -/
theorem MJ.next {x wr z : World} {O m s k : Nat} {B : Nat → List Nat} {u : Value} (h : MJ x wr O m s k s B) (hk : k < m) (hg : GR wr z (.slice (some ⟨O + 1 + k, 0, none⟩) s s) u (List.replicate s (mk8 k) ++ List.replicate 90 (mk8 k))) : MK x (z.setCell ⟨O, k, none⟩ u) O m s (k + 1) B := by
  obtain ⟨⟨y, h1, h2, h4, h5, h7, h6⟩, h3⟩ := h
  have hgr : ∀ b, b < wr.heap.size → b ≠ O + 1 + k → z.heap[b]? = wr.heap[b]? := fun b hb hne => hg.gr.block b hb (by simp [Value.ownBlock]; exact hne)
  have hin := h1.inx
  have hsz := h1.size
  have hz := hg.gr.size
  have hu : ∀ g, u.ownBlock = some g → (g = O + 1 + k ∨ x.heap.size ≤ g) ∧ g < z.heap.size := fun g hgu => by
    have hb : g < z.heap.size := by
      rcases hg.own.1.2 with ⟨e0, _⟩ | ⟨g', cap, cur, rfl, _, hh, _⟩
      · rw [e0] at hgu; simp [Value.ownBlock] at hgu
      · simp only [Value.ownBlock, Option.some.injEq] at hgu
        subst hgu; exact (Array.getElem?_eq_some_iff.1 hh).1
    rcases hg.at' with e | ⟨g2, e, hge⟩
    · rw [e] at hgu; simp only [Value.ownBlock, Option.some.injEq] at hgu; exact ⟨.inl hgu.symm, hb⟩
    · rw [e] at hgu; simp only [Option.some.injEq] at hgu; exact ⟨.inr (by omega), hb⟩
  obtain ⟨cs, r1, r2, r3⟩ := h1.row
  have hO : z.heap[O]? = some (.cells cs 45 (0, 0)) := (hgr O (by omega) (by omega)).trans ((h6 O (by omega)).trans r1)
  have other : ∀ b, b ≠ O → (z.setCell ⟨O, k, none⟩ u).heap[b]? = z.heap[b]? := fun b hb => Go.heap_setCell_other _ _ _ _ (by exact hb)
  refine ⟨(hg.gr.os.trans h2).trans h1.os, (hg.gr.tape.trans h4).trans h1.tape, (hg.gr.output.trans h5).trans h1.output, by rw [World.size_setCell]; omega, hin, fun b hb hob => ?_, ⟨cs.setIfInBounds k u, Go.heap_setCell_same z O k cs 45 u hO, by simp [r2], fun i hi1 hi2 => ?_⟩, fun i hi => ?_, fun i hi1 hi2 => ?_⟩
  · rw [other b (by omega), hgr b (by omega) (by omega), h6 b (by omega)]; exact h1.keep b hb hob
  · rw [Array.getElem?_setIfInBounds_ne (by omega)]; exact r3 i (by omega) hi2
  · by_cases e : i = k
    · subst e
      refine ⟨u, ?_, ?_, fun g hgu => ⟨(hu g hgu).1, by rw [World.size_setCell]; exact (hu g hgu).2⟩⟩
      · rw [cell_of_row _ _ _ _ _ _ (Go.heap_setCell_same z O i cs 45 u hO), Array.getElem?_setIfInBounds_self_of_lt (by omega)]
      · rw [← List.replicate_append_replicate]
        exact hg.own.stays fun g hgu => other g (by have := (hu g hgu).1; omega)
    · obtain ⟨u', d1, d2, d3⟩ := h1.done i (by omega)
      refine ⟨u', ?_, ?_, fun g hgu => ⟨(d3 g hgu).1, by rw [World.size_setCell]; have := (d3 g hgu).2; omega⟩⟩
      · rw [cell_of_row _ _ _ _ _ _ r1] at d1
        rw [cell_of_row _ _ _ _ _ _ (Go.heap_setCell_same z O k cs 45 u hO), Array.getElem?_setIfInBounds_ne (by omega)]; exact d1
      · refine d2.stays fun g hgu => ?_
        obtain ⟨e1, e2⟩ := d3 g hgu
        rw [other g (by omega), hgr g (by omega) (by omega), h6 g (by omega)]
  · rw [other _ (by omega), hgr _ (by omega) (by omega), h6 _ (by omega)]; exact h1.rest i (by omega) hi2
end Go.Proofs.Ytkjaaknlhmneoaa
