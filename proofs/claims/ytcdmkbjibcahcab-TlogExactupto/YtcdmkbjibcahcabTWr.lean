import Derived.Test.YtcdmkbjibcahcabTBk
namespace Go.Proofs.Ytcdmkbjibcahcab
open Go.RowKit
set_option linter.unusedVariables false
set_option linter.unusedSimpArgs false
set_option maxRecDepth 20000

/-- the world has changed within a list's place alone (its block, from its begin to the end of its room) -/
structure Tr (w w' : World) (v : Value) : Prop where
  os : w'.os = w.os
  tape : w'.tape = w.tape
  output : w'.output = w.output
  size : w.heap.size ≤ w'.heap.size
  keep : ∀ g, g < w.heap.size → v.ownBlock ≠ some g → w'.heap[g]? = w.heap[g]?
  inn : ∀ g o n c cur, v = .slice (some ⟨g, o, none⟩) n c → w.heap[g]? = some (.cells cur 56 (0, 0)) → ∃ cur', w'.heap[g]? = some (.cells cur' 56 (0, 0)) ∧ cur'.size = cur.size ∧ ∀ i, i < o ∨ o + c * 3 ≤ i → cur'[i]? = cur[i]?
section
variable {w x y : World} {v : Value}
theorem Tr.refl (w : World) (v : Value) : Tr w w v := ⟨rfl, rfl, rfl, Nat.le_refl _, fun _ _ _ => rfl, fun g o n c cur _ h => ⟨cur, h, rfl, fun _ _ => rfl⟩⟩
theorem Tr.calm (h : Tr w x v) (hb : Below x.heap.size x y) : Tr w y v := ⟨hb.os.trans h.os, hb.tape.trans h.tape, hb.output.trans h.output, Nat.le_trans h.size hb.size, fun g hg hn => (hb.block g (by have := h.size; omega)).trans (h.keep g hg hn), fun g o n c cur e hg => by
  obtain ⟨c1, h1, h2, h3⟩ := h.inn g o n c cur e hg
  exact ⟨c1, (hb.block g (Array.getElem?_eq_some_iff.1 h1).1).trans h1, h2, h3⟩⟩
theorem Tr.set {g o n c : Nat} (h : Tr w x (.slice (some ⟨g, o, none⟩) n c)) (j : Nat) (hj : j < c * 3) (u : Value) : Tr w (x.setCell ⟨g, o + j, none⟩ u) (.slice (some ⟨g, o, none⟩) n c) := by
  refine ⟨h.os, h.tape, h.output, by rw [World.size_setCell]; exact h.size, fun b hb hn => ?_, fun b o' n' c' cur e hg => ?_⟩
  · refine (Go.heap_setCell_other _ _ _ _ (show b ≠ g from fun e => hn (by rw [e]; rfl))).trans (h.keep b hb hn)
  · obtain ⟨c1, h1, h2, h3⟩ := h.inn b o' n' c' cur e hg
    simp only [Value.slice.injEq, Option.some.injEq, Addr.mk.injEq, and_true] at e
    obtain ⟨⟨rfl, rfl⟩, rfl, rfl⟩ := e
    refine ⟨_, Go.heap_setCell_same x g (o + j) c1 56 u h1, by simpa using h2, fun i hi => ?_⟩
    rw [Array.getElem?_setIfInBounds_ne (by omega)]
    exact h3 i hi
end
/-- a list's cells as they lie -/
def ERaw (w : World) (g o n c : Nat) (xs : List Value) : Prop := ∃ cur, w.heap[g]? = some (.cells cur 56 (0, 0)) ∧ o + c * 3 ≤ cur.size ∧ (cur.toList.drop o).take (n * 3) = xs
theorem ERaw.set {w : World} {g o n c : Nat} {xs : List Value} (h : ERaw w g o n c xs) (j : Nat) (u : Value) : ERaw (w.setCell ⟨g, o + j, none⟩ u) g o n c (xs.set j u) := by
  obtain ⟨cur, h1, h2, h3⟩ := h
  refine ⟨_, Go.heap_setCell_same w g (o + j) cur 56 u h1, by simpa using h2, ?_⟩
  rw [Array.toList_setIfInBounds, List.drop_set, if_neg (by omega), List.take_set, Nat.add_sub_cancel_left, h3]
theorem ERow.raw {w : World} {g o n c : Nat} {l : List En} (h : ERow w (.slice (some ⟨g, o, none⟩) n c) l) : l.length = n ∧ n ≤ c ∧ c ≤ maxLen ∧ ERaw w g o n c (evs l) := by
  rcases h with ⟨e, _⟩ | ⟨g', off, cap, cur, e, hg, h1, h2, h3, h4⟩
  · simp at e
  · simp only [Value.slice.injEq, Option.some.injEq, Addr.mk.injEq, and_true] at e
    obtain ⟨⟨rfl, rfl⟩, rfl, rfl⟩ := e
    exact ⟨rfl, h2, h3, cur, hg, h1, h4⟩
theorem ERaw.row {w : World} {g o c : Nat} {l : List En} (h : ERaw w g o l.length c (evs l)) (h1 : l.length ≤ c) (h2 : c ≤ maxLen) : ERow w (.slice (some ⟨g, o, none⟩) l.length c) l := by
  obtain ⟨cur, a, b, d⟩ := h
  exact .inr ⟨g, o, c, cur, rfl, a, b, h1, h2, d⟩
theorem evs_set : ∀ {l : List En} {i : Nat} (h : i < l.length) (a b c : Int), (((evs l).set (i * 3) (.int .i64 a)).set (i * 3 + 1) (.int .i64 b)).set (i * 3 + 2) (.int .i64 c) = evs (l.set i (a, b, c))
  | x :: l, 0, _, a, b, c => by simp [evs, eV]
  | x :: l, i + 1, h, a, b, c => by
    have ih := evs_set (l := l) (i := i) (by simpa using h) a b c
    have e : evs (x :: l) = .int .i64 x.1 :: .int .i64 x.2.1 :: .int .i64 x.2.2 :: evs l := by simp [evs, eV]
    rw [show (i + 1) * 3 = i * 3 + 1 + 1 + 1 by omega, show i * 3 + 1 + 1 + 1 + 1 = i * 3 + 1 + 1 + 1 + 1 by omega, e]
    rw [show i * 3 + 1 + 1 + 1 + 2 = (i * 3 + 2) + 1 + 1 + 1 by omega]
    simp only [List.set_cons_succ]
    rw [ih]
    simp [evs, eV]
/-- an element of a list is written -/
theorem ERow.set3 {w : World} {g o n c : Nat} {l : List En} (h : ERow w (.slice (some ⟨g, o, none⟩) n c) l) {i : Nat} (hi : i < n) (x y z : Int) : ERow (((w.setCell ⟨g, o + i * 3, none⟩ (.int .i64 x)).setCell ⟨g, o + i * 3 + 1, none⟩ (.int .i64 y)).setCell ⟨g, o + i * 3 + 2, none⟩ (.int .i64 z)) (.slice (some ⟨g, o, none⟩) n c) (l.set i (x, y, z)) := by
  obtain ⟨rfl, h1, h2, h3⟩ := h.raw
  have h4 := ((h3.set (i * 3) (.int .i64 x)).set (i * 3 + 1) (.int .i64 y)).set (i * 3 + 2) (.int .i64 z)
  rw [evs_set hi] at h4
  have h5 : ERaw (((w.setCell ⟨g, o + i * 3, none⟩ (.int .i64 x)).setCell ⟨g, o + i * 3 + 1, none⟩ (.int .i64 y)).setCell ⟨g, o + i * 3 + 2, none⟩ (.int .i64 z)) g o (l.set i (x, y, z)).length c (evs (l.set i (x, y, z))) := by
    rw [List.length_set]
    exact h4
  have h6 := h5.row (by rw [List.length_set]; exact h1) h2
  rw [List.length_set] at h6
  exact h6
/-- another list is kept -/
theorem ERow.apart {w x : World} {g o n c : Nat} {u : Value} {l : List En} (h : ERow w u l) (ht : Tr w x (.slice (some ⟨g, o, none⟩) n c)) (ha : ∀ o' n' c', u = .slice (some ⟨g, o', none⟩) n' c' → o' + n' * 3 ≤ o ∨ o + c * 3 ≤ o') : ERow x u l := by
  rcases h with ⟨rfl, rfl⟩ | ⟨g', off, cap, cur, rfl, hg, h1, h2, h3, h4⟩
  · exact .inl ⟨rfl, rfl⟩
  · have hgl := (Array.getElem?_eq_some_iff.1 hg).1
    by_cases e : g' = g
    · subst e
      obtain ⟨c1, k1, k2, k3⟩ := ht.inn g' o n c cur rfl hg
      have hr := ha off l.length cap rfl
      refine .inr ⟨g', off, cap, c1, rfl, k1, by omega, h2, h3, ?_⟩
      rw [← h4]
      apply List.ext_getElem?
      intro i
      rw [List.getElem?_take, List.getElem?_take]
      by_cases hi : i < l.length * 3
      · rw [if_pos hi, if_pos hi, List.getElem?_drop, List.getElem?_drop, Array.getElem?_toList, Array.getElem?_toList]
        exact k3 (off + i) (by omega)
      · rw [if_neg hi, if_neg hi]
    · exact .inr ⟨g', off, cap, cur, rfl, (ht.keep g' hgl (by simp only [Value.ownBlock, ne_eq, Option.some.injEq]; exact fun h => e h.symm)).trans hg, h1, h2, h3, h4⟩
/-- a list with marks up to i -/
def mkd (mk i : Nat) (l : List En) : List En := (List.range i).map (fun j : Nat => (-(mk : Int), (j : Int), (mk : Int))) ++ l.drop i
theorem mkd_zero (mk : Nat) (l : List En) : mkd mk 0 l = l := by simp [mkd]
theorem mkd_len (mk : Nat) {i : Nat} {l : List En} (h : i ≤ l.length) : (mkd mk i l).length = l.length := by
  simp [mkd]
  omega
theorem mkd_step (mk : Nat) {i : Nat} {l : List En} (h : i < l.length) : (mkd mk i l).set i (-(mk : Int), (i : Int), (mk : Int)) = mkd mk (i + 1) l := by
  unfold mkd
  rw [List.set_append_right _ _ (by simp), List.range_succ, List.map_append, List.append_assoc]
  congr 1
  simp only [List.length_map, List.length_range, Nat.sub_self, List.map_cons, List.map_nil]
  rw [List.drop_eq_getElem_cons h]
  rfl
end Go.Proofs.Ytcdmkbjibcahcab
