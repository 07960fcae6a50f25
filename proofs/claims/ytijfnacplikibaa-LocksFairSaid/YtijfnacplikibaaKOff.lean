import Derived.Test.YtijfnacplikibaaKSf0
namespace Go.Proofs.Ytijfnacplikibaa
open Go.RowKit
set_option linter.unusedVariables false
set_option linter.unusedSimpArgs false
set_option maxRecDepth 20000

/-- append to a list at an offset of its block, where there is room -/
theorem run_append_off {P : Program} (w : World) (t ty e : TypeId) (i : TypeInfo) (ht : P.underlying t = some (.slice e)) (hi : P.info? e = some i)
    (g off sLen sCap : Nat) (cur : Array Value) (hg : w.heap[g]? = some (.cells cur e (0, 0)))
    (a : Addr) (m c : Nat) (news : List Value) (hl : news.length = m * i.size) (hnews : ∀ j u, news[j]? = some u → w.cell? (a.add j) = some u) (h1 : ∀ u ∈ news, u.oneCell' = true)
    (hroom : sLen + m ≤ sCap) (hfit : off + sLen * i.size + news.length ≤ cur.size) :
    (Builtin.append_ #[t, t] ty #[.slice (some ⟨g, off, none⟩) sLen sCap, .slice (some a) m c]).run P w =
      .ok (.slice (some ⟨g, off, none⟩) (sLen + m) sCap) (w.setRow g (cur.toList.take (off + sLen * i.size) ++ news ++ cur.toList.drop (off + sLen * i.size + news.length)).toArray) := by
  have hf := run_firstCells_some (P := P) w i.size m a m c news hl hnews
  have hst := run_storeCells_at P g (off + sLen * i.size) e news 0 cur w hg (by simpa using hfit) h1
  simp only [Nat.add_zero] at hst
  simp [Builtin.append_, run_underlying ht, sizeOf, typeInfo, hi, Builtin.lenOf, hroom, hf, Addr.add_lit, hst]
/-- a list of numbers at an offset of its block, which is its own up to the cap -/
def ORow (w : World) (v : Value) (l : List Int) : Prop :=
  (v = .slice none 0 0 ∧ l = []) ∨ ∃ g off cap cur, v = .slice (some ⟨g, off, none⟩) l.length cap ∧ w.heap[g]? = some (.cells cur 3 (0, 0)) ∧ off + cap ≤ cur.size ∧ l.length ≤ cap ∧ cap ≤ maxLen ∧ (cur.toList.drop off).take l.length = l.map iV
theorem ORow.kept {w w' : World} {v : Value} {l : List Int} (h : ORow w v l) (hk : ∀ g, v.ownBlock = some g → w'.heap[g]? = w.heap[g]?) : ORow w' v l := by
  rcases h with h | ⟨g, off, cap, cur, rfl, hg, h⟩
  · exact .inl h
  · exact .inr ⟨g, off, cap, cur, rfl, (hk g rfl).trans hg, h⟩
theorem ORow.ofI {w : World} {v : Value} {l : List Int} (h : IRow w v l) : ORow w v l := by
  have h' : w.ownsRow 0 3 1 v l.length (l.map iV) := h
  rcases h'.2 with ⟨rfl, e0⟩ | ⟨g, cap, cur, rfl, h1, hg, h2, h3, h4, h5⟩
  · exact .inl ⟨rfl, List.length_eq_zero_iff.1 e0⟩
  · exact .inr ⟨g, 0, cap, cur, rfl, hg, by omega, h2, h3, by simpa using h5⟩
theorem ORow.lt {w : World} {v : Value} {l : List Int} (h : ORow w v l) {g : Nat} (hg : v.ownBlock = some g) : g < w.heap.size := by
  rcases h with ⟨rfl, _⟩ | ⟨g', off, cap, cur, rfl, hg', _⟩
  · simp [Value.ownBlock] at hg
  · simp only [Value.ownBlock, Option.some.injEq] at hg
    subst hg
    exact (Array.getElem?_eq_some_iff.1 hg').1
/-- its cells -/
theorem ORow.cell {w : World} {v : Value} {l : List Int} (h : ORow w v l) {j : Nat} (hj : j < l.length) : ∃ g off cap, v = .slice (some ⟨g, off, none⟩) l.length cap ∧ g < w.heap.size ∧ w.cell? ⟨g, off + j, none⟩ = some (.int .i64 (l.getD j 0)) := by
  rcases h with ⟨rfl, rfl⟩ | ⟨g, off, cap, cur, rfl, hg, h1, h2, h3, h4⟩
  · simp at hj
  · refine ⟨g, off, cap, rfl, (Array.getElem?_eq_some_iff.1 hg).1, ?_⟩
    rw [cell_of_row _ _ _ _ _ _ hg]
    have e1 : ((cur.toList.drop off).take l.length)[j]? = some (.int .i64 (l.getD j 0)) := by
      rw [h4]
      simp [List.getElem?_map, List.getD, hj, iV]
    rw [List.getElem?_take, if_pos hj, List.getElem?_drop] at e1
    simpa using e1
/-- its tail -/
theorem ORow.tail {w : World} {g off cap : Nat} {l : List Int} (h : ORow w (.slice (some ⟨g, off, none⟩) l.length cap) l) {k : Nat} (hk : k ≤ l.length) (hc : k < cap) : ORow w (.slice (some ⟨g, off + k, none⟩) (l.length - k) (cap - k)) (l.drop k) := by
  rcases h with ⟨e, _⟩ | ⟨g', off', cap', cur, e, hg, h1, h2, h3, h4⟩
  · cases e
  · simp only [Value.slice.injEq, Option.some.injEq, Addr.mk.injEq] at e
    obtain ⟨⟨rfl, rfl, -⟩, -, rfl⟩ := e
    refine .inr ⟨g, off + k, cap - k, cur, by rw [List.length_drop], hg, by omega, by rw [List.length_drop]; omega, by omega, ?_⟩
    rw [List.length_drop, List.map_drop, ← h4, List.drop_take, List.drop_drop]
theorem ORow.gone {w : World} {g off : Nat} {l : List Int} {cap : Nat} (h : ORow w (.slice (some ⟨g, off, none⟩) l.length cap) l) : ORow w (.slice (some ⟨g, off, none⟩) 0 0) [] := by
  rcases h with ⟨e, _⟩ | ⟨g', off', cap', cur, e, hg, h1, h2, h3, h4⟩
  · cases e
  · simp only [Value.slice.injEq, Option.some.injEq, Addr.mk.injEq] at e
    obtain ⟨⟨rfl, rfl, -⟩, -, rfl⟩ := e
    exact .inr ⟨g, off, 0, cur, rfl, hg, by omega, Nat.le_refl _, Nat.zero_le _, by simp⟩
end Go.Proofs.Ytijfnacplikibaa
