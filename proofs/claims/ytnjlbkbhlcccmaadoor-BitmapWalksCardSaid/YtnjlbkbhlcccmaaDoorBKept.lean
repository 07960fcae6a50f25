import Derived.Test.YtnjlbkbhlcccmaaDoorBIntact
namespace Go.Proofs.YtnjlbkbhlcccmaaDoor
open Go.RowKit Go.Shelf
set_option linter.unusedVariables false
set_option linter.unusedSimpArgs false
set_option maxRecDepth 20000

/-- the book in memory: its lists, and what it keeps as it came -/
structure BkS (w : World) (k : Nat) (late : Bool) (bv raw was : Value) (ys vs us : List Value) : Prop where
  row : w.heap[k]? = some (.cells #[bv, .bool late, raw, was] 32 (0, 0))
  bo : w.ownsRow 0 22 1 bv ys.length ys
  ro : w.ownsRow 0 22 1 raw vs.length vs
  wo : w.ownsRow 0 22 1 was us.length us
  len : us.length = vs.length
  re : ∀ (j : Nat) (u v : Value), vs[j]? = some v → us[j]? = some u → ∃ l1 l2, WSl w v l1 ∧ WSl w u l2 ∧ (late = true → l1 = l2)
  le : ∀ (j : Nat) (v : Value), ys[j]? = some v → ∃ m, WSl w v (List.replicate m (mk (j - j % 2)))
theorem BkS.heap {w w' : World} {k : Nat} {late : Bool} {bv raw was : Value} {ys vs us : List Value} (h : BkS w k late bv raw was ys vs us) (e : w'.heap = w.heap) : BkS w' k late bv raw was ys vs us := by
  have hk : ∀ b : Nat, w'.heap[b]? = w.heap[b]? := fun b => by rw [e]
  refine ⟨(hk _).trans h.row, rowKept h.bo fun g _ => hk g, rowKept h.ro fun g _ => hk g, rowKept h.wo fun g _ => hk g, h.len, fun j u v h1 h2 => ?_, fun j v h1 => ?_⟩
  · obtain ⟨l1, l2, a, b, c⟩ := h.re j u v h1 h2
    exact ⟨l1, l2, a.keptIf fun g _ _ => hk g, b.keptIf fun g _ _ => hk g, c⟩
  · obtain ⟨m, a⟩ := h.le j v h1
    exact ⟨m, a.keptIf fun g _ _ => hk g⟩
theorem BkS.c {w : World} {k : Nat} {late : Bool} {bv raw was : Value} {ys vs us : List Value} (h : BkS w k late bv raw was ys vs us) (i : Nat) : w.cell? ⟨k, i, none⟩ = (#[bv, .bool late, raw, was] : Array Value)[i]? := cell_of_row _ _ _ _ _ _ h.row
theorem rowCell {w : World} {e : TypeId} {v : Value} {xs : List Value} (h : w.ownsRow 0 e 1 v xs.length xs) {j : Nat} {x : Value} (hj : xs[j]? = some x) : ∃ g cap, v = .slice (some ⟨g, 0, none⟩) xs.length cap ∧ w.cell? ⟨g, j, none⟩ = some x := by
  have hl : j < xs.length := (List.getElem?_eq_some_iff.1 hj).1
  have h' := h
  rcases h.2 with ⟨_, e⟩ | ⟨g, cap, cur, rfl, _, hg, _⟩
  · omega
  · exact ⟨g, cap, rfl, by rw [h'.cellAt j (by omega)]; exact hj⟩
theorem Qt.trans {a b c : World} (h : Qt a b) (k : Qt b c) : Qt a c := ⟨k.1.trans h.1, h.2.trans (k.2.mono h.2.size)⟩
theorem Qt.drew {w w1 : World} (h : Qt w w1) : Qt w w1.drew := ⟨h.1, h.2.drew⟩

end Go.Proofs.YtnjlbkbhlcccmaaDoor
