import Derived.Test.YtcdmkbjibcahcabTGi
namespace Go.Proofs.Ytcdmkbjibcahcab
open Go.RowKit
set_option linter.unusedVariables false
set_option linter.unusedSimpArgs false
set_option maxRecDepth 20000

/-- the book's row, and its lists of what was kept and what is wanted -/
structure BW (x : World) (b : Nat) (fv wv kv tv : Value) (mk : Nat) (K T : VL) : Prop where
  row : x.heap[b]? = some (.cells #[fv, wv, kv, tv, .int .i64 (mk : Int)] 32 (0, 0))
  k : x.ownsRow 0 46 1 kv K.length (K.map Prod.fst)
  t : x.ownsRow 0 46 1 tv T.length (T.map Prod.fst)
  ne : ∀ g, kv.ownBlock = some g → tv.ownBlock ≠ some g
theorem vrow_cells {x : World} {v : Value} {n : Nat} {xs : List Value} (h : x.ownsRow 0 46 1 v n xs) {g : Nat} (e : v.ownBlock = some g) : ∃ cs, x.heap[g]? = some (.cells cs 46 (0, 0)) := by
  rcases h.2 with ⟨rfl, hz⟩ | ⟨g', cap, cur, rfl, _, hg, _⟩
  · simp [Value.ownBlock] at e
  · simp only [Value.ownBlock, Option.some.injEq] at e
    subst e
    exact ⟨cur, hg⟩
theorem vrow_form {x : World} {v : Value} {n : Nat} {xs : List Value} (h : x.ownsRow 0 46 1 v n xs) : ∃ a c, v = .slice a n c := by
  rcases h.2 with ⟨rfl, hz⟩ | ⟨g', cap, cur, rfl, _, hg, _⟩
  · exact ⟨none, 0, by rw [hz]⟩
  · exact ⟨_, _, rfl⟩
section
variable {x y w3 : World} {b : Nat} {fv wv kv tv kv' tv' : Value} {mk : Nat} {K T : VL} {u : Value × List En}
theorem BW.calm (h : BW x b fv wv kv tv mk K T) (hb : Below x.heap.size x y) : BW y b fv wv kv tv mk K T :=
  ⟨(hb.block b (Array.getElem?_eq_some_iff.1 h.row).1).trans h.row, rowKept h.k fun g e => hb.block g (World.ownsRow.lt h.k g e).2, rowKept h.t fun g e => hb.block g (World.ownsRow.lt h.t g e).2, h.ne⟩
theorem BW.c2 (h : BW x b fv wv kv tv mk K T) : x.cell? ⟨b, 2, none⟩ = some kv := by rw [cell_of_row _ _ _ _ _ _ h.row]; rfl
theorem BW.c3 (h : BW x b fv wv kv tv mk K T) : x.cell? ⟨b, 3, none⟩ = some tv := by rw [cell_of_row _ _ _ _ _ _ h.row]; rfl
theorem BW.pushK (h : BW y b fv wv kv tv mk K T) (ho : w3.ownsRow 0 46 1 kv' (K ++ [u]).length ((K ++ [u]).map Prod.fst)) (ha : App y w3 kv kv') :
    BW (w3.setCell ⟨b, 2, none⟩ kv') b fv wv kv' tv mk (K ++ [u]) T ∧ Chg (fun g => g = b ∨ kv.ownBlock = some g) y (w3.setCell ⟨b, 2, none⟩ kv') ∧ w3.cell? ⟨b, 2, none⟩ = some kv ∧ w3.frozen? ⟨b, 2, none⟩ = false := by
  have hbl := (Array.getElem?_eq_some_iff.1 h.row).1
  have kb : kv.ownBlock ≠ some b := fun e => by
    obtain ⟨cs, hc⟩ := vrow_cells h.k e
    exact neType hc h.row (by decide) rfl
  have hrow := (ha.chg.keep b hbl kb).trans h.row
  have kb' : ∀ g, kv'.ownBlock = some g → g ≠ b := fun g e e2 => by
    subst e2
    obtain ⟨cs, hc⟩ := vrow_cells ho e
    exact neType hc hrow (by decide) rfl
  have tb : ∀ g, tv.ownBlock = some g → g ≠ b := fun g e e2 => by
    subst e2
    obtain ⟨cs, hc⟩ := vrow_cells h.t e
    exact neType hc h.row (by decide) rfl
  refine ⟨⟨Go.heap_setCell_same w3 b 2 _ 32 _ hrow, rowKept ho fun g e => Go.heap_setCell_other _ _ _ _ (by exact kb' g e), rowKept h.t fun g e => (Go.heap_setCell_other _ _ _ _ (by exact tb g e)).trans (ha.chg.keep g (World.ownsRow.lt h.t g e).2 fun e2 => h.ne g e2 e), fun g e e2 => ?_⟩, chg_set (U := fun g => g = b ∨ kv.ownBlock = some g) ⟨ha.chg.os, ha.chg.tape, ha.chg.output, ha.chg.size, fun g hg hn => ha.chg.keep g hg fun e => hn (.inr e)⟩ b 2 _ (.inl (.inl rfl)), (cell_of_row _ _ _ _ _ _ hrow).trans rfl, frozen_of_row _ _ _ _ 32 hrow⟩
  rcases ha.loc g e with e3 | e3
  · exact h.ne g e3 e2
  · have := (World.ownsRow.lt h.t g e2).2
    omega
theorem BW.pushT (h : BW y b fv wv kv tv mk K T) (ho : w3.ownsRow 0 46 1 tv' (T ++ [u]).length ((T ++ [u]).map Prod.fst)) (ha : App y w3 tv tv') :
    BW (w3.setCell ⟨b, 3, none⟩ tv') b fv wv kv tv' mk K (T ++ [u]) ∧ Chg (fun g => g = b ∨ tv.ownBlock = some g) y (w3.setCell ⟨b, 3, none⟩ tv') ∧ w3.cell? ⟨b, 3, none⟩ = some tv ∧ w3.frozen? ⟨b, 3, none⟩ = false := by
  have hbl := (Array.getElem?_eq_some_iff.1 h.row).1
  have kb : tv.ownBlock ≠ some b := fun e => by
    obtain ⟨cs, hc⟩ := vrow_cells h.t e
    exact neType hc h.row (by decide) rfl
  have hrow := (ha.chg.keep b hbl kb).trans h.row
  have kb' : ∀ g, tv'.ownBlock = some g → g ≠ b := fun g e e2 => by
    subst e2
    obtain ⟨cs, hc⟩ := vrow_cells ho e
    exact neType hc hrow (by decide) rfl
  have tb : ∀ g, kv.ownBlock = some g → g ≠ b := fun g e e2 => by
    subst e2
    obtain ⟨cs, hc⟩ := vrow_cells h.k e
    exact neType hc h.row (by decide) rfl
  refine ⟨⟨Go.heap_setCell_same w3 b 3 _ 32 _ hrow, rowKept h.k fun g e => (Go.heap_setCell_other _ _ _ _ (by exact tb g e)).trans (ha.chg.keep g (World.ownsRow.lt h.k g e).2 fun e2 => h.ne g e e2), rowKept ho fun g e => Go.heap_setCell_other _ _ _ _ (by exact kb' g e), fun g e e2 => ?_⟩, chg_set (U := fun g => g = b ∨ tv.ownBlock = some g) ⟨ha.chg.os, ha.chg.tape, ha.chg.output, ha.chg.size, fun g hg hn => ha.chg.keep g hg fun e => hn (.inr e)⟩ b 3 _ (.inl (.inl rfl)), (cell_of_row _ _ _ _ _ _ hrow).trans rfl, frozen_of_row _ _ _ _ 32 hrow⟩
  rcases ha.loc g e2 with e3 | e3
  · exact h.ne g e e3
  · have := (World.ownsRow.lt h.k g e).2
    omega
/-- lists of writes lie apart from the book's row and from lists of lists -/
theorem ERow.beside {v : Value} {l : List En} {vv : Value} {n : Nat} {xs : List Value} (h : ERow y v l) (hr : BW y b fv wv kv tv mk K T) (hv : y.ownsRow 0 46 1 vv n xs) (hc : Chg (fun g => g = b ∨ vv.ownBlock = some g) y w3) : ERow w3 v l := h.kept fun g e => by
  obtain ⟨cs, h1⟩ := h.cells e
  refine hc.keep g (h.lt e) ?_
  rintro (e2 | e2)
  · exact neType h1 hr.row (by decide) e2
  · obtain ⟨ds, h2⟩ := vrow_cells hv e2
    exact neType h1 h2 (by decide) rfl
end
end Go.Proofs.Ytcdmkbjibcahcab
