import Derived.Test.YtijfnacplikibaaKOff5
import Derived.Test.YtijfnacplikibaaKFrM
import Derived.Test.YtijfnacplikibaaKAS2
namespace Go.Proofs.Ytijfnacplikibaa
open Go.RowKit
set_option linter.unusedVariables false
set_option linter.unusedSimpArgs false
set_option maxRecDepth 20000

/-- a ledger's blocks -/
def LU (q : Nat) (wv mv hv : Value) (g : Nat) : Prop := g = q ∨ wv.ownBlock = some g ∨ mv.ownBlock = some g ∨ hv.ownBlock = some g
/-- a ledger in memory: who waits, in which mode, who holds -/
structure LG (N : Nat) (x : World) (q : Nat) (wv mv hv : Value) (lw lm lh : List Int) : Prop where
  row : x.heap[q]? = some (.cells #[wv, mv, hv] 46 (0, 0))
  ow : ORow x wv lw
  om : ORow x mv lm
  oh : ORow x hv lh
  lo : ∀ g, LU q wv mv hv g → N ≤ g
  a1 : ∀ g, wv.ownBlock = some g → mv.ownBlock ≠ some g ∧ hv.ownBlock ≠ some g
  a2 : ∀ g, mv.ownBlock = some g → hv.ownBlock ≠ some g
theorem ORow.cellsOf {w : World} {v : Value} {l : List Int} (h : ORow w v l) {g : Nat} (e : v.ownBlock = some g) : ∃ cs, w.heap[g]? = some (.cells cs 3 (0, 0)) := by
  rcases h with ⟨rfl, _⟩ | ⟨g', off, cap, cur, rfl, hg, _⟩
  · simp [Value.ownBlock] at e
  · simp only [Value.ownBlock, Option.some.injEq] at e
    subst e
    exact ⟨cur, hg⟩
section
variable {N : Nat} {x y : World} {q : Nat} {wv mv hv : Value} {lw lm lh : List Int}
theorem LG.kept (h : LG N x q wv mv hv lw lm lh) (hk : ∀ g, LU q wv mv hv g → y.heap[g]? = x.heap[g]?) : LG N y q wv mv hv lw lm lh :=
  ⟨(hk q (.inl rfl)).trans h.row, h.ow.kept fun g e => hk g (.inr (.inl e)), h.om.kept fun g e => hk g (.inr (.inr (.inl e))), h.oh.kept fun g e => hk g (.inr (.inr (.inr e))), h.lo, h.a1, h.a2⟩
theorem LG.cells (h : LG N x q wv mv hv lw lm lh) {g : Nat} (e : LU q wv mv hv g) : (g = q ∧ x.heap[g]? = some (.cells #[wv, mv, hv] 46 (0, 0))) ∨ ∃ cs, x.heap[g]? = some (.cells cs 3 (0, 0)) := by
  rcases e with rfl | e | e | e
  · exact .inl ⟨rfl, h.row⟩
  · exact .inr (h.ow.cellsOf e)
  · exact .inr (h.om.cellsOf e)
  · exact .inr (h.oh.cellsOf e)
theorem LG.lt (h : LG N x q wv mv hv lw lm lh) {g : Nat} (e : LU q wv mv hv g) : g < x.heap.size := by
  rcases h.cells e with ⟨_, hc⟩ | ⟨cs, hc⟩ <;> exact (Array.getElem?_eq_some_iff.1 hc).1
theorem LG.below (h : LG N x q wv mv hv lw lm lh) (hb : Below x.heap.size x y) : LG N y q wv mv hv lw lm lh := h.kept fun g e => hb.block g (h.lt e)
theorem LG.nt (h : LG N x q wv mv hv lw lm lh) {p b n : Nat} {m : Int} {V : Nat → Value} {L : LL} {ws wt : Int} (ht : TRep x p b m n V L ws wt) {g : Nat} (e : LU q wv mv hv g) : ¬ TU p b n V g := by
  rcases h.cells e with ⟨_, hc⟩ | ⟨cs, hc⟩
  · exact ht.nt hc (by decide) (by decide) (by decide)
  · exact ht.nt hc (by decide) (by decide) (by decide)
/-- the table turns -/
theorem LG.tr (h : LG N x q wv mv hv lw lm lh) {p b n : Nat} {m : Int} {V V' : Nat → Value} {L : LL} {ws wt : Int} (ht : TRep x p b m n V L ws wt) (htr : Tr (fun _ => False) x y (TU p b n V) (TU p b n V')) : LG N y q wv mv hv lw lm lh :=
  h.kept fun g e => htr.chg.keep g (h.lt e) fun hu => hu.elim (h.nt ht e) id
theorem LG.ask (h : LG N x q wv mv hv lw lm lh) {p b n : Nat} {m : Int} {V : Nat → Value} {L : LL} {ws wt : Int} (ht : TRep x p b m n V L ws wt) (hc : Chg (· = p) x y) : LG N y q wv mv hv lw lm lh :=
  h.kept fun g e => hc.keep g (h.lt e) fun hu => h.nt ht e (.inl hu)
theorem LG.qne (h : LG N x q wv mv hv lw lm lh) : wv.ownBlock ≠ some q ∧ mv.ownBlock ≠ some q ∧ hv.ownBlock ≠ some q := by
  refine ⟨fun e => ?_, fun e => ?_, fun e => ?_⟩
  · obtain ⟨cs, hc⟩ := h.ow.cellsOf e
    exact neType hc h.row (by decide) rfl
  · obtain ⟨cs, hc⟩ := h.om.cellsOf e
    exact neType hc h.row (by decide) rfl
  · obtain ⟨cs, hc⟩ := h.oh.cellsOf e
    exact neType hc h.row (by decide) rfl
theorem LG.c0 (h : LG N x q wv mv hv lw lm lh) : x.cell? ⟨q, 0, none⟩ = some wv := by rw [cell_of_row _ _ _ _ _ _ h.row]; rfl
theorem LG.c1 (h : LG N x q wv mv hv lw lm lh) : x.cell? ⟨q, 1, none⟩ = some mv := by rw [cell_of_row _ _ _ _ _ _ h.row]; rfl
theorem LG.c2 (h : LG N x q wv mv hv lw lm lh) : x.cell? ⟨q, 2, none⟩ = some hv := by rw [cell_of_row _ _ _ _ _ _ h.row]; rfl
theorem LG.f (h : LG N x q wv mv hv lw lm lh) (i : Nat) : x.frozen? ⟨q, i, none⟩ = false := frozen_of_row _ _ _ _ 46 h.row
/-- the ledger turns: the table stays -/
theorem AS.led {w : World} {p b n : Nat} {V : Nat → Value} {L : LL} {ws wt : Int} {B : Nat} (h : AS w x p b n V L ws wt B) (hl : LG w.heap.size x q wv mv hv lw lm lh) (hc : Chg (LU q wv mv hv) x y) : AS w y p b n V L ws wt B :=
  ⟨h.t.kept fun g hg => hc.keep g (h.t.lt g hg) fun e => hl.nt h.t e hg, h.wf, h.ok, h.bel.trans (hc.below h.bel.size fun g e => hl.lo g e), h.lo⟩
/-- one list is written -/
theorem LG.putW (h : LG N x q wv mv hv lw lm lh) {wv' : Value} {lw' : List Int} (ho : ORow y wv' lw') (hc : Chg (fun g => wv.ownBlock = some g) x y) (hl : ∀ g, wv'.ownBlock = some g → N ≤ g ∧ g ≠ q ∧ mv.ownBlock ≠ some g ∧ hv.ownBlock ≠ some g) :
    LG N (y.setCell ⟨q, 0, none⟩ wv') q wv' mv hv lw' lm lh ∧ Chg (LU q wv mv hv) x (y.setCell ⟨q, 0, none⟩ wv') ∧ y.cell? ⟨q, 0, none⟩ = some wv ∧ y.frozen? ⟨q, 0, none⟩ = false := by
  obtain ⟨n1, n2, n3⟩ := h.qne
  have hq := h.lt (g := q) (.inl rfl)
  have hrow : y.heap[q]? = some (.cells #[wv, mv, hv] 46 (0, 0)) := (hc.keep q hq n1).trans h.row
  have hset : ∀ g, g ≠ q → (y.setCell ⟨q, 0, none⟩ wv').heap[g]? = y.heap[g]? := fun g hne => Go.heap_setCell_other _ _ _ _ hne
  have dis : ∀ g, wv.ownBlock = some g → mv.ownBlock ≠ some g ∧ hv.ownBlock ≠ some g := fun g e => ⟨fun e2 => (h.a1 g e).1 e2, fun e2 => (h.a1 g e).2 e2⟩
  refine ⟨⟨Go.heap_setCell_same y q 0 _ 46 _ hrow, ?_, ?_, ?_, ?_, ?_, ?_⟩, ⟨hc.os, hc.tape, hc.output, by rw [World.size_setCell]; exact hc.size, fun g hg hn => (hset g fun e => hn (.inl e)).trans (hc.keep g hg fun e => hn (.inr (.inl e)))⟩, by rw [cell_of_row _ _ _ _ _ _ hrow]; rfl, frozen_of_row _ _ _ _ _ hrow⟩
  · exact ho.kept fun g e => hset g (hl g e).2.1
  · exact h.om.kept fun g e => (hset g fun e2 => n2 (e2 ▸ e)).trans (hc.keep g (h.lt (.inr (.inr (.inl e)))) fun e3 => (dis g e3).1 e)
  · exact h.oh.kept fun g e => (hset g fun e2 => n3 (e2 ▸ e)).trans (hc.keep g (h.lt (.inr (.inr (.inr e)))) fun e3 => (dis g e3).2 e)
  · rintro g (e | e | e | e)
    · exact h.lo g (.inl e)
    · exact (hl g e).1
    · exact h.lo g (.inr (.inr (.inl e)))
    · exact h.lo g (.inr (.inr (.inr e)))
  · exact fun g e => ⟨(hl g e).2.2.1, (hl g e).2.2.2⟩
  · exact h.a2
theorem LG.appW (h : LG N x q wv mv hv lw lm lh) (hN : N ≤ x.heap.size) {wv' : Value} {lw' : List Int} (ho : ORow y wv' lw') (ha : App x y wv wv') :
    LG N (y.setCell ⟨q, 0, none⟩ wv') q wv' mv hv lw' lm lh ∧ Chg (LU q wv mv hv) x (y.setCell ⟨q, 0, none⟩ wv') ∧ y.cell? ⟨q, 0, none⟩ = some wv ∧ y.frozen? ⟨q, 0, none⟩ = false := by
  refine h.putW ho ha.chg fun g e => ?_
  have hq := h.lt (g := q) (.inl rfl)
  obtain ⟨n1, n2, n3⟩ := h.qne
  rcases ha.loc g e with e | e1
  · exact ⟨h.lo g (.inr (.inl e)), fun e2 => n1 (e2 ▸ e), h.a1 g e⟩
  · exact ⟨by omega, by omega, fun e2 => by have := h.lt (.inr (.inr (.inl e2)) : LU q wv mv hv g); omega, fun e2 => by have := h.lt (.inr (.inr (.inr e2)) : LU q wv mv hv g); omega⟩
/-- one list is written -/
theorem LG.putM (h : LG N x q wv mv hv lw lm lh) {mv' : Value} {lm' : List Int} (ho : ORow y mv' lm') (hc : Chg (fun g => mv.ownBlock = some g) x y) (hl : ∀ g, mv'.ownBlock = some g → N ≤ g ∧ g ≠ q ∧ wv.ownBlock ≠ some g ∧ hv.ownBlock ≠ some g) :
    LG N (y.setCell ⟨q, 1, none⟩ mv') q wv mv' hv lw lm' lh ∧ Chg (LU q wv mv hv) x (y.setCell ⟨q, 1, none⟩ mv') ∧ y.cell? ⟨q, 1, none⟩ = some mv ∧ y.frozen? ⟨q, 1, none⟩ = false := by
  obtain ⟨n1, n2, n3⟩ := h.qne
  have hq := h.lt (g := q) (.inl rfl)
  have hrow : y.heap[q]? = some (.cells #[wv, mv, hv] 46 (0, 0)) := (hc.keep q hq n2).trans h.row
  have hset : ∀ g, g ≠ q → (y.setCell ⟨q, 1, none⟩ mv').heap[g]? = y.heap[g]? := fun g hne => Go.heap_setCell_other _ _ _ _ hne
  have dis : ∀ g, mv.ownBlock = some g → wv.ownBlock ≠ some g ∧ hv.ownBlock ≠ some g := fun g e => ⟨fun e2 => (h.a1 g e2).1 e, fun e2 => h.a2 g e e2⟩
  refine ⟨⟨Go.heap_setCell_same y q 1 _ 46 _ hrow, ?_, ?_, ?_, ?_, ?_, ?_⟩, ⟨hc.os, hc.tape, hc.output, by rw [World.size_setCell]; exact hc.size, fun g hg hn => (hset g fun e => hn (.inl e)).trans (hc.keep g hg fun e => hn (.inr (.inr (.inl e))))⟩, by rw [cell_of_row _ _ _ _ _ _ hrow]; rfl, frozen_of_row _ _ _ _ _ hrow⟩
  · exact h.ow.kept fun g e => (hset g fun e2 => n1 (e2 ▸ e)).trans (hc.keep g (h.lt (.inr (.inl e))) fun e3 => (dis g e3).1 e)
  · exact ho.kept fun g e => hset g (hl g e).2.1
  · exact h.oh.kept fun g e => (hset g fun e2 => n3 (e2 ▸ e)).trans (hc.keep g (h.lt (.inr (.inr (.inr e)))) fun e3 => (dis g e3).2 e)
  · rintro g (e | e | e | e)
    · exact h.lo g (.inl e)
    · exact h.lo g (.inr (.inl e))
    · exact (hl g e).1
    · exact h.lo g (.inr (.inr (.inr e)))
  · exact fun g e => ⟨fun e2 => (hl g e2).2.2.1 e, (h.a1 g e).2⟩
  · exact fun g e => (hl g e).2.2.2
theorem LG.appM (h : LG N x q wv mv hv lw lm lh) (hN : N ≤ x.heap.size) {mv' : Value} {lm' : List Int} (ho : ORow y mv' lm') (ha : App x y mv mv') :
    LG N (y.setCell ⟨q, 1, none⟩ mv') q wv mv' hv lw lm' lh ∧ Chg (LU q wv mv hv) x (y.setCell ⟨q, 1, none⟩ mv') ∧ y.cell? ⟨q, 1, none⟩ = some mv ∧ y.frozen? ⟨q, 1, none⟩ = false := by
  refine h.putM ho ha.chg fun g e => ?_
  have hq := h.lt (g := q) (.inl rfl)
  obtain ⟨n1, n2, n3⟩ := h.qne
  rcases ha.loc g e with e | e1
  · exact ⟨h.lo g (.inr (.inr (.inl e))), fun e2 => n2 (e2 ▸ e), ⟨fun e2 => (h.a1 g e2).1 e, h.a2 g e⟩⟩
  · exact ⟨by omega, by omega, fun e2 => by have := h.lt (.inr (.inl e2) : LU q wv mv hv g); omega, fun e2 => by have := h.lt (.inr (.inr (.inr e2)) : LU q wv mv hv g); omega⟩
/-- one list is written -/
theorem LG.putH (h : LG N x q wv mv hv lw lm lh) {hv' : Value} {lh' : List Int} (ho : ORow y hv' lh') (hc : Chg (fun g => hv.ownBlock = some g) x y) (hl : ∀ g, hv'.ownBlock = some g → N ≤ g ∧ g ≠ q ∧ wv.ownBlock ≠ some g ∧ mv.ownBlock ≠ some g) :
    LG N (y.setCell ⟨q, 2, none⟩ hv') q wv mv hv' lw lm lh' ∧ Chg (LU q wv mv hv) x (y.setCell ⟨q, 2, none⟩ hv') ∧ y.cell? ⟨q, 2, none⟩ = some hv ∧ y.frozen? ⟨q, 2, none⟩ = false := by
  obtain ⟨n1, n2, n3⟩ := h.qne
  have hq := h.lt (g := q) (.inl rfl)
  have hrow : y.heap[q]? = some (.cells #[wv, mv, hv] 46 (0, 0)) := (hc.keep q hq n3).trans h.row
  have hset : ∀ g, g ≠ q → (y.setCell ⟨q, 2, none⟩ hv').heap[g]? = y.heap[g]? := fun g hne => Go.heap_setCell_other _ _ _ _ hne
  have dis : ∀ g, hv.ownBlock = some g → wv.ownBlock ≠ some g ∧ mv.ownBlock ≠ some g := fun g e => ⟨fun e2 => (h.a1 g e2).2 e, fun e2 => h.a2 g e2 e⟩
  refine ⟨⟨Go.heap_setCell_same y q 2 _ 46 _ hrow, ?_, ?_, ?_, ?_, ?_, ?_⟩, ⟨hc.os, hc.tape, hc.output, by rw [World.size_setCell]; exact hc.size, fun g hg hn => (hset g fun e => hn (.inl e)).trans (hc.keep g hg fun e => hn (.inr (.inr (.inr e))))⟩, by rw [cell_of_row _ _ _ _ _ _ hrow]; rfl, frozen_of_row _ _ _ _ _ hrow⟩
  · exact h.ow.kept fun g e => (hset g fun e2 => n1 (e2 ▸ e)).trans (hc.keep g (h.lt (.inr (.inl e))) fun e3 => (dis g e3).1 e)
  · exact h.om.kept fun g e => (hset g fun e2 => n2 (e2 ▸ e)).trans (hc.keep g (h.lt (.inr (.inr (.inl e)))) fun e3 => (dis g e3).2 e)
  · exact ho.kept fun g e => hset g (hl g e).2.1
  · rintro g (e | e | e | e)
    · exact h.lo g (.inl e)
    · exact h.lo g (.inr (.inl e))
    · exact h.lo g (.inr (.inr (.inl e)))
    · exact (hl g e).1
  · exact fun g e => ⟨(h.a1 g e).1, fun e2 => (hl g e2).2.2.1 e⟩
  · exact fun g e e2 => (hl g e2).2.2.2 e
theorem LG.appH (h : LG N x q wv mv hv lw lm lh) (hN : N ≤ x.heap.size) {hv' : Value} {lh' : List Int} (ho : ORow y hv' lh') (ha : App x y hv hv') :
    LG N (y.setCell ⟨q, 2, none⟩ hv') q wv mv hv' lw lm lh' ∧ Chg (LU q wv mv hv) x (y.setCell ⟨q, 2, none⟩ hv') ∧ y.cell? ⟨q, 2, none⟩ = some hv ∧ y.frozen? ⟨q, 2, none⟩ = false := by
  refine h.putH ho ha.chg fun g e => ?_
  have hq := h.lt (g := q) (.inl rfl)
  obtain ⟨n1, n2, n3⟩ := h.qne
  rcases ha.loc g e with e | e1
  · exact ⟨h.lo g (.inr (.inr (.inr e))), fun e2 => n3 (e2 ▸ e), ⟨fun e2 => (h.a1 g e2).2 e, fun e2 => h.a2 g e2 e⟩⟩
  · exact ⟨by omega, by omega, fun e2 => by have := h.lt (.inr (.inl e2) : LU q wv mv hv g); omega, fun e2 => by have := h.lt (.inr (.inr (.inl e2)) : LU q wv mv hv g); omega⟩
end
end Go.Proofs.Ytijfnacplikibaa
