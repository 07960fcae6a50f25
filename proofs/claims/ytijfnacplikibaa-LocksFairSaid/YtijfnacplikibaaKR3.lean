import Derived.Test.YtijfnacplikibaaKLg
namespace Go.Proofs.Ytijfnacplikibaa
open Go.RowKit
set_option linter.unusedVariables false
set_option linter.unusedSimpArgs false
set_option maxRecDepth 20000

/-- three new lists -/
structure R3 (x y : World) (v1 v2 v3 : Value) (l1 l2 l3 : List Int) : Prop where
  bel : Below x.heap.size x y
  o1 : ORow y v1 l1
  o2 : ORow y v2 l2
  o3 : ORow y v3 l3
  n1 : ∀ g, v1.ownBlock = some g → x.heap.size ≤ g
  n2 : ∀ g, v2.ownBlock = some g → x.heap.size ≤ g
  n3 : ∀ g, v3.ownBlock = some g → x.heap.size ≤ g
  a12 : ∀ g, v1.ownBlock = some g → v2.ownBlock ≠ some g
  a23 : ∀ g, v2.ownBlock = some g → v3.ownBlock ≠ some g
  a31 : ∀ g, v3.ownBlock = some g → v1.ownBlock ≠ some g
section
variable {x y z : World} {v1 v2 v3 v' : Value} {l1 l2 l3 l' : List Int}
theorem R3.rot (h : R3 x y v1 v2 v3 l1 l2 l3) : R3 x y v2 v3 v1 l2 l3 l1 := ⟨h.bel, h.o2, h.o3, h.o1, h.n2, h.n3, h.n1, h.a23, h.a31, h.a12⟩
theorem R3.calm (h : R3 x y v1 v2 v3 l1 l2 l3) (hb : Below y.heap.size y z) : R3 x z v1 v2 v3 l1 l2 l3 :=
  ⟨h.bel.trans (hb.mono h.bel.size), h.o1.kept fun g e => hb.block g (h.o1.lt e), h.o2.kept fun g e => hb.block g (h.o2.lt e), h.o3.kept fun g e => hb.block g (h.o3.lt e), h.n1, h.n2, h.n3, h.a12, h.a23, h.a31⟩
theorem R3.app (h : R3 x y v1 v2 v3 l1 l2 l3) (ho : ORow z v' l') (ha : App y z v1 v') : R3 x z v' v2 v3 l' l2 l3 := by
  have hs := h.bel.size
  refine ⟨h.bel.trans (ha.chg.below hs h.n1), ho, h.o2.kept fun g e => ha.chg.keep g (h.o2.lt e) fun e2 => h.a12 g e2 e, h.o3.kept fun g e => ha.chg.keep g (h.o3.lt e) (h.a31 g e), fun g e => ?_, h.n2, h.n3, fun g e e2 => ?_, h.a23, fun g e e2 => ?_⟩
  · rcases ha.loc g e with e | e
    · exact h.n1 g e
    · omega
  · rcases ha.loc g e with e | e
    · exact h.a12 g e e2
    · have := h.o2.lt e2
      omega
  · rcases ha.loc g e2 with e2 | e2
    · exact h.a31 g e e2
    · have := h.o3.lt e
      omega
theorem R3.nil (x : World) : R3 x x (.slice none 0 0) (.slice none 0 0) (.slice none 0 0) [] [] [] :=
  ⟨Below.refl _ _, .inl ⟨rfl, rfl⟩, .inl ⟨rfl, rfl⟩, .inl ⟨rfl, rfl⟩, fun g e => by simp [Value.ownBlock] at e, fun g e => by simp [Value.ownBlock] at e, fun g e => by simp [Value.ownBlock] at e, fun g e => by simp [Value.ownBlock] at e, fun g e => by simp [Value.ownBlock] at e, fun g e => by simp [Value.ownBlock] at e⟩
end
/-- one number more, in new memory of its own -/
theorem new_int (w : World) (v : Int) : ∀ j u, [Value.int .i64 v][j]? = some u → (w.alloc (.cells #[.int .i64 v] 3)).cell? ((⟨w.heap.size, 0, none⟩ : Addr).add j) = some u := fun j u h => by
  have : (w.alloc (.cells #[.int .i64 v] 3)).heap[w.heap.size]? = some (.cells #[.int .i64 v] 3 (0, 0)) := Go.heap_alloc_new _ _
  rw [Addr.add_lit, cell_of_row _ _ _ _ _ _ this]
  simpa using h
theorem alloc_calm (w : World) (o : Obj) : Below w.heap.size w (w.alloc o) := (Below.refl _ _).alloc (Nat.le_refl _) _
theorem wo_step (l : List (Int × Int)) (o : Int) {k : Nat} (hk : k < l.length) : wo (l.take (k + 1)) o = if (l.getD k (0, 0)).1 = o then wo (l.take k) o else wo (l.take k) o ++ [l.getD k (0, 0)] := by
  have hg : l.getD k (0, 0) = l[k] := by simp [List.getD, hk]
  rw [hg, List.take_add_one, List.getElem?_eq_getElem hk]
  unfold wo
  rw [List.filter_append]
  by_cases e : l[k].1 = o
  · rw [if_pos e]
    simp [e]
  · rw [if_neg e]
    simp [e]
/-- the ledger's three lists are new ones -/
theorem LG.all {N q : Nat} {x y : World} {wv mv hv v1 v2 v3 : Value} {lw lm lh l1 l2 l3 : List Int} (h : LG N x q wv mv hv lw lm lh) (hr : R3 x y v1 v2 v3 l1 l2 l3) (hN : N ≤ x.heap.size) :
    y.cell? ⟨q, 0, none⟩ = some wv ∧ (y.setCell ⟨q, 0, none⟩ v1).cell? ⟨q, 1, none⟩ = some mv ∧ ((y.setCell ⟨q, 0, none⟩ v1).setCell ⟨q, 1, none⟩ v2).cell? ⟨q, 2, none⟩ = some hv ∧
    y.frozen? ⟨q, 0, none⟩ = false ∧ (y.setCell ⟨q, 0, none⟩ v1).frozen? ⟨q, 1, none⟩ = false ∧ ((y.setCell ⟨q, 0, none⟩ v1).setCell ⟨q, 1, none⟩ v2).frozen? ⟨q, 2, none⟩ = false ∧
    LG N (((y.setCell ⟨q, 0, none⟩ v1).setCell ⟨q, 1, none⟩ v2).setCell ⟨q, 2, none⟩ v3) q v1 v2 v3 l1 l2 l3 ∧ Chg (fun g => g = q) x (((y.setCell ⟨q, 0, none⟩ v1).setCell ⟨q, 1, none⟩ v2).setCell ⟨q, 2, none⟩ v3) := by
  have hs := hr.bel.size
  have hq := h.lt (g := q) (.inl rfl)
  have h0 := h.below hr.bel
  have k1 : ∀ g, v1.ownBlock = some g → g ≠ q := fun g e e2 => by have := hr.n1 g e; omega
  have k2 : ∀ g, v2.ownBlock = some g → g ≠ q := fun g e e2 => by have := hr.n2 g e; omega
  have k3 : ∀ g, v3.ownBlock = some g → g ≠ q := fun g e e2 => by have := hr.n3 g e; omega
  have old : ∀ {v : Value} {l : List Int} {g : Nat}, ORow x v l → v.ownBlock = some g → g < x.heap.size := fun h e => h.lt e
  obtain ⟨p1, -, c1, f1⟩ := h0.putW hr.o1 (Chg.refl _ _) fun g e => ⟨by have := hr.n1 g e; omega, k1 g e, fun e2 => by have := old h.om e2; have := hr.n1 g e; omega, fun e2 => by have := old h.oh e2; have := hr.n1 g e; omega⟩
  obtain ⟨p2, -, c2, f2⟩ := p1.putM (hr.o2.kept fun g e => Go.heap_setCell_other _ _ _ _ (k2 g e)) (Chg.refl _ _) fun g e => ⟨by have := hr.n2 g e; omega, k2 g e, fun e2 => hr.a12 g e2 e, fun e2 => by have := old h.oh e2; have := hr.n2 g e; omega⟩
  obtain ⟨p3, -, c3, f3⟩ := p2.putH (hr.o3.kept fun g e => (Go.heap_setCell_other _ _ _ _ (k3 g e)).trans (Go.heap_setCell_other _ _ _ _ (k3 g e))) (Chg.refl _ _) fun g e => ⟨by have := hr.n3 g e; omega, k3 g e, fun e2 => hr.a31 g e e2, fun e2 => hr.a23 g e2 e⟩
  refine ⟨c1, c2, c3, f1, f2, f3, p3, ⟨hr.bel.os, hr.bel.tape, hr.bel.output, by simpa using hs, fun g hg hn => ?_⟩⟩
  exact ((Go.heap_setCell_other _ _ _ _ hn).trans ((Go.heap_setCell_other _ _ _ _ hn).trans (Go.heap_setCell_other _ _ _ _ hn))).trans (hr.bel.block g hg)
end Go.Proofs.Ytijfnacplikibaa
