import Derived.Test.YtophcdfaflehcaaDoorWLvM
namespace Go.Proofs.YtophcdfaflehcaaDoor
open Go.RowKit
set_option linter.unusedVariables false
set_option linter.unusedSimpArgs false
set_option maxRecDepth 20000

/-- with the boxes of what was seen, and of Rest -/
structure LC (w W : World) (vb p q S : Nat) (k : Int) (X : Nat → Prop) (seen : Nat) (l1 l2 : List Int) : Prop where
  lb : LB w W vb p q k X l1 l2
  bs : W.heap[S]? = some (.cells #[.int .i64 (seen : Int)] 3 (0, 0))
  bt : W.heap[S + 1]? = some (.cells #[.pointer (some ⟨p, 0, none⟩)] 23 (0, 0))
  nX : ¬ X S
  nS : w.heap.size + 1 < S
  nv : vb < S
theorem LC.own {w W W' : World} {row : Option Nat} {K vb p q S : Nat} {k : Int} {X : Nat → Prop} {seen : Nat} {l1 l2 : List Int} (h : LC w W vb p q S k X seen l1 l2) (hK : w.heap.size ≤ K) (hg : W.grownBy W' row) (hr : ∀ r, row = some r → K ≤ r ∧ ∃ o : Obj, W.heap[r]? = some o ∧ o.isCells = false) : LC w W' vb p q S k X seen l1 l2 :=
  ⟨h.lb.own hK hg hr, own_blk h.bs hg hr, own_blk h.bt hg hr, h.nX, h.nS, h.nv⟩
theorem LC.moveP {w W W' : World} {vb p q S : Nat} {k : Int} {X : Nat → Prop} {seen : Nat} {l1 l1' l2 : List Int} (h : LC w W vb p q S k X seen l1 l2) (h1 : WX W' X p l1') (hc : Chg (fun b => b = p) W W') : LC w W' vb p q S k X seen l1' l2 := by
  obtain ⟨lv, hrow⟩ := h.lb.wp.row
  exact ⟨h.lb.moveP h1 hc, (hc.keep _ (Array.getElem?_eq_some_iff.1 h.bs).1 (neT h.bs hrow (by decide))).trans h.bs, (hc.keep _ (Array.getElem?_eq_some_iff.1 h.bt).1 (neT h.bt hrow (by decide))).trans h.bt, h.nX, h.nS, h.nv⟩
theorem LC.moveQ {w W W' : World} {vb p q S : Nat} {k : Int} {X : Nat → Prop} {seen : Nat} {l1 l2 l2' : List Int} (h : LC w W vb p q S k X seen l1 l2) (h1 : WX W' X q l2') (hc : Chg (fun b => b = q) W W') : LC w W' vb p q S k X seen l1 l2' := by
  obtain ⟨lv, hrow⟩ := h.lb.wq.row
  exact ⟨h.lb.moveQ h1 hc, (hc.keep _ (Array.getElem?_eq_some_iff.1 h.bs).1 (neT h.bs hrow (by decide))).trans h.bs, (hc.keep _ (Array.getElem?_eq_some_iff.1 h.bt).1 (neT h.bt hrow (by decide))).trans h.bt, h.nX, h.nS, h.nv⟩
theorem LC.nextP {w W : World} {vb p q S : Nat} {k : Int} {X : Nat → Prop} {seen : Nat} {x : Int} {l1 l2 : List Int} (h : LC w W vb p q S k X seen (x :: l1) l2) : Calls Tryd.prog 12 #[.pointer (some ⟨p, 0, none⟩)] W fun e w' => e = .returned (.tuple #[.int .i64 x, .int .i64 0]) ∧ LC w w' vb p q S k X seen l1 l2 ∧ Chg (fun k => k = p) W w' :=
  h.lb.wp.nextS.mono fun e w' ⟨h1, h2, h3⟩ => ⟨h1, h.moveP h2 h3, h3⟩
theorem LC.nextQ {w W : World} {vb p q S : Nat} {k : Int} {X : Nat → Prop} {seen : Nat} {x : Int} {l1 l2 : List Int} (h : LC w W vb p q S k X seen l1 (x :: l2)) : Calls Tryd.prog 12 #[.pointer (some ⟨q, 0, none⟩)] W fun e w' => e = .returned (.tuple #[.int .i64 x, .int .i64 0]) ∧ LC w w' vb p q S k X seen l1 l2 ∧ Chg (fun k => k = q) W w' :=
  h.lb.wq.nextS.mono fun e w' ⟨h1, h2, h3⟩ => ⟨h1, h.moveQ h2 h3, h3⟩
theorem LC.see {w W : World} {vb p q S : Nat} {k : Int} {X : Nat → Prop} {seen : Nat} {l1 l2 : List Int} (h : LC w W vb p q S k X seen l1 l2) {z : Int} (hz : z = ((seen + 1 : Nat) : Int)) : LC w (W.setCell ⟨S, 0, none⟩ (.int .i64 z)) vb p q S k X (seen + 1) l1 l2 := by
  subst hz
  have oth : ∀ b, b ≠ S → (W.setCell ⟨S, 0, none⟩ (.int .i64 ((seen + 1 : Nat) : Int))).heap[b]? = W.heap[b]? := fun b hb => Go.heap_setCell_other _ _ _ _ hb
  obtain ⟨lv, hrow⟩ := h.lb.wp.row
  obtain ⟨mv, hrow2⟩ := h.lb.wq.row
  refine ⟨h.lb.kept (h.lb.bel.setCell (p := ⟨S, 0, none⟩) (by show w.heap.size ≤ S; have := h.nS; omega) _) fun b cs t hb h' => (oth b ?_).trans hb, ?_, (oth _ (by omega)).trans h.bt, h.nX, h.nS, h.nv⟩
  · have := h.nS
    have := h.nv
    rcases h' with rfl | rfl | rfl | rfl | rfl | ⟨rfl, hx⟩
    · omega
    · omega
    · omega
    · exact (neT h.bs hrow (by decide)).symm
    · exact (neT h.bs hrow2 (by decide)).symm
    · exact fun e => h.nX (e ▸ hx)
  · rw [Go.heap_setCell_same _ _ 0 _ 3 _ h.bs]; rfl
theorem Chg.keeps {U : Nat → Prop} {W W' : World} (h : Chg U W W') (hU : ∀ b, U b → ∃ cs t, W.heap[b]? = some (.cells cs t (0, 0))) (K : Nat) : KeepsFrom K W W' := ⟨h.size, fun b o _ ho hc => (h.keep b (Array.getElem?_eq_some_iff.1 ho).1 fun hu => by
  obtain ⟨cs, t, hb⟩ := hU b hu
  rw [hb] at ho
  cases ho
  simp [Obj.isCells] at hc).trans ho⟩
/-- what stands between two rounds -/
def LI (w : World) (vb p q S T : Nat) (k : Int) (X : Nat → Prop) (s : RSt) (W : World) : Prop := match s.2 with
  | none => ∃ L seen, L.length ≤ s.1 ∧ seen + L.length = T ∧ (seen : Int) < k ∧ LC w W vb p q S k X seen L L
  | some x => ∃ L seen, L.length ≤ s.1 ∧ seen + 1 + L.length = T ∧ (seen : Int) < k ∧ LC w W vb p q S k X seen L (x :: L)
def LX (w : World) (vb p q S T : Nat) (k : Int) (X : Nat → Prop) (c : Code) (W : World) : Prop := c = .exit 0 ∧ ∃ L seen, seen + L.length = T ∧ (seen : Int) = k ∧ LC w W vb p q S k X seen L L
theorem LI.own {w W W' : World} {row : Option Nat} {K vb p q S T : Nat} {k : Int} {X : Nat → Prop} {s : RSt} (h : LI w vb p q S T k X s W) (hK : w.heap.size ≤ K) (hg : W.grownBy W' row) (hr : ∀ r, row = some r → K ≤ r ∧ ∃ o : Obj, W.heap[r]? = some o ∧ o.isCells = false) : LI w vb p q S T k X s W' := by
  obtain ⟨j, o⟩ := s
  cases o with
  | none => obtain ⟨L, seen, h1, h2, h3, h4⟩ := h; exact ⟨L, seen, h1, h2, h3, h4.own hK hg hr⟩
  | some x => obtain ⟨L, seen, h1, h2, h3, h4⟩ := h; exact ⟨L, seen, h1, h2, h3, h4.own hK hg hr⟩
theorem LI.move {w W W' : World} {vb p q S T : Nat} {k : Int} {X : Nat → Prop} {s s' : RSt} (h : LI w vb p q S T k X s W) (hm : rsMv p s s' W W') : LI w vb p q S T k X s' W' := by
  obtain ⟨j, x, v, v', L1, rfl, rfl, h1, h2, h3, h4⟩ := hm
  obtain ⟨L, seen, g1, g2, g3, g4⟩ := h
  obtain ⟨lv, k1, k2⟩ := g4.lb.wp
  obtain ⟨rfl, rfl⟩ := k1.uniq h1
  refine ⟨L1, seen, Nat.le_refl _, by simp at g2; omega, g3, ?_⟩
  exact g4.moveP ⟨v', h2, fun g e => k2 g (by rw [← h3]; exact e)⟩ h4
theorem rsMv.keeps {p : Nat} {s s' : RSt} {W W' : World} (hm : rsMv p s s' W W') : ∀ (b : Nat) (o : Obj), W.heap[b]? = some o → o.isCells = false → W'.heap[b]? = some o := by
  obtain ⟨j, x, v, v', L1, rfl, rfl, h1, h2, h3, h4⟩ := hm
  intro b o ho hc
  exact (h4.keeps (fun b hb => ⟨#[v], 62, by rw [hb]; exact h1.row⟩) 0).same b o (Nat.zero_le _) ho hc
theorem LI.inv {w W : World} {vb p q S T : Nat} {k : Int} {X : Nat → Prop} {s : RSt} (h : LI w vb p q S T k X s W) : rsInv p (S + 1) s W := by
  intro e
  obtain ⟨j, o⟩ := s
  cases e
  obtain ⟨L, seen, g1, g2, g3, g4⟩ := h
  obtain ⟨lv, k1, k2⟩ := g4.lb.wp
  exact ⟨⟨lv, L, k1, g1⟩, by rw [cell_of_row _ _ _ _ _ _ g4.bt]; rfl⟩
end Go.Proofs.YtophcdfaflehcaaDoor
