import Derived.Test.YtophcdfaflehcaaDoorWLvN
import Derived.Test.YtophcdfaflehcaaDoorWRef
namespace Go.Proofs.YtophcdfaflehcaaDoor
open Go.RowKit
set_option linter.unusedVariables false
set_option linter.unusedSimpArgs false
set_option maxRecDepth 20000

/-- looped's boxes, and its two walks; w: the world of the call -/
structure KB (w W : World) (b p q : Nat) (n : Int) (res : Bool) (seen : Nat) (l1 l2 : List Int) : Prop where
  chg : Chg (fun g => g = p ∨ g = q) w W
  b0 : W.heap[w.heap.size]? = some (.cells #[.pointer (some ⟨p, 0, none⟩)] 23 (0, 0))
  b1 : W.heap[w.heap.size + 1]? = some (.cells #[.pointer (some ⟨q, 0, none⟩)] 49 (0, 0))
  b2 : W.heap[w.heap.size + 2]? = some (.cells #[.int .i64 n] 3 (0, 0))
  b3 : W.heap[w.heap.size + 3]? = some (.cells #[.bool res] 4 (0, 0))
  b4 : W.heap[w.heap.size + 4]? = some (.cells #[.int .i64 (seen : Int)] 3 (0, 0))
  bb : W.heap[b]? = some (.cells #[.pointer (some ⟨p, 0, none⟩)] 23 (0, 0))
  wp : WX W (fun g => g < w.heap.size) p l1
  wq : VX W (fun g => g < w.heap.size) q l2
  lp : p < w.heap.size
  lq : q < w.heap.size
  lb : b < w.heap.size
theorem KB.own {w W W' : World} {row : Option Nat} {K b p q : Nat} {n : Int} {res : Bool} {seen : Nat} {l1 l2 : List Int} (h : KB w W b p q n res seen l1 l2) (hK : w.heap.size ≤ K) (hg : W.grownBy W' row) (hr : ∀ r, row = some r → K ≤ r ∧ ∃ o : Obj, W.heap[r]? = some o ∧ o.isCells = false) : KB w W' b p q n res seen l1 l2 :=
  ⟨own_chg h.chg hK hg hr, own_blk h.b0 hg hr, own_blk h.b1 hg hr, own_blk h.b2 hg hr, own_blk h.b3 hg hr, own_blk h.b4 hg hr, own_blk h.bb hg hr, h.wp.own hg hr, h.wq.own hg hr, h.lp, h.lq, h.lb⟩
theorem KB.moveP {w W W' : World} {b p q : Nat} {n : Int} {res : Bool} {seen : Nat} {l1 l1' l2 : List Int} (h : KB w W b p q n res seen l1 l2) (h1 : WX W' (fun g => g < w.heap.size) p l1') (hc : Chg (fun b => b = p) W W') : KB w W' b p q n res seen l1' l2 := by
  obtain ⟨lv, hrow⟩ := h.wp.row
  have kp : ∀ (b : Nat) (cs : Array Value) (t : TypeId), W.heap[b]? = some (.cells cs t (0, 0)) → t ≠ 62 → W'.heap[b]? = some (.cells cs t (0, 0)) := fun b cs t hb ht => (hc.keep b (Array.getElem?_eq_some_iff.1 hb).1 (neT hb hrow ht)).trans hb
  exact ⟨h.chg.trans (hc.mono fun i _ e => .inl e), kp _ _ _ h.b0 (by decide), kp _ _ _ h.b1 (by decide), kp _ _ _ h.b2 (by decide), kp _ _ _ h.b3 (by decide), kp _ _ _ h.b4 (by decide), kp _ _ _ h.bb (by decide), h1, h.wq.kept fun b cs t hb h' => by
    rcases h' with rfl | ⟨rfl, _⟩
    · obtain ⟨mv, hr2⟩ := h.wq.row
      rw [hr2] at hb
      cases hb
      exact kp _ _ _ hr2 (by decide)
    · exact kp _ _ _ hb (by decide), h.lp, h.lq, h.lb⟩
theorem KB.moveQ {w W W' : World} {b p q : Nat} {n : Int} {res : Bool} {seen : Nat} {l1 l2 l2' : List Int} (h : KB w W b p q n res seen l1 l2) (h1 : VX W' (fun g => g < w.heap.size) q l2') (hc : Chg (fun b => b = q) W W') : KB w W' b p q n res seen l1 l2' := by
  obtain ⟨lv, hrow⟩ := h.wq.row
  have kp : ∀ (b : Nat) (cs : Array Value) (t : TypeId), W.heap[b]? = some (.cells cs t (0, 0)) → t ≠ 69 → W'.heap[b]? = some (.cells cs t (0, 0)) := fun b cs t hb ht => (hc.keep b (Array.getElem?_eq_some_iff.1 hb).1 (neT hb hrow ht)).trans hb
  exact ⟨h.chg.trans (hc.mono fun i _ e => .inr e), kp _ _ _ h.b0 (by decide), kp _ _ _ h.b1 (by decide), kp _ _ _ h.b2 (by decide), kp _ _ _ h.b3 (by decide), kp _ _ _ h.b4 (by decide), kp _ _ _ h.bb (by decide), h.wp.kept fun b cs t hb h' => by
    rcases h' with rfl | ⟨rfl, _⟩
    · obtain ⟨mv, hr2⟩ := h.wp.row
      rw [hr2] at hb
      cases hb
      exact kp _ _ _ hr2 (by decide)
    · exact kp _ _ _ hb (by decide), h1, h.lp, h.lq, h.lb⟩
theorem KB.nextP {w W : World} {b p q : Nat} {n : Int} {res : Bool} {seen : Nat} {x : Int} {l1 l2 : List Int} (h : KB w W b p q n res seen (x :: l1) l2) : Calls Tryd.prog 12 #[.pointer (some ⟨p, 0, none⟩)] W fun e w' => e = .returned (.tuple #[.int .i64 x, .int .i64 0]) ∧ KB w w' b p q n res seen l1 l2 ∧ KeepsFrom w.heap.size W w' :=
  h.wp.nextS.mono fun e w' ⟨h1, h2, h3⟩ => ⟨h1, h.moveP h2 h3, h3.keeps (fun b hb => by obtain ⟨lv, hr⟩ := h.wp.row; exact ⟨_, _, hb ▸ hr⟩) _⟩
theorem KB.nextQ {w W : World} {b p q : Nat} {n : Int} {res : Bool} {seen : Nat} {x : Int} {l1 l2 : List Int} (h : KB w W b p q n res seen l1 (x :: l2)) : Calls Tryd.prog 18 #[.pointer (some ⟨q, 0, none⟩)] W fun e w' => e = .returned (.tuple #[.int .i64 x, .int .i64 0]) ∧ KB w w' b p q n res seen l1 l2 ∧ KeepsFrom w.heap.size W w' :=
  h.wq.nextS.mono fun e w' ⟨h1, h2, h3⟩ => ⟨h1, h.moveQ h2 h3, h3.keeps (fun b hb => by obtain ⟨lv, hr⟩ := h.wq.row; exact ⟨_, _, hb ▸ hr⟩) _⟩
/-- one of the call's own boxes is written -/
theorem KB.boxes {w W : World} {b p q : Nat} {n : Int} {res : Bool} {seen : Nat} {l1 l2 : List Int} (h : KB w W b p q n res seen l1 l2) (S : Nat) (hS : w.heap.size ≤ S) (z : Value) : ∀ c cs t, W.heap[c]? = some (.cells cs t (0, 0)) → c ≠ S → (W.setCell ⟨S, 0, none⟩ z).heap[c]? = some (.cells cs t (0, 0)) := fun c cs t hc hne => (Go.heap_setCell_other _ _ _ _ hne).trans hc
theorem KB.chgSet {w W : World} {b p q : Nat} {n : Int} {res : Bool} {seen : Nat} {l1 l2 : List Int} (h : KB w W b p q n res seen l1 l2) (S : Nat) (hS : w.heap.size ≤ S) (z : Value) : Chg (fun g => g = p ∨ g = q) w (W.setCell ⟨S, 0, none⟩ z) :=
  ⟨h.chg.os, h.chg.tape, h.chg.output, by have := h.chg.size; simp [World.setCell]; omega, fun c hc hu => (Go.heap_setCell_other _ _ _ _ (by show c ≠ S; omega)).trans (h.chg.keep c hc hu)⟩
theorem KB.see {w W : World} {b p q : Nat} {n : Int} {res : Bool} {seen : Nat} {l1 l2 : List Int} (h : KB w W b p q n res seen l1 l2) {z : Int} (hz : z = ((seen + 1 : Nat) : Int)) : KB w (W.setCell ⟨w.heap.size + 4, 0, none⟩ (.int .i64 z)) b p q n res (seen + 1) l1 l2 := by
  subst hz
  have kp := h.boxes (w.heap.size + 4) (by omega) (.int .i64 ((seen + 1 : Nat) : Int))
  have := h.lp
  have := h.lq
  have := h.lb
  refine ⟨h.chgSet _ (by omega) _, kp _ _ _ h.b0 (by omega), kp _ _ _ h.b1 (by omega), kp _ _ _ h.b2 (by omega), kp _ _ _ h.b3 (by omega), ?_, kp _ _ _ h.bb (by omega), h.wp.kept fun c cs t hc h' => kp _ _ _ hc ?_, h.wq.kept fun c cs t hc h' => kp _ _ _ hc ?_, h.lp, h.lq, h.lb⟩
  · rw [Go.heap_setCell_same _ _ 0 _ 3 _ h.b4]; rfl
  · rcases h' with rfl | ⟨_, hx⟩ <;> omega
  · rcases h' with rfl | ⟨_, hx⟩ <;> omega
theorem KB.tell {w W : World} {b p q : Nat} {n : Int} {res : Bool} {seen : Nat} {l1 l2 : List Int} (h : KB w W b p q n res seen l1 l2) (r : Bool) : KB w (W.setCell ⟨w.heap.size + 3, 0, none⟩ (.bool r)) b p q n r seen l1 l2 := by
  have kp := h.boxes (w.heap.size + 3) (by omega) (.bool r)
  have := h.lp
  have := h.lq
  have := h.lb
  refine ⟨h.chgSet _ (by omega) _, kp _ _ _ h.b0 (by omega), kp _ _ _ h.b1 (by omega), kp _ _ _ h.b2 (by omega), ?_, kp _ _ _ h.b4 (by omega), kp _ _ _ h.bb (by omega), h.wp.kept fun c cs t hc h' => kp _ _ _ hc ?_, h.wq.kept fun c cs t hc h' => kp _ _ _ hc ?_, h.lp, h.lq, h.lb⟩
  · rw [Go.heap_setCell_same _ _ 0 _ 4 _ h.b3]; rfl
  · rcases h' with rfl | ⟨_, hx⟩ <;> omega
  · rcases h' with rfl | ⟨_, hx⟩ <;> omega
theorem set_keeps {W : World} {S : Nat} {cs : Array Value} {t : TypeId} (h : W.heap[S]? = some (.cells cs t (0, 0))) (z : Value) (K : Nat) : KeepsFrom K W (W.setCell ⟨S, 0, none⟩ z) :=
  Chg.keeps (Chg.set _) (fun b hb => ⟨cs, t, by have e : b = S := hb; rw [e]; exact h⟩) _
/-- between two rounds -/
def KI (w : World) (b p q T : Nat) (n : Int) (s : RSt) (W : World) : Prop := match s.2 with
  | none => ∃ L seen, L.length ≤ s.1 ∧ seen + L.length ≤ T ∧ KB w W b p q n false seen L L
  | some x => ∃ L seen, L.length ≤ s.1 ∧ seen + 1 + L.length ≤ T ∧ KB w W b p q n false seen L (x :: L)
def KX (w : World) (b p q : Nat) (n : Int) (c : Code) (W : World) : Prop := c = .ret ∧ ∃ L seen, KB w W b p q n true seen L L
theorem KI.own {w W W' : World} {row : Option Nat} {K b p q T : Nat} {n : Int} {s : RSt} (h : KI w b p q T n s W) (hK : w.heap.size ≤ K) (hg : W.grownBy W' row) (hr : ∀ r, row = some r → K ≤ r ∧ ∃ o : Obj, W.heap[r]? = some o ∧ o.isCells = false) : KI w b p q T n s W' := by
  obtain ⟨j, o⟩ := s
  cases o with
  | none => obtain ⟨L, seen, h1, h2, h4⟩ := h; exact ⟨L, seen, h1, h2, h4.own hK hg hr⟩
  | some x => obtain ⟨L, seen, h1, h2, h4⟩ := h; exact ⟨L, seen, h1, h2, h4.own hK hg hr⟩
theorem KI.move {w W W' : World} {b p q T : Nat} {n : Int} {s s' : RSt} (h : KI w b p q T n s W) (hm : rsMv p s s' W W') : KI w b p q T n s' W' := by
  obtain ⟨j, x, v, v', L1, rfl, rfl, h1, h2, h3, h4⟩ := hm
  obtain ⟨L, seen, g1, g2, g4⟩ := h
  obtain ⟨lv, k1, k2⟩ := g4.wp
  obtain ⟨rfl, rfl⟩ := k1.uniq h1
  refine ⟨L1, seen, Nat.le_refl _, by simp at g2; omega, ?_⟩
  exact g4.moveP ⟨v', h2, fun g e => k2 g (by rw [← h3]; exact e)⟩ h4
theorem KI.inv {w W : World} {b p q T : Nat} {n : Int} {s : RSt} (h : KI w b p q T n s W) : rsInv p b s W := by
  intro e
  obtain ⟨j, o⟩ := s
  cases e
  obtain ⟨L, seen, g1, g2, g4⟩ := h
  obtain ⟨lv, k1, k2⟩ := g4.wp
  exact ⟨⟨lv, L, k1, g1⟩, by rw [cell_of_row _ _ _ _ _ _ g4.bb]; rfl⟩
end Go.Proofs.YtophcdfaflehcaaDoor
