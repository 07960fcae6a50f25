import Derived.Test.YtophcdfaflehcaaDoorWRest
import Derived.Test.YtophcdfaflehcaaDoorWRnd3
namespace Go.Proofs.YtophcdfaflehcaaDoor
open Go.RowKit
set_option linter.unusedVariables false
set_option linter.unusedSimpArgs false
set_option maxRecDepth 20000

theorem RS.on {w W W' : World} {p : Nat} {r : List Int} (h : RS w W p r) (hb : Below W.heap.size W W') : RS w W' p r := by
  obtain ⟨lv, h, hb2, hp, hg⟩ := h
  exact ⟨lv, h.kept (hb.block _ h.lt) (fun g e => hb.block g (h.list.lt e)), hb2.trans (hb.mono hb2.size), hp, hg⟩
theorem fnEqNil (W : World) (f : Nat) (a b : Array Value) : (binOp .eql 37 (.func (.func f) a b) .nilFunc).run Tryd.prog W = .ok (.bool false) W := by kernel_rfl
/-- a walk whose list lies nowhere in X -/
def WX (W : World) (X : Nat → Prop) (p : Nat) (l : List Int) : Prop := ∃ lv, WR W p lv l ∧ ∀ g, lv.ownBlock = some g → X g
theorem WX.kept {W W' : World} {X : Nat → Prop} {p : Nat} {l : List Int} (h : WX W X p l) (hk : ∀ b cs t, W.heap[b]? = some (.cells cs t (0, 0)) → (b = p ∨ t = 3 ∧ X b) → W'.heap[b]? = some (.cells cs t (0, 0))) : WX W' X p l := by
  obtain ⟨lv, h, hx⟩ := h
  refine ⟨lv, h.kept ((hk _ _ _ h.row (.inl rfl)).trans h.row.symm) fun g e => ?_, hx⟩
  obtain ⟨cs, hc⟩ := h.list.cells e
  rw [hk _ _ _ hc (.inr ⟨rfl, hx g e⟩), hc]
theorem WX.mono {W : World} {X Y : Nat → Prop} {p : Nat} {l : List Int} (h : WX W X p l) (hy : ∀ g, g < W.heap.size → X g → Y g) : WX W Y p l := by
  obtain ⟨lv, h, hx⟩ := h
  exact ⟨lv, h, fun g e => hy g (h.list.lt e) (hx g e)⟩
theorem WX.nextN {W : World} {X : Nat → Prop} {p : Nat} (h : WX W X p []) : Calls Tryd.prog 12 #[.pointer (some ⟨p, 0, none⟩)] W fun e w' => e = .returned (.tuple #[.int .i64 0, .int .i64 131]) ∧ w' = W := by
  obtain ⟨lv, h, _⟩ := h; exact next_none h
theorem WX.nextS {W : World} {X : Nat → Prop} {p : Nat} {x : Int} {r : List Int} (h : WX W X p (x :: r)) : Calls Tryd.prog 12 #[.pointer (some ⟨p, 0, none⟩)] W fun e w' => e = .returned (.tuple #[.int .i64 x, .int .i64 0]) ∧ WX w' X p r ∧ Chg (fun k => k = p) W w' := by
  obtain ⟨lv, h, hx⟩ := h
  exact (next_some h).mono fun e w' ⟨h1, ⟨v', h2, h3⟩, h4⟩ => ⟨h1, ⟨v', h2, fun g e => hx g (by rw [← h3]; exact e)⟩, h4⟩
theorem WX.left {W : World} {X : Nat → Prop} {p : Nat} {r : List Int} (h : WX W X p r) : Calls Tryd.prog 11 #[.pointer (some ⟨p, 0, none⟩)] W fun e w' => e = .returned (.int .i64 (r.length : Int)) ∧ w' = W := by
  obtain ⟨lv, h, _⟩ := h; exact left_any h
theorem WX.row {W : World} {X : Nat → Prop} {p : Nat} {l : List Int} (h : WX W X p l) : ∃ lv, W.heap[p]? = some (.cells #[lv] 62 (0, 0)) := by
  obtain ⟨lv, h, _⟩ := h; exact ⟨lv, h.row⟩
theorem WX.own {W W' : World} {row : Option Nat} {K : Nat} {X : Nat → Prop} {p : Nat} {l : List Int} (h : WX W X p l) (hg : W.grownBy W' row) (hr : ∀ r, row = some r → K ≤ r ∧ ∃ o : Obj, W.heap[r]? = some o ∧ o.isCells = false) : WX W' X p l :=
  h.kept fun b cs t hb _ => own_blk hb hg hr
theorem WX.on {W W' : World} {X : Nat → Prop} {p : Nat} {l : List Int} (h : WX W X p l) (hb : Below W.heap.size W W') : WX W' X p l :=
  h.kept fun b cs t h1 _ => (hb.block b (Array.getElem?_eq_some_iff.1 h1).1).trans h1
theorem RS.wx {w W : World} {p : Nat} {r : List Int} (h : RS w W p r) : WX W (fun g => w.heap.size ≤ g) p r ∧ w.heap.size ≤ p := by
  obtain ⟨lv, h1, _, h2, h3⟩ := h; exact ⟨⟨lv, h1, h3⟩, h2⟩
/-- the law's boxes and its two walks; N: where its memory begins -/
structure LB (w W : World) (vb p q : Nat) (k : Int) (X : Nat → Prop) (l1 l2 : List Int) : Prop where
  bel : Below w.heap.size w W
  bk : W.heap[w.heap.size]? = some (.cells #[.int .i64 k] 3 (0, 0))
  br : W.heap[w.heap.size + 1]? = some (.cells #[.bool false] 4 (0, 0))
  bv : W.heap[vb]? = some (.cells #[.pointer (some ⟨q, 0, none⟩)] 23 (0, 0))
  wp : WX W X p l1
  wq : WX W X q l2
  lp : w.heap.size ≤ p
  lq : w.heap.size ≤ q
  lx : ∀ g, X g → w.heap.size < g
  ne : p ≠ q
theorem LB.kept {w W W' : World} {vb p q : Nat} {k : Int} {X : Nat → Prop} {l1 l2 : List Int} (h : LB w W vb p q k X l1 l2) (hb : Below w.heap.size w W') (hk : ∀ b cs t, W.heap[b]? = some (.cells cs t (0, 0)) → (b = w.heap.size ∨ b = w.heap.size + 1 ∨ b = vb ∨ b = p ∨ b = q ∨ t = 3 ∧ X b) → W'.heap[b]? = some (.cells cs t (0, 0))) : LB w W' vb p q k X l1 l2 :=
  ⟨hb, hk _ _ _ h.bk (.inl rfl), hk _ _ _ h.br (.inr (.inl rfl)), hk _ _ _ h.bv (.inr (.inr (.inl rfl))), h.wp.kept fun b cs t hb' h' => hk b cs t hb' (by rcases h' with h' | h' <;> simp [h']), h.wq.kept fun b cs t hb' h' => hk b cs t hb' (by rcases h' with h' | h' <;> simp [h']), h.lp, h.lq, h.lx, h.ne⟩
theorem LB.on {w W W' : World} {vb p q : Nat} {k : Int} {X : Nat → Prop} {l1 l2 : List Int} (h : LB w W vb p q k X l1 l2) (hb : Below W.heap.size W W') : LB w W' vb p q k X l1 l2 :=
  h.kept (h.bel.trans (hb.mono h.bel.size)) fun b cs t h1 _ => (hb.block b (Array.getElem?_eq_some_iff.1 h1).1).trans h1
theorem LB.own {w W W' : World} {row : Option Nat} {K vb p q : Nat} {k : Int} {X : Nat → Prop} {l1 l2 : List Int} (h : LB w W vb p q k X l1 l2) (hK : w.heap.size ≤ K) (hg : W.grownBy W' row) (hr : ∀ r, row = some r → K ≤ r ∧ ∃ o : Obj, W.heap[r]? = some o ∧ o.isCells = false) : LB w W' vb p q k X l1 l2 :=
  h.kept (h.bel.grown hg h.bel.size (fun k e => by have := (hr k e).1; omega)) fun b cs t hb _ => own_blk hb hg hr
theorem neT {W : World} {b p : Nat} {cs ds : Array Value} {t u : TypeId} (hb : W.heap[b]? = some (.cells cs t (0, 0))) (hp : W.heap[p]? = some (.cells ds u (0, 0))) (h : t ≠ u) : b ≠ p := fun e => by
  rw [e, hp] at hb
  simp only [Option.some.injEq, Obj.cells.injEq] at hb
  exact h hb.2.1.symm
/-- the first walk has moved on -/
theorem LB.moveP {w W W' : World} {vb p q : Nat} {k : Int} {X : Nat → Prop} {l1 l1' l2 : List Int} (h : LB w W vb p q k X l1 l2) (h1 : WX W' X p l1') (hc : Chg (fun b => b = p) W W') : LB w W' vb p q k X l1' l2 := by
  obtain ⟨lv, hrow⟩ := h.wp.row
  have kp : ∀ b cs t, W.heap[b]? = some (.cells cs t (0, 0)) → b ≠ p → W'.heap[b]? = some (.cells cs t (0, 0)) := fun b cs t hb hne => (hc.keep b (Array.getElem?_eq_some_iff.1 hb).1 hne).trans hb
  exact ⟨h.bel.trans (hc.below h.bel.size fun b hb => by have := h.lp; omega), kp _ _ _ h.bk (neT h.bk hrow (by decide)), kp _ _ _ h.br (neT h.br hrow (by decide)), kp _ _ _ h.bv (neT h.bv hrow (by decide)), h1, h.wq.kept fun b cs t hb h' => by
    rcases h' with rfl | ⟨rfl, _⟩
    · exact kp _ _ _ hb (fun e => h.ne e.symm)
    · exact kp _ _ _ hb (neT hb hrow (by decide)), h.lp, h.lq, h.lx, h.ne⟩
theorem LB.moveQ {w W W' : World} {vb p q : Nat} {k : Int} {X : Nat → Prop} {l1 l2 l2' : List Int} (h : LB w W vb p q k X l1 l2) (h1 : WX W' X q l2') (hc : Chg (fun b => b = q) W W') : LB w W' vb p q k X l1 l2' := by
  obtain ⟨lv, hrow⟩ := h.wq.row
  have kp : ∀ b cs t, W.heap[b]? = some (.cells cs t (0, 0)) → b ≠ q → W'.heap[b]? = some (.cells cs t (0, 0)) := fun b cs t hb hne => (hc.keep b (Array.getElem?_eq_some_iff.1 hb).1 hne).trans hb
  exact ⟨h.bel.trans (hc.below h.bel.size fun b hb => by have := h.lq; omega), kp _ _ _ h.bk (neT h.bk hrow (by decide)), kp _ _ _ h.br (neT h.br hrow (by decide)), kp _ _ _ h.bv (neT h.bv hrow (by decide)), h.wp.kept fun b cs t hb h' => by
    rcases h' with rfl | ⟨rfl, _⟩
    · exact kp _ _ _ hb h.ne
    · exact kp _ _ _ hb (neT hb hrow (by decide)), h1, h.lp, h.lq, h.lx, h.ne⟩
theorem LB.nextP {w W : World} {vb p q : Nat} {k : Int} {X : Nat → Prop} {x : Int} {l1 l2 : List Int} (h : LB w W vb p q k X (x :: l1) l2) : Calls Tryd.prog 12 #[.pointer (some ⟨p, 0, none⟩)] W fun e w' => e = .returned (.tuple #[.int .i64 x, .int .i64 0]) ∧ LB w w' vb p q k X l1 l2 ∧ Chg (fun k => k = p) W w' :=
  h.wp.nextS.mono fun e w' ⟨h1, h2, h3⟩ => ⟨h1, h.moveP h2 h3, h3⟩
theorem LB.nextQ {w W : World} {vb p q : Nat} {k : Int} {X : Nat → Prop} {x : Int} {l1 l2 : List Int} (h : LB w W vb p q k X l1 (x :: l2)) : Calls Tryd.prog 12 #[.pointer (some ⟨q, 0, none⟩)] W fun e w' => e = .returned (.tuple #[.int .i64 x, .int .i64 0]) ∧ LB w w' vb p q k X l1 l2 ∧ Chg (fun k => k = q) W w' :=
  h.wq.nextS.mono fun e w' ⟨h1, h2, h3⟩ => ⟨h1, h.moveQ h2 h3, h3⟩
end Go.Proofs.YtophcdfaflehcaaDoor
