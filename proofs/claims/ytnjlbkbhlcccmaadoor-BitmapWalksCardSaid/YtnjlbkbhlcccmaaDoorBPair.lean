import Derived.Test.YtnjlbkbhlcccmaaDoorBIntact
namespace Go.Proofs.YtnjlbkbhlcccmaaDoor
open Go.RowKit Go.Shelf
set_option linter.unusedVariables false
set_option linter.unusedSimpArgs false
set_option maxRecDepth 20000

theorem pbmNil (W : World) : (binOp .eql 33 (.pointer none) (.pointer none)).run Tryd.prog W = .ok (.bool true) W := by kernel_rfl
theorem pbmSome (W : World) (a : Addr) : (binOp .eql 33 (.pointer (some a)) (.pointer none)).run Tryd.prog W = .ok (.bool false) W := by kernel_rfl
theorem prbmNil (W : World) : (binOp .eql 34 (.pointer none) (.pointer none)).run Tryd.prog W = .ok (.bool true) W := by kernel_rfl
theorem prbmSome (W : World) (a : Addr) : (binOp .eql 34 (.pointer (some a)) (.pointer none)).run Tryd.prog W = .ok (.bool false) W := by kernel_rfl

/-- made's own two boxes: how it is made, and the pair -/
structure MS (w x : World) (A Q : Array Value) : Prop where
  a : x.heap[w.heap.size]? = some (.cells A 24 (0, 0))
  p : x.heap[w.heap.size + 1]? = some (.cells Q 36 (0, 0))
  be : Below w.heap.size w x
theorem MS.start (w : World) (A Q : Array Value) : MS w ((w.alloc (.cells A 24)).alloc (.cells Q 36)) A Q := by
  refine ⟨?_, ?_, ((Below.refl _ _).alloc (Nat.le_refl _) _).alloc (by simp) _⟩
  · rw [Below.heap_alloc _ _ _ (by simp)]; exact Go.heap_alloc_new w _
  · have := Go.heap_alloc_new (w.alloc (.cells A 24)) (.cells Q 36)
    rw [World.size_alloc] at this
    exact this
theorem MS.lt {w x : World} {A Q : Array Value} (h : MS w x A Q) : w.heap.size + 1 < x.heap.size := (Array.getElem?_eq_some_iff.1 h.p).1
theorem MS.below {w x y : World} {A Q : Array Value} (h : MS w x A Q) (hb : Below x.heap.size x y) : MS w y A Q := by
  have hl := h.lt
  exact ⟨(hb.block _ (by omega)).trans h.a, (hb.block _ hl).trans h.p, h.be.trans (hb.mono (by omega))⟩
theorem MS.set {w x : World} {A Q : Array Value} (h : MS w x A Q) (i : Nat) (v : Value) : MS w (x.setCell ⟨w.heap.size + 1, i, none⟩ v) A (Q.setIfInBounds i v) :=
  ⟨(Go.heap_setCell_other _ _ _ _ (by simp)).trans h.a, Go.heap_setCell_same x _ i _ 36 _ h.p, h.be.setCell (p := ⟨w.heap.size + 1, i, none⟩) (by simp) _⟩
theorem MS.ca {w x : World} {A Q : Array Value} (h : MS w x A Q) (i : Nat) : x.cell? ⟨w.heap.size, i, none⟩ = A[i]? := cell_of_row _ _ _ _ _ _ h.a
theorem MS.cp {w x : World} {A Q : Array Value} (h : MS w x A Q) (i : Nat) : x.cell? ⟨w.heap.size + 1, i, none⟩ = Q[i]? := cell_of_row _ _ _ _ _ _ h.p
theorem MS.fp {w x : World} {A Q : Array Value} (h : MS w x A Q) (i : Nat) : x.frozen? ⟨w.heap.size + 1, i, none⟩ = false := frozen_of_row _ _ _ _ 36 h.p

/-- a bitmap of the program, and the document's, with the same bits -/
structure Pr (w : World) (pp k : Nat) (L : BL) (R : RL) (n B : Nat) : Prop where
  row : w.heap[pp]? = some (.cells #[PB L, PR R, .pointer (some ⟨k, 0, none⟩)] 36 (0, 0))
  m : BRep w L n B
  r : RRep w R n B
def PU (pp : Nat) (L : BL) (R : RL) (b : Nat) : Prop := b = pp ∨ L.U b ∨ R.U b
theorem Pr.kept {w w' : World} {pp k n B : Nat} {L : BL} {R : RL} (h : Pr w pp k L R n B) (hk : ∀ b, PU pp L R b → w'.heap[b]? = w.heap[b]?) : Pr w' pp k L R n B :=
  ⟨(hk _ (.inl rfl)).trans h.row, h.m.kept fun b hb => hk b (.inr (.inl hb)), h.r.kept fun b hb => hk b (.inr (.inr hb))⟩
theorem Pr.lt {w : World} {pp k n B : Nat} {L : BL} {R : RL} (h : Pr w pp k L R n B) : ∀ b, PU pp L R b → b < w.heap.size := by
  rintro b (rfl | hb | hb)
  · exact (Array.getElem?_eq_some_iff.1 h.row).1
  · exact h.m.uLt b hb
  · exact h.r.uLt b hb
theorem Pr.below {w w' : World} {pp k n B : Nat} {L : BL} {R : RL} (h : Pr w pp k L R n B) (hb : Below w.heap.size w w') : Pr w' pp k L R n B := h.kept fun b hu => hb.block b (h.lt b hu)
theorem Pr.c {w : World} {pp k n B : Nat} {L : BL} {R : RL} (h : Pr w pp k L R n B) (i : Nat) : w.cell? ⟨pp, i, none⟩ = (#[PB L, PR R, .pointer (some ⟨k, 0, none⟩)] : Array Value)[i]? := cell_of_row _ _ _ _ _ _ h.row
/-- the book lies elsewhere: its types are its own -/
theorem Pr.apart {w : World} {pp k n B nl : Nat} {L : BL} {R : RL} {late : Bool} {bv raw was : Value} {ys : List Value} (h : Pr w pp k L R n B) (hb : Bk w k late bv raw was nl ys) : ∀ b, PU pp L R b → b ≠ k ∧ bv.ownBlock ≠ some b := by
  have key : ∀ (b : Nat) (cs : Array Value) (t : TypeId), w.heap[b]? = some (.cells cs t (0, 0)) → t ≠ 32 → t ≠ 22 → b ≠ k ∧ bv.ownBlock ≠ some b := fun b cs t h1 h2 h3 => by
    refine ⟨neType h1 hb.row h2, fun e => ?_⟩
    obtain ⟨ds, hd⟩ := rowCells hb.bo e
    exact neType h1 hd h3 rfl
  rintro b (rfl | (rfl | rfl | rfl) | (rfl | rfl))
  · exact key _ _ _ h.row (by decide) (by decide)
  · exact key _ _ _ h.m.hp (by decide) (by decide)
  · exact key _ _ _ h.m.hlo (by decide) (by decide)
  · exact key _ _ _ h.m.hhi (by decide) (by decide)
  · exact key _ _ _ h.r.hp (by decide) (by decide)
  · exact key _ _ _ h.r.hb (by decide) (by decide)
/-- a new list is kept: the pair stays -/
theorem Pr.kp {w w' : World} {pp k n B nl m : Nat} {L : BL} {R : RL} {bv v raw was bv' gv : Value} {ys : List Value} (h : Pr w pp k L R n B) (hb : Bk w k false bv raw was nl ys) (hk : Kp w w' k nl m bv v raw was ys bv' gv) (hv : ∀ b, v.ownBlock = some b → ¬ PU pp L R b) : Pr w' pp k L R n B :=
  h.kept fun b hu => hk.chg.keep b (h.lt b hu) (by
    rintro (e | e | e)
    · exact (h.apart hb b hu).1 e
    · exact (h.apart hb b hu).2 e
    · exact hv b e hu)
end Go.Proofs.YtnjlbkbhlcccmaaDoor
