import Derived.Test.YthkkinmegileaaaSLru1
namespace Go.Proofs.Ythkkinmegileaaa.St
open Go.RowKit Go.Sort
set_option linter.unusedVariables false
set_option linter.unusedSimpArgs false
set_option maxRecDepth 20000

/-- an Lru of ints in memory -/
structure LRep (w : World) (p bm : Nat) (kv rv iv : Value) (S : LS) : Prop where
  row : w.heap[p]? = some (.cells #[.int .i64 (S.slots : Int), .map (some bm), kv, rv, iv] 69 (0, 0))
  mp : MP w bm S.mks
  ko : w.ownsRow 0 9 1 kv S.ks.length (S.ks.map sK)
  ro : w.ownsRow 0 3 1 rv S.rs.length (S.rs.map nV)
  io : w.ownsRow 0 3 1 iv S.idle.length (S.idle.map nV)
  a1 : ∀ b, kv.ownBlock = some b → rv.ownBlock ≠ some b ∧ iv.ownBlock ≠ some b
  a2 : ∀ b, rv.ownBlock = some b → iv.ownBlock ≠ some b
def LU (p bm : Nat) (kv rv iv : Value) (b : Nat) : Prop := b = p ∨ b = bm ∨ kv.ownBlock = some b ∨ rv.ownBlock = some b ∨ iv.ownBlock = some b
theorem LRep.kept {w w' : World} {p bm : Nat} {kv rv iv : Value} {S : LS} (h : LRep w p bm kv rv iv S) (hk : ∀ b, LU p bm kv rv iv b → w'.heap[b]? = w.heap[b]?) : LRep w' p bm kv rv iv S :=
  ⟨(hk _ (.inl rfl)).trans h.row, h.mp.kept (hk _ (.inr (.inl rfl))), rowKept h.ko fun g e => hk g (.inr (.inr (.inl e))), rowKept h.ro fun g e => hk g (.inr (.inr (.inr (.inl e)))), rowKept h.io fun g e => hk g (.inr (.inr (.inr (.inr e)))), h.a1, h.a2⟩
theorem LRep.lt {w : World} {p bm : Nat} {kv rv iv : Value} {S : LS} (h : LRep w p bm kv rv iv S) : ∀ b, LU p bm kv rv iv b → b < w.heap.size := by
  rintro b (rfl | rfl | e | e | e)
  · exact (Array.getElem?_eq_some_iff.1 h.row).1
  · exact h.mp.lt
  · exact (h.ko.lt b e).2
  · exact (h.ro.lt b e).2
  · exact (h.io.lt b e).2
theorem LRep.c {w : World} {p bm : Nat} {kv rv iv : Value} {S : LS} (h : LRep w p bm kv rv iv S) (i : Nat) : w.cell? ⟨p, i, none⟩ = (#[.int .i64 (S.slots : Int), .map (some bm), kv, rv, iv] : Array Value)[i]? := cell_of_row _ _ _ _ _ _ h.row
theorem LRep.f {w : World} {p bm : Nat} {kv rv iv : Value} {S : LS} (h : LRep w p bm kv rv iv S) (i : Nat) : w.frozen? ⟨p, i, none⟩ = false := frozen_of_row _ _ _ _ 69 h.row
/-- the parts lie apart -/
theorem LRep.ap {w : World} {p bm : Nat} {kv rv iv : Value} {S : LS} (h : LRep w p bm kv rv iv S) : p ≠ bm ∧ ∀ b, (kv.ownBlock = some b ∨ rv.ownBlock = some b ∨ iv.ownBlock = some b) → b ≠ p ∧ b ≠ bm := by
  refine ⟨h.mp.neCells h.row, ?_⟩
  have key : ∀ (t : TypeId) (ht : t ≠ 69) (v : Value) (n : Nat) (xs : List Value), w.ownsRow 0 t 1 v n xs → ∀ b, v.ownBlock = some b → b ≠ p ∧ b ≠ bm := fun t ht v n xs hv b e => by
    obtain ⟨cs, hc⟩ := rowCells hv e
    exact ⟨neType hc h.row ht, h.mp.neCells hc⟩
  rintro b (e | e | e)
  · exact key _ (by decide) _ _ _ h.ko b e
  · exact key _ (by decide) _ _ _ h.ro b e
  · exact key _ (by decide) _ _ _ h.io b e
theorem LRep.below {w w' : World} {p bm : Nat} {kv rv iv : Value} {S : LS} (h : LRep w p bm kv rv iv S) (hb : Below w.heap.size w w') : LRep w' p bm kv rv iv S := h.kept fun b e => hb.block b (h.lt b e)

end Go.Proofs.Ythkkinmegileaaa.St
