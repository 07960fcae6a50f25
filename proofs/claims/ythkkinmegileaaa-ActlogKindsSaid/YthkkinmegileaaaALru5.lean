import Derived.Test.YthkkinmegileaaaALru4
namespace Go.Proofs.Ythkkinmegileaaa
open Go.RowKit Go.Sort
set_option linter.unusedVariables false
set_option linter.unusedSimpArgs false
set_option maxRecDepth 20000

def Upon (w w' : World) (v v' : Value) : Prop := (v'.ownBlock = some w.heap.size ∧ w.grownBy w' none) ∨ (∃ g, v.ownBlock = some g ∧ v'.ownBlock = some g ∧ w.grownBy w' (some g))
theorem Upon.block {w w' : World} {v v' : Value} (h : Upon w w' v v') : ∀ b, b < w.heap.size → v.ownBlock ≠ some b → w'.heap[b]? = w.heap[b]? := fun b hb hne => by
  rcases h with ⟨_, h⟩ | ⟨g, h1, _, h⟩
  · exact h.block b hb (by simp)
  · exact h.block b hb (by rw [← h1]; exact Ne.symm hne)
theorem Upon.size {w w' : World} {v v' : Value} (h : Upon w w' v v') : w.heap.size ≤ w'.heap.size := by rcases h with ⟨_, h⟩ | ⟨g, _, _, h⟩ <;> exact h.size
theorem Upon.same {w w' : World} {v v' : Value} (h : Upon w w' v v') : w'.os = w.os ∧ w'.tape = w.tape ∧ w'.output = w.output := by rcases h with ⟨_, h⟩ | ⟨g, _, _, h⟩ <;> exact ⟨h.os, h.tape, h.output⟩
theorem Upon.loc {w w' : World} {v v' : Value} (h : Upon w w' v v') : ∀ b, v'.ownBlock = some b → v.ownBlock = some b ∨ b = w.heap.size := fun b hb => by
  rcases h with ⟨e, _⟩ | ⟨g, e1, e2, _⟩
  · rw [e] at hb; exact .inr (Option.some.inj hb).symm
  · rw [e2] at hb; rw [e1]; exact .inl hb
/-- what turns when a row of the Lru gets one more: v the row, v' the new one -/
theorem Upon.chg {w w0 w' : World} {v v' : Value} {o : Obj} {U : Nat → Prop} (h : Upon (w0.alloc o) w' v v') (hc : Chg U w w0) (hu : ∀ b, v.ownBlock = some b → U b ∨ w.heap.size ≤ b) : Chg U w w' := by
  have hs := h.size
  have hs0 := hc.size
  rw [World.size_alloc] at hs
  obtain ⟨a1, a2, a3⟩ := h.same
  refine ⟨a1.trans hc.os, a2.trans hc.tape, a3.trans hc.output, by omega, fun b hb hn => ?_⟩
  rw [h.block b (by rw [World.size_alloc]; omega) (fun e => by rcases hu b e with h | h; exact hn h; omega), Below.heap_alloc _ _ b (by omega)]
  exact hc.keep b hb hn
/-- the row of field j gets one more (j = 2: keys, 3: references, 4: idle) -/
theorem LRep.pushK {w w' : World} {p bm : Nat} {kv rv iv v' : Value} {S : LS} {o : Obj} {key : Int} (h : LRep w p bm kv rv iv S) (ho : w'.ownsRow 0 3 1 v' (S.ks.length + 1) (S.ks.map iV ++ [iV key])) (hu : Upon (w.alloc o) w' kv v') :
    LRep (w'.setCell ⟨p, 2, none⟩ v') p bm v' rv iv { S with ks := S.ks ++ [key] } ∧ w'.cell? ⟨p, 2, none⟩ = some kv ∧ w'.frozen? ⟨p, 2, none⟩ = false ∧ Chg (LU p bm kv rv iv) w (w'.setCell ⟨p, 2, none⟩ v') ∧ ∀ b, v'.ownBlock = some b → kv.ownBlock = some b ∨ w.heap.size ≤ b := by
  have hap := h.ap
  have hs := hu.size
  rw [World.size_alloc] at hs
  have hold : ∀ b, b < w.heap.size → kv.ownBlock ≠ some b → w'.heap[b]? = w.heap[b]? := fun b hb hn => (hu.block b (by rw [World.size_alloc]; omega) hn).trans (Below.heap_alloc _ _ b hb)
  have hp : w'.heap[p]? = w.heap[p]? := hold p (h.lt p (.inl rfl)) fun e => (hap.2 p (.inl e)).1 rfl
  have hrow := hp.trans h.row
  have hk : ∀ b, b < w.heap.size → b ≠ p → kv.ownBlock ≠ some b → (w'.setCell ⟨p, 2, none⟩ v').heap[b]? = w.heap[b]? := fun b hb e1 e2 => by
    rw [Go.heap_setCell_other _ _ _ _ (by exact e1)]
    exact hold b hb e2
  have hloc : ∀ b, v'.ownBlock = some b → kv.ownBlock = some b ∨ w.heap.size ≤ b := fun b e => by
    rcases hu.loc b e with e | e
    · exact .inl e
    · rw [World.size_alloc] at e; exact .inr (by omega)
  have hvp : ∀ b, v'.ownBlock = some b → b ≠ p := fun b e => by
    obtain ⟨cs, hcs⟩ := rowCells ho e
    exact neType hcs hrow (by decide)
  refine ⟨⟨Go.heap_setCell_same w' _ 2 _ 120 _ hrow, h.mp.kept (hk bm h.mp.lt (fun e => hap.1 e.symm) fun e => (hap.2 bm (.inl e)).2 rfl), ?_, rowKept h.ro fun g e => hk g (h.ro.lt g e).2 (hap.2 g (.inr (.inl e))).1 fun e2 => (h.a1 g e2).1 e, rowKept h.io fun g e => hk g (h.io.lt g e).2 (hap.2 g (.inr (.inr e))).1 fun e2 => (h.a1 g e2).2 e, fun b e => ⟨fun e2 => ?_, fun e2 => ?_⟩, h.a2⟩, by rw [cell_of_row _ _ _ _ _ _ hrow]; rfl, frozen_of_row _ _ _ _ 120 hrow, ⟨hu.same.1, hu.same.2.1, hu.same.2.2, by rw [World.size_setCell]; omega, fun b hb hn => hk b hb (fun e => hn (.inl e)) fun e => hn (.inr (.inr (.inl e)))⟩, hloc⟩
  · simp only [List.length_append, List.length_cons, List.length_nil, List.map_append, List.map_cons, List.map_nil]
    exact rowKept ho fun g e => Go.heap_setCell_other _ _ _ _ (hvp g e)
  · rcases hloc b e with e3 | e3
    · exact (h.a1 b e3).1 e2
    · have := (h.ro.lt b e2).2; omega
  · rcases hloc b e with e3 | e3
    · exact (h.a1 b e3).2 e2
    · have := (h.io.lt b e2).2; omega
theorem LRep.pushR {w w' : World} {p bm : Nat} {kv rv iv v' : Value} {S : LS} {o : Obj} {r : Nat} (h : LRep w p bm kv rv iv S) (ho : w'.ownsRow 0 3 1 v' (S.rs.length + 1) (S.rs.map nV ++ [nV r])) (hu : Upon (w.alloc o) w' rv v') :
    LRep (w'.setCell ⟨p, 3, none⟩ v') p bm kv v' iv { S with rs := S.rs ++ [r] } ∧ w'.cell? ⟨p, 3, none⟩ = some rv ∧ w'.frozen? ⟨p, 3, none⟩ = false ∧ Chg (LU p bm kv rv iv) w (w'.setCell ⟨p, 3, none⟩ v') ∧ ∀ b, v'.ownBlock = some b → rv.ownBlock = some b ∨ w.heap.size ≤ b := by
  have hap := h.ap
  have hs := hu.size
  rw [World.size_alloc] at hs
  have hold : ∀ b, b < w.heap.size → rv.ownBlock ≠ some b → w'.heap[b]? = w.heap[b]? := fun b hb hn => (hu.block b (by rw [World.size_alloc]; omega) hn).trans (Below.heap_alloc _ _ b hb)
  have hp : w'.heap[p]? = w.heap[p]? := hold p (h.lt p (.inl rfl)) fun e => (hap.2 p (.inr (.inl e))).1 rfl
  have hrow := hp.trans h.row
  have hk : ∀ b, b < w.heap.size → b ≠ p → rv.ownBlock ≠ some b → (w'.setCell ⟨p, 3, none⟩ v').heap[b]? = w.heap[b]? := fun b hb e1 e2 => by
    rw [Go.heap_setCell_other _ _ _ _ (by exact e1)]
    exact hold b hb e2
  have hloc : ∀ b, v'.ownBlock = some b → rv.ownBlock = some b ∨ w.heap.size ≤ b := fun b e => by
    rcases hu.loc b e with e | e
    · exact .inl e
    · rw [World.size_alloc] at e; exact .inr (by omega)
  have hvp : ∀ b, v'.ownBlock = some b → b ≠ p := fun b e => by
    obtain ⟨cs, hcs⟩ := rowCells ho e
    exact neType hcs hrow (by decide)
  refine ⟨⟨Go.heap_setCell_same w' _ 3 _ 120 _ hrow, h.mp.kept (hk bm h.mp.lt (fun e => hap.1 e.symm) fun e => (hap.2 bm (.inr (.inl e))).2 rfl), rowKept h.ko fun g e => hk g (h.ko.lt g e).2 (hap.2 g (.inl e)).1 (h.a1 g e).1, ?_, rowKept h.io fun g e => hk g (h.io.lt g e).2 (hap.2 g (.inr (.inr e))).1 fun e2 => h.a2 g e2 e, fun b e => ⟨fun e2 => ?_, (h.a1 b e).2⟩, fun b e e2 => ?_⟩, by rw [cell_of_row _ _ _ _ _ _ hrow]; rfl, frozen_of_row _ _ _ _ 120 hrow, ⟨hu.same.1, hu.same.2.1, hu.same.2.2, by rw [World.size_setCell]; omega, fun b hb hn => hk b hb (fun e => hn (.inl e)) fun e => hn (.inr (.inr (.inr (.inl e))))⟩, hloc⟩
  · simp only [List.length_append, List.length_cons, List.length_nil, List.map_append, List.map_cons, List.map_nil]
    exact rowKept ho fun g e => Go.heap_setCell_other _ _ _ _ (hvp g e)
  · rcases hloc b e2 with e3 | e3
    · exact (h.a1 b e).1 e3
    · have := (h.ko.lt b e).2; omega
  · rcases hloc b e with e3 | e3
    · exact h.a2 b e3 e2
    · have := (h.io.lt b e2).2; omega
theorem LRep.pushI {w w' : World} {p bm : Nat} {kv rv iv v' : Value} {S : LS} {o : Obj} {s : Nat} (h : LRep w p bm kv rv iv S) (ho : w'.ownsRow 0 3 1 v' (S.idle.length + 1) (S.idle.map nV ++ [nV s])) (hu : Upon (w.alloc o) w' iv v') :
    LRep (w'.setCell ⟨p, 4, none⟩ v') p bm kv rv v' { S with idle := S.idle ++ [s] } ∧ w'.cell? ⟨p, 4, none⟩ = some iv ∧ w'.frozen? ⟨p, 4, none⟩ = false ∧ Chg (LU p bm kv rv iv) w (w'.setCell ⟨p, 4, none⟩ v') ∧ ∀ b, v'.ownBlock = some b → iv.ownBlock = some b ∨ w.heap.size ≤ b := by
  have hap := h.ap
  have hs := hu.size
  rw [World.size_alloc] at hs
  have hold : ∀ b, b < w.heap.size → iv.ownBlock ≠ some b → w'.heap[b]? = w.heap[b]? := fun b hb hn => (hu.block b (by rw [World.size_alloc]; omega) hn).trans (Below.heap_alloc _ _ b hb)
  have hp : w'.heap[p]? = w.heap[p]? := hold p (h.lt p (.inl rfl)) fun e => (hap.2 p (.inr (.inr e))).1 rfl
  have hrow := hp.trans h.row
  have hk : ∀ b, b < w.heap.size → b ≠ p → iv.ownBlock ≠ some b → (w'.setCell ⟨p, 4, none⟩ v').heap[b]? = w.heap[b]? := fun b hb e1 e2 => by
    rw [Go.heap_setCell_other _ _ _ _ (by exact e1)]
    exact hold b hb e2
  have hloc : ∀ b, v'.ownBlock = some b → iv.ownBlock = some b ∨ w.heap.size ≤ b := fun b e => by
    rcases hu.loc b e with e | e
    · exact .inl e
    · rw [World.size_alloc] at e; exact .inr (by omega)
  have hvp : ∀ b, v'.ownBlock = some b → b ≠ p := fun b e => by
    obtain ⟨cs, hcs⟩ := rowCells ho e
    exact neType hcs hrow (by decide)
  refine ⟨⟨Go.heap_setCell_same w' _ 4 _ 120 _ hrow, h.mp.kept (hk bm h.mp.lt (fun e => hap.1 e.symm) fun e => (hap.2 bm (.inr (.inr e))).2 rfl), rowKept h.ko fun g e => hk g (h.ko.lt g e).2 (hap.2 g (.inl e)).1 (h.a1 g e).2, rowKept h.ro fun g e => hk g (h.ro.lt g e).2 (hap.2 g (.inr (.inl e))).1 (h.a2 g e), ?_, fun b e => ⟨(h.a1 b e).1, fun e2 => ?_⟩, fun b e e2 => ?_⟩, by rw [cell_of_row _ _ _ _ _ _ hrow]; rfl, frozen_of_row _ _ _ _ 120 hrow, ⟨hu.same.1, hu.same.2.1, hu.same.2.2, by rw [World.size_setCell]; omega, fun b hb hn => hk b hb (fun e => hn (.inl e)) fun e => hn (.inr (.inr (.inr (.inr e))))⟩, hloc⟩
  · simp only [List.length_append, List.length_cons, List.length_nil, List.map_append, List.map_cons, List.map_nil]
    exact rowKept ho fun g e => Go.heap_setCell_other _ _ _ _ (hvp g e)
  · rcases hloc b e2 with e3 | e3
    · exact (h.a1 b e).2 e3
    · have := (h.ko.lt b e).2; omega
  · rcases hloc b e2 with e3 | e3
    · exact h.a2 b e e3
    · have := (h.ro.lt b e).2; omega
/-- the map turns -/
theorem LRep.turnM {w w' : World} {p bm : Nat} {kv rv iv : Value} {S : LS} {ks : List Int} (h : LRep w p bm kv rv iv S) (hm : MP w' bm ks) (hg : w.grownBy w' (some bm)) : LRep w' p bm kv rv iv { S with mks := ks } ∧ Chg (LU p bm kv rv iv) w w' := by
  have hap := h.ap
  have hk : ∀ b, b < w.heap.size → b ≠ bm → w'.heap[b]? = w.heap[b]? := fun b hb hn => hg.block b hb (fun e => hn (Option.some.inj e))
  refine ⟨⟨(hk p (h.lt p (.inl rfl)) hap.1).trans h.row, hm, rowKept h.ko fun g e => hk g (h.ko.lt g e).2 (hap.2 g (.inl e)).2, rowKept h.ro fun g e => hk g (h.ro.lt g e).2 (hap.2 g (.inr (.inl e))).2, rowKept h.io fun g e => hk g (h.io.lt g e).2 (hap.2 g (.inr (.inr e))).2, h.a1, h.a2⟩, ⟨hg.os, hg.tape, hg.output, hg.size, fun b hb hn => hk b hb fun e => hn (.inr (.inl e))⟩⟩
/-- a key is written -/
theorem LRep.setK {w : World} {p bm g cap : Nat} {rv iv : Value} {S : LS} {s : Nat} {key : Int} (h : LRep w p bm (.slice (some ⟨g, 0, none⟩) S.ks.length cap) rv iv S) (hs : s < S.ks.length) :
    LRep (w.setCell ⟨g, s, none⟩ (.int .i64 key)) p bm (.slice (some ⟨g, 0, none⟩) S.ks.length cap) rv iv { S with ks := S.ks.set s key } ∧ Chg (fun b => b = g) w (w.setCell ⟨g, s, none⟩ (.int .i64 key)) := by
  have hap := h.ap
  have hg := hap.2 g (.inl rfl)
  have hk : ∀ b, b ≠ g → (w.setCell ⟨g, s, none⟩ (.int .i64 key)).heap[b]? = w.heap[b]? := fun b hb => Go.heap_setCell_other _ _ _ _ (by exact hb)
  have hr := row_set (i := s) (x := .int .i64 key) h.ko hs
  refine ⟨⟨(hk p (fun e => hg.1 e.symm)).trans h.row, h.mp.kept (hk bm (fun e => hg.2 e.symm)), ?_, rowKept h.ro fun b e => hk b fun e2 => (h.a1 g rfl).1 (by rw [← e2]; exact e), rowKept h.io fun b e => hk b fun e2 => (h.a1 g rfl).2 (by rw [← e2]; exact e), h.a1, h.a2⟩, ⟨rfl, rfl, rfl, by rw [World.size_setCell]; exact Nat.le_refl _, fun b _ hn => hk b hn⟩⟩
  simp only [List.length_set, List.map_set]
  exact hr
end Go.Proofs.Ythkkinmegileaaa
