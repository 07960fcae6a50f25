import Derived.Test.YthkkinmegileaaaALru1
import Derived.Test.YthkkinmegileaaaAShelf
namespace Go.Proofs.Ythkkinmegileaaa
open Go.RowKit Go.Sort
set_option linter.unusedVariables false
set_option linter.unusedSimpArgs false
set_option maxRecDepth 20000

/-- an Lru of ints in memory -/
structure LRep (w : World) (p bm : Nat) (kv rv iv : Value) (S : LS) : Prop where
  row : w.heap[p]? = some (.cells #[.int .i64 (S.slots : Int), .map (some bm), kv, rv, iv] 120 (0, 0))
  mp : MP w bm S.mks
  ko : w.ownsRow 0 3 1 kv S.ks.length (S.ks.map iV)
  ro : w.ownsRow 0 3 1 rv S.rs.length (S.rs.map nV)
  io : w.ownsRow 0 3 1 iv S.idle.length (S.idle.map nV)
  a1 : ∀ b, kv.ownBlock = some b → rv.ownBlock ≠ some b ∧ iv.ownBlock ≠ some b
  a2 : ∀ b, rv.ownBlock = some b → iv.ownBlock ≠ some b
def LU (p bm : Nat) (kv rv iv : Value) (b : Nat) : Prop := b = p ∨ b = bm ∨ kv.ownBlock = some b ∨ rv.ownBlock = some b ∨ iv.ownBlock = some b
theorem LRep.kept {w w' : World} {p bm : Nat} {kv rv iv : Value} {S : LS} (h : LRep w p bm kv rv iv S) (hk : ∀ b, LU p bm kv rv iv b → w'.heap[b]? = w.heap[b]?) : LRep w' p bm kv rv iv S :=
  ⟨(hk _ (.inl rfl)).trans h.row, h.mp.kept (hk _ (.inr (.inl rfl))), rowKept h.ko fun g e => hk g (.inr (.inr (.inl e))), rowKept h.ro fun g e => hk g (.inr (.inr (.inr (.inl e)))), rowKept h.io fun g e => hk g (.inr (.inr (.inr (.inr e)))), h.a1, h.a2⟩
theorem LRep.lt {w : World} {p bm : Nat} {kv rv iv : Value} {S : LS} (h : LRep w p bm kv rv iv S) : ∀ b, LU p bm kv rv iv b → b < w.heap.size := by
  rintro b (rfl | rfl | e | e | e)
  · exact (Array.getElem?_eq_some_iff.1 h.row).1
  · exact h.mp.lt
  · exact (h.ko.lt b e).2
  · exact (h.ro.lt b e).2
  · exact (h.io.lt b e).2
theorem LRep.c {w : World} {p bm : Nat} {kv rv iv : Value} {S : LS} (h : LRep w p bm kv rv iv S) (i : Nat) : w.cell? ⟨p, i, none⟩ = (#[.int .i64 (S.slots : Int), .map (some bm), kv, rv, iv] : Array Value)[i]? := cell_of_row _ _ _ _ _ _ h.row
theorem LRep.f {w : World} {p bm : Nat} {kv rv iv : Value} {S : LS} (h : LRep w p bm kv rv iv S) (i : Nat) : w.frozen? ⟨p, i, none⟩ = false := frozen_of_row _ _ _ _ 120 h.row
/-- the parts lie apart -/
theorem LRep.ap {w : World} {p bm : Nat} {kv rv iv : Value} {S : LS} (h : LRep w p bm kv rv iv S) : p ≠ bm ∧ ∀ b, (kv.ownBlock = some b ∨ rv.ownBlock = some b ∨ iv.ownBlock = some b) → b ≠ p ∧ b ≠ bm := by
  refine ⟨h.mp.neCells h.row, ?_⟩
  have key : ∀ (v : Value) (n : Nat) (xs : List Value), w.ownsRow 0 3 1 v n xs → ∀ b, v.ownBlock = some b → b ≠ p ∧ b ≠ bm := fun v n xs hv b e => by
    obtain ⟨cs, hc⟩ := rowCells hv e
    exact ⟨neType hc h.row (by decide), h.mp.neCells hc⟩
  rintro b (e | e | e)
  · exact key _ _ _ h.ko b e
  · exact key _ _ _ h.ro b e
  · exact key _ _ _ h.io b e
theorem LRep.below {w w' : World} {p bm : Nat} {kv rv iv : Value} {S : LS} (h : LRep w p bm kv rv iv S) (hb : Below w.heap.size w w') : LRep w' p bm kv rv iv S := h.kept fun b e => hb.block b (h.lt b e)

/-- slices.Index on a row: where x stands -/
theorem index_any {w : World} {v : Value} {l : List Nat} {x at' : Nat} (h : w.ownsRow 0 3 1 v l.length (l.map nV)) (hd : l.Nodup) (hx : l[at']? = some x) :
    Calls Try.prog 94 #[v, .int .i64 (x : Int)] w fun e w' => e = .returned (.int .i64 (at' : Int)) ∧ w' = w := by
  have hlt : at' < l.length := (List.getElem?_eq_some_iff.1 hx).1
  obtain ⟨a, cap, rfl, h1, h2⟩ := rowForm h
  unfold maxLen at h2
  have HC : Hid (∀ j, j < l.length → ∃ g, a = some ⟨g, 0, none⟩ ∧ w.cell? ⟨g, j, none⟩ = some (.int .i64 (l.getD j 0 : Nat))) := hide fun j hj => by
    have hj' : (l.map nV)[j]? = some (nV (l.getD j 0)) := by simp [List.getD, hj]
    have h' := h
    rw [show l.length = (l.map nV).length by simp] at h'
    obtain ⟨g, cp, e, hc⟩ := rowCell h' hj'
    simp only [Value.slice.injEq] at e
    exact ⟨g, e.1, hc⟩
  have HNE : Hid (∀ j, j < at' → l.getD j 0 ≠ x) := hide fun j hj e => by
    have hj' : j < l.length := by omega
    have e2 : l[j]? = some x := by rw [List.getElem?_eq_getElem hj']; simp [List.getD, hj'] at e; rw [e]
    have := nodup_inj hd e2 hx
    omega
  have HX : Hid (l.getD at' 0 = x) := hide (by simp [List.getD, hx])
  clear h hd hx
  generalize l.length = n at *
  go_enter Try.func94, Try.ntmps94
  go_wp2_with fail
  go_loopw [8] (fun i wr => ∃ j : Nat, j ≤ at' ∧ i = .int .i64 (j : Int) ∧ wr = w) (fun i _ => at' - (intOf i).toNat)
  case atStart => exact ⟨0, Nat.zero_le _, rfl, rfl⟩
  case round =>
    obtain ⟨j, hj, rfl, rfl⟩ := hrel
    obtain ⟨g, rfl, hc⟩ := HC.out j (by omega)
    by_cases e : j = at'
    · subst e
      rw [HX.out] at hc
      clear HX HNE HC
      go_wp2_with fail
      go_ret
      exact ⟨rfl, rfl⟩
    · have hne : ((x : Int) == ((l.getD j 0 : Nat) : Int)) = false := by
        have := HNE.out j (by omega)
        generalize l.getD j 0 = y at *
        simp; omega
      generalize l.getD j 0 = y at *
      clear HX HNE HC
      go_wp2_with fail
      go_roundw
      case rel => exact ⟨j + 1, by omega, by go_num, trivial⟩
      case measure => simp [intOf]; omega
end Go.Proofs.Ythkkinmegileaaa
