import Derived.Test.YtijfnacplikibabKOwn
import Derived.Test.YtijfnacplikibabKLock1
namespace Go.Proofs.Ytijfnacplikibab
open Go.RowKit
set_option linter.unusedVariables false
set_option linter.unusedSimpArgs false
set_option maxRecDepth 20000

/-- a table in memory: m its mutex, n extents, V the lists' values, L what they hold (2 * e: holders, 2 * e + 1: the row) -/
structure TRep (w : World) (p b : Nat) (m : Int) (n : Nat) (V : Nat → Value) (L : Nat → List (Int × Int)) (ws wt : Int) : Prop where
  row : w.heap[p]? = some (.cells #[.int .i32 m, .int .u32 0, .slice (some ⟨b, 0, none⟩) n n, .int .i64 ws, .int .i64 wt] 70 (0, 0))
  arr : ∃ A, w.heap[b]? = some (.cells A 89 (0, 0)) ∧ A.size = n * 2 ∧ ∀ k, k < n * 2 → A[k]? = some (V k)
  own : ∀ k, k < n * 2 → CRow w (V k) (L k)
  ap : ∀ k j g, k < n * 2 → j < n * 2 → (V k).ownBlock = some g → (V j).ownBlock = some g → k = j
  sz : n ≤ 4096
/-- the table's blocks -/
def TU (p b n : Nat) (V : Nat → Value) (g : Nat) : Prop := g = p ∨ g = b ∨ ∃ k, k < n * 2 ∧ (V k).ownBlock = some g
section
variable {w w' : World} {p b : Nat} {m : Int} {n : Nat} {V : Nat → Value} {L : Nat → List (Int × Int)} {ws wt : Int}
theorem TRep.lt (h : TRep w p b m n V L ws wt) : ∀ g, TU p b n V g → g < w.heap.size := by
  rintro g (rfl | rfl | ⟨k, hk, e⟩)
  · exact (Array.getElem?_eq_some_iff.1 h.row).1
  · obtain ⟨A, hA, -⟩ := h.arr
    exact (Array.getElem?_eq_some_iff.1 hA).1
  · exact (h.own k hk).lt e
theorem TRep.kept (h : TRep w p b m n V L ws wt) (hk : ∀ g, TU p b n V g → w'.heap[g]? = w.heap[g]?) : TRep w' p b m n V L ws wt := by
  obtain ⟨A, hA, h2, h3⟩ := h.arr
  exact ⟨(hk p (.inl rfl)).trans h.row, ⟨A, (hk b (.inr (.inl rfl))).trans hA, h2, h3⟩, fun k hk' => (h.own k hk').kept fun g e => hk g (.inr (.inr ⟨k, hk', e⟩)), h.ap, h.sz⟩
theorem TRep.below (h : TRep w p b m n V L ws wt) (hb : Below w.heap.size w w') : TRep w' p b m n V L ws wt := h.kept fun g e => hb.block g (h.lt g e)
theorem TRep.c (h : TRep w p b m n V L ws wt) (i : Nat) : w.cell? ⟨p, i, none⟩ = (#[.int .i32 m, .int .u32 0, .slice (some ⟨b, 0, none⟩) n n, .int .i64 ws, .int .i64 wt] : Array Value)[i]? := cell_of_row _ _ _ _ _ _ h.row
theorem TRep.f (h : TRep w p b m n V L ws wt) (i : Nat) : w.frozen? ⟨p, i, none⟩ = false := frozen_of_row _ _ _ _ 70 h.row
theorem TRep.lc (h : TRep w p b m n V L ws wt) {k : Nat} (hk : k < n * 2) : w.cell? ⟨b, k, none⟩ = some (V k) := by
  obtain ⟨A, hA, h2, h3⟩ := h.arr
  rw [cell_of_row _ _ _ _ _ _ hA]
  exact h3 k hk
theorem TRep.lf (h : TRep w p b m n V L ws wt) (k : Nat) : w.frozen? ⟨b, k, none⟩ = false := by
  obtain ⟨A, hA, h2, h3⟩ := h.arr
  exact frozen_of_row _ _ _ _ 89 hA
theorem TRep.pb (h : TRep w p b m n V L ws wt) : p ≠ b := by
  obtain ⟨A, hA, h2, h3⟩ := h.arr
  exact neType h.row hA (by decide)
theorem TRep.gp (h : TRep w p b m n V L ws wt) {k g : Nat} (hk : k < n * 2) (e : (V k).ownBlock = some g) : g ≠ p ∧ g ≠ b := by
  obtain ⟨A, hA, h2, h3⟩ := h.arr
  obtain ⟨cs, hc⟩ := rowCells (h.own k hk) e
  exact ⟨neType hc h.row (by decide), neType hc hA (by decide)⟩
/-- the mutex turns -/
theorem TRep.lock (h : TRep w p b m n V L ws wt) (m' : Int) : TRep (w.setCell ⟨p, 0, none⟩ (.int .i32 m')) p b m' n V L ws wt := by
  obtain ⟨A, hA, h2, h3⟩ := h.arr
  refine ⟨Go.heap_setCell_same w _ 0 _ 70 _ h.row, ⟨A, (Go.heap_setCell_other _ _ _ _ (by exact fun e => h.pb e.symm)).trans hA, h2, h3⟩, fun k hk => (h.own k hk).kept fun g e => Go.heap_setCell_other _ _ _ _ (by exact (h.gp hk e).1), h.ap, h.sz⟩
/-- how many wait turns -/
theorem TRep.wait (h : TRep w p b m n V L ws wt) (wt' : Int) : TRep (w.setCell ⟨p, 4, none⟩ (.int .i64 wt')) p b m n V L ws wt' := by
  obtain ⟨A, hA, h2, h3⟩ := h.arr
  refine ⟨Go.heap_setCell_same w _ 4 _ 70 _ h.row, ⟨A, (Go.heap_setCell_other _ _ _ _ (by exact fun e => h.pb e.symm)).trans hA, h2, h3⟩, fun k hk => (h.own k hk).kept fun g e => Go.heap_setCell_other _ _ _ _ (by exact (h.gp hk e).1), h.ap, h.sz⟩
end
def upd {α : Type} (f : Nat → α) (k : Nat) (x : α) (j : Nat) : α := if j = k then x else f j
theorem upd_same {α : Type} (f : Nat → α) (k : Nat) (x : α) : upd f k x k = x := if_pos rfl
theorem upd_other {α : Type} (f : Nat → α) (k : Nat) (x : α) {j : Nat} (h : j ≠ k) : upd f k x j = f j := if_neg h
/-- a list turns: its new value is stored; w1: the world ahead of the store -/
theorem TRep.list {w w1 : World} {p b : Nat} {m : Int} {n : Nat} {V : Nat → Value} {L : Nat → List (Int × Int)} {ws wt : Int} (h : TRep w p b m n V L ws wt) {k : Nat} (hk : k < n * 2) {v : Value} {l : List (Int × Int)} (ho : CRow w1 v l)
    (hkeep : ∀ g, g < w.heap.size → (V k).ownBlock ≠ some g → w1.heap[g]? = w.heap[g]?) (hloc : ∀ g, v.ownBlock = some g → (V k).ownBlock = some g ∨ w.heap.size ≤ g) :
    TRep (w1.setCell ⟨b, k, none⟩ v) p b m n (upd V k v) (upd L k l) ws wt := by
  obtain ⟨A, hA, h2, h3⟩ := h.arr
  have hA1 := (hkeep b (h.lt b (.inr (.inl rfl))) fun e => (h.gp hk e).2 rfl).trans hA
  have hr1 := (hkeep p (h.lt p (.inl rfl)) fun e => (h.gp hk e).1 rfl).trans h.row
  have hvb : ∀ g, v.ownBlock = some g → g ≠ b := fun g e => by
    obtain ⟨cs, hc⟩ := rowCells ho e
    exact neType hc hA1 (by decide)
  refine ⟨(Go.heap_setCell_other _ _ _ _ (by exact h.pb)).trans hr1, ⟨A.setIfInBounds k v, Go.heap_setCell_same w1 b k _ 89 _ hA1, by simpa using h2, fun j hj => ?_⟩, fun j hj => ?_, fun i j g hi hj e1 e2 => ?_, h.sz⟩
  · by_cases e : j = k
    · subst e
      rw [upd_same, Array.getElem?_setIfInBounds_self_of_lt (by omega)]
    · rw [upd_other _ _ _ e, Array.getElem?_setIfInBounds_ne (Ne.symm e)]
      exact h3 j hj
  · by_cases e : j = k
    · subst e
      rw [upd_same, upd_same]
      exact ho.kept fun g e => Go.heap_setCell_other _ _ _ _ (by exact hvb g e)
    · rw [upd_other _ _ _ e, upd_other _ _ _ e]
      refine (h.own j hj).kept fun g e2 => ?_
      rw [Go.heap_setCell_other _ _ _ _ (by exact (h.gp hj e2).2)]
      exact hkeep g ((h.own j hj).lt e2) fun e3 => e (h.ap j k g hj hk e2 e3)
  · by_cases ei : i = k
    · by_cases ej : j = k
      · omega
      · subst ei
        rw [upd_same] at e1
        rw [upd_other _ _ _ ej] at e2
        rcases hloc g e1 with e3 | e3
        · exact h.ap i j g hi hj e3 e2
        · have := (h.own j hj).lt e2; omega
    · rw [upd_other _ _ _ ei] at e1
      by_cases ej : j = k
      · subst ej
        rw [upd_same] at e2
        rcases hloc g e2 with e3 | e3
        · exact h.ap i j g hi hj e1 e3
        · have := (h.own i hi).lt e1; omega
      · rw [upd_other _ _ _ ej] at e2
        exact h.ap i j g hi hj e1 e2
/-- a request in memory -/
structure QRep (w : World) (r p : Nat) (e o md : Int) (gr : Bool) (tv : Value) (nu : Int) : Prop where
  row : w.heap[r]? = some (.cells #[.pointer (some ⟨p, 0, none⟩), .int .i64 e, .int .i64 o, .int .i64 md, .bool gr, tv, .int .i64 nu] 77 (0, 0))
section
variable {w w' : World} {r p : Nat} {e o md : Int} {gr : Bool} {tv : Value} {nu : Int}
theorem QRep.kept (h : QRep w r p e o md gr tv nu) (hk : w'.heap[r]? = w.heap[r]?) : QRep w' r p e o md gr tv nu := ⟨hk.trans h.row⟩
theorem QRep.lt (h : QRep w r p e o md gr tv nu) : r < w.heap.size := (Array.getElem?_eq_some_iff.1 h.row).1
theorem QRep.c (h : QRep w r p e o md gr tv nu) (i : Nat) : w.cell? ⟨r, i, none⟩ = (#[.pointer (some ⟨p, 0, none⟩), .int .i64 e, .int .i64 o, .int .i64 md, .bool gr, tv, .int .i64 nu] : Array Value)[i]? := cell_of_row _ _ _ _ _ _ h.row
theorem QRep.f (h : QRep w r p e o md gr tv nu) (i : Nat) : w.frozen? ⟨r, i, none⟩ = false := frozen_of_row _ _ _ _ 77 h.row
theorem QRep.told (h : QRep w r p e o md gr tv nu) (v : Value) : QRep (w.setCell ⟨r, 5, none⟩ v) r p e o md gr v nu := ⟨Go.heap_setCell_same w _ 5 _ 77 _ h.row⟩
theorem QRep.num (h : QRep w r p e o md gr tv nu) (z : Int) : QRep (w.setCell ⟨r, 6, none⟩ (.int .i64 z)) r p e o md gr tv z := ⟨Go.heap_setCell_same w _ 6 _ 77 _ h.row⟩
theorem QRep.grant (h : QRep w r p e o md gr tv nu) (z : Bool) : QRep (w.setCell ⟨r, 4, none⟩ (.bool z)) r p e o md z tv nu := ⟨Go.heap_setCell_same w _ 4 _ 77 _ h.row⟩
theorem QRep.ext (h : QRep w r p e o md gr tv nu) (z : Int) : QRep (w.setCell ⟨r, 1, none⟩ (.int .i64 z)) r p z o md gr tv nu := ⟨Go.heap_setCell_same w _ 1 _ 77 _ h.row⟩
end
theorem TRep.rq {w : World} {p b : Nat} {m : Int} {n : Nat} {V : Nat → Value} {L : Nat → List (Int × Int)} {ws wt : Int} (h : TRep w p b m n V L ws wt) {r p' : Nat} {e o md : Int} {gr : Bool} {tv : Value} {nu : Int} (q : QRep w r p' e o md gr tv nu) : ¬ TU p b n V r := by
  obtain ⟨A, hA, h2, h3⟩ := h.arr
  rintro (rfl | rfl | ⟨k, hk, e⟩)
  · exact neType q.row h.row (by decide) rfl
  · exact neType q.row hA (by decide) rfl
  · obtain ⟨cs, hc⟩ := rowCells (h.own k hk) e
    exact neType q.row hc (by decide) rfl
theorem Chg.set {U : Nat → Prop} {w x : World} (h : Chg U w x) (g i : Nat) (v : Value) (hg : U g ∨ w.heap.size ≤ g) : Chg U w (x.setCell ⟨g, i, none⟩ v) :=
  ⟨h.os, h.tape, h.output, by rw [World.size_setCell]; exact h.size, fun b hb hn => (Go.heap_setCell_other _ _ _ _ (by
    show b ≠ g
    rintro rfl
    rcases hg with hg | hg
    · exact hn hg
    · omega)).trans (h.keep b hb hn)⟩
theorem Chg.thenB {U : Nat → Prop} {w x y : World} (h : Chg U w x) (k : Below x.heap.size x y) : Chg U w y := h.trans (Chg.ofBelow k)
theorem below_drewN {n : Nat} {w x : World} (h : Below n w x) (k : Nat) : Below n w (x.drewN k) := ⟨h.os, h.tape, h.output, h.size, h.block⟩
theorem exists_any (w : World) (p b : Nat) (m : Int) (n : Nat) (V : Nat → Value) (L : Nat → List (Int × Int)) (ws wt : Int) (r : Nat) (e o md : Int) (gr : Bool) (tv : Value) (nu : Int) (h : TRep w p b m n V L ws wt) (q : QRep w r p e o md gr tv nu) :
    Calls Try.prog 45 #[.pointer (some ⟨r, 0, none⟩)] w fun e' w' => e' = .returned (.bool (decide (0 ≤ e) && decide (e < (n : Int)))) ∧ Below w.heap.size w w' := by
  have c0 := q.c 0
  have c1 := q.c 1
  have d2 := h.c 2
  simp at c0 c1 d2
  clear h q
  by_cases h1 : 0 ≤ e
  · by_cases h2 : e < (n : Int)
    · go_enter Try.func45, Try.ntmps45
      go_wp2_with fail
      go_quiet (fail)
      try go_wp2
      go_ret
      exact ⟨by simp [h1, h2], ⟨rfl, rfl, rfl, Nat.le_refl _, fun _ _ => rfl⟩⟩
    · go_enter Try.func45, Try.ntmps45
      go_wp2_with fail
      go_quiet (fail)
      try go_wp2
      go_ret
      exact ⟨by simp [h1, h2], ⟨rfl, rfl, rfl, Nat.le_refl _, fun _ _ => rfl⟩⟩
  · have h3 : (0 ≤ e) = False := by simp; omega
    have h4 : decide (0 ≤ e) = false := by simp; omega
    go_enter Try.func45, Try.ntmps45
    go_wp2_with fail
    first | go_quiet (fail) | go_region
    try go_wp2
    go_ret
    exact ⟨by simp; intro h5; omega, ⟨rfl, rfl, rfl, Nat.le_refl _, fun _ _ => rfl⟩⟩
end Go.Proofs.Ytijfnacplikibab
