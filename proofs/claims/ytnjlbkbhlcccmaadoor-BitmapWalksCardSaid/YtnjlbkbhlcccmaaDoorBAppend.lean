import Derived.Test.YtnjlbkbhlcccmaaDoorBRef3
import Derived.Test.YtnjlbkbhlcccmaaDoorBCopied
import Derived.Deep.DeepAppendWide
namespace Go.Proofs.YtnjlbkbhlcccmaaDoor
open Go.RowKit Go.Shelf
set_option linter.unusedVariables false
set_option linter.unusedSimpArgs false
set_option maxRecDepth 20000

/-- one element behind an owned row: in new memory, and all that was stays; or in place -/
theorem run_append1 {P : Program} (w : World) (t ty e : TypeId) (i : TypeInfo) (z : Value) (bytes : Nat) (ht : P.underlying t = some (.slice e)) (hi : P.info? e = some i) (hz : i.zero = some z) (hsize : i.size = 1) (hby : i.bytes = bytes) (hzs : z.cells.size = 1)
    (v : Value) (n : Nat) (xs : List Value) (hown : w.ownsRow 0 e 1 v n xs) (a : Addr) (c : Nat) (x : Value) (hnews : ∀ j u, [x][j]? = some u → w.cell? (a.add j) = some u) (h1 : x.oneCell' = true) (h63 : n + 1 ≤ maxLen) (hbytes : ((n + 1) + (n + 1) / 4 + 192) * bytes ≤ 281474976710656) :
    ∃ v' w', (Builtin.append_ #[t, t] ty #[v, .slice (some a) 1 c]).run P w = .ok v' w' ∧ w'.ownsRow 0 e 1 v' (n + 1) (xs ++ [x]) ∧
      ((v'.ownBlock = some w.heap.size ∧ w.grownBy w' none) ∨ (∃ g, v.ownBlock = some g ∧ v'.ownBlock = some g ∧ w.grownBy w' (some g))) := by
  obtain ⟨v', w', hr, ho, hg, -⟩ := run_append_own_wide (P := P) w 0 t ty e i z 1 bytes ht hi hz hsize hby hzs (by decide) v n xs hown a 1 c [x] rfl hnews (by simp [h1]) h63 hbytes (Nat.zero_le _)
  refine ⟨v', w', hr, ho, ?_⟩
  have h63' : n + 1 ≤ 9223372036854775807 := by simp only [maxLen] at h63; omega
  rcases hown.2 with ⟨rfl, rfl⟩ | ⟨g, cap, cur, rfl, hbg, hgc, hnc, hcm, hcs, htake⟩
  · have hr2 := run_append_nil (P := P) w t ty e i z ht hi hz a 1 c [x] (by rw [hsize]; rfl) hnews (by decide) (by decide) (by
      rw [hby]
      exact Nat.le_trans (Nat.mul_le_mul_right _ (by decide)) hbytes)
    rw [hr] at hr2
    injection hr2 with e1 e2
    subst e1 e2
    exact .inl ⟨rfl, ⟨rfl, rfl, rfl, by simp, fun k hk _ => heap_alloc_old w.drew _ k hk⟩⟩
  · by_cases hroom : n + 1 ≤ cap
    · have hr2 := run_append_room (P := P) w t ty e i ht hi g n cap cur hgc a 1 c [x] (by rw [hsize]; rfl) hnews (by simp [h1]) hroom (by rw [hsize]; simp; omega)
      rw [hr] at hr2
      injection hr2 with e1 e2
      exact .inr ⟨g, rfl, by rw [e1]; rfl, hg⟩
    · have holds : ∀ j u, xs[j]? = some u → w.cell? ((⟨g, 0, none⟩ : Addr).add j) = some u := hown.cells (g := g) rfl
      have hr2 := run_append_grow (P := P) w t ty e i z ht hi hz ⟨g, 0, none⟩ n cap xs (by rw [hsize]; exact hown.1) holds a 1 c [x] (by rw [hsize]; rfl) hnews (by omega) (by omega) (by rw [hby]; exact growslice_fits_wide (by omega) hbytes)
      rw [hr] at hr2
      injection hr2 with e1 e2
      subst e1 e2
      exact .inl ⟨rfl, ⟨rfl, rfl, rfl, by simp, fun k hk _ => heap_alloc_old w.drew _ k hk⟩⟩
theorem wpList_append1 {P : Program} (w : World) {ops : Array Oper} {rest : List Oper} {o : Oper} {a : Act} {Q : Exit → Act → World → Prop} (hgd : o.guard = none) (s x : Operand) (t : TypeId)
    (ho : o.op = .call { callee := .builtin .append, args := #[s, x], argTypes := #[t, t] })
    (e : TypeId) (i : TypeInfo) (z : Value) (bytes : Nat) (ht : P.underlying t = some (.slice e)) (hi : P.info? e = some i) (hz : i.zero = some z) (hsize : i.size = 1) (hby : i.bytes = bytes) (hzs : z.cells.size = 1)
    (v : Value) (n : Nat) (xs : List Value) (hs : a.eval s = v) (hown : w.ownsRow 0 e 1 v n xs) (ad : Addr) (c : Nat) (y : Value) (hx : a.eval x = .slice (some ad) 1 c) (hnews : ∀ j u, [y][j]? = some u → w.cell? (ad.add j) = some u) (h1 : y.oneCell' = true) (h63 : n + 1 ≤ maxLen) (hbytes : ((n + 1) + (n + 1) / 4 + 192) * bytes ≤ 281474976710656)
    (h : ∀ v' w', w'.ownsRow 0 e 1 v' (n + 1) (xs ++ [y]) → ((v'.ownBlock = some w.heap.size ∧ w.grownBy w' none) ∨ (∃ g, v.ownBlock = some g ∧ v'.ownBlock = some g ∧ w.grownBy w' (some g))) → wpList P ops Q rest (a.put o.dst v') w') :
    wpList P ops Q (o :: rest) a w := by
  refine wpList_plain hgd fun K hK => ?_
  obtain ⟨v', w', hr, h2, h3⟩ := run_append1 (P := P) w t o.type e i z bytes ht hi hz hsize hby hzs v n xs hown ad c y hnews h1 h63 hbytes
  unfold Oper.wp execOp
  simp only [ho, resolve, invoke, builtin, Sem.run_bind, Sem.run_pure, Result.andThen_ok, List.map_toArray, List.map_cons, List.map_nil, hs, hx, hr]
  exact hK _ _ (h v' w' h2 h3)

theorem rowKept {w w' : World} {base c : Nat} {e : TypeId} {v : Value} {n : Nat} {xs : List Value} (h : w.ownsRow base e c v n xs) (hk : ∀ g, v.ownBlock = some g → w'.heap[g]? = w.heap[g]?) : w'.ownsRow base e c v n xs := by
  refine ⟨h.1, ?_⟩
  rcases h.2 with h0 | ⟨g, cap, cur, rfl, h1, hg, r⟩
  · exact .inl h0
  · exact .inr ⟨g, cap, cur, rfl, h1, by rw [hk g rfl]; exact hg, r⟩
theorem rowCells {w : World} {base c : Nat} {e : TypeId} {v : Value} {n : Nat} {xs : List Value} (h : w.ownsRow base e c v n xs) {g : Nat} (hg : v.ownBlock = some g) : ∃ cs, w.heap[g]? = some (.cells cs e (0, 0)) := by
  rcases h.2 with ⟨rfl, _⟩ | ⟨g', cap, cur, rfl, _, hh, _⟩
  · simp [Value.ownBlock] at hg
  · simp only [Value.ownBlock, Option.some.injEq] at hg
    subst hg
    exact ⟨cur, hh⟩
theorem rowForm {w : World} {base c : Nat} {e : TypeId} {v : Value} {n : Nat} {xs : List Value} (h : w.ownsRow base e c v n xs) : ∃ a cap, v = .slice a n cap ∧ n ≤ cap ∧ cap ≤ maxLen := by
  rcases h.2 with ⟨rfl, rfl⟩ | ⟨g, cap, cur, rfl, _, _, h1, h2, _⟩
  · exact ⟨_, _, rfl, Nat.le_refl _, Nat.zero_le _⟩
  · exact ⟨_, _, rfl, h1, h2⟩
theorem neType {w : World} {g g' : Nat} {cs ds : Array Value} {t t' : TypeId} (h : w.heap[g]? = some (.cells cs t (0, 0))) (h' : w.heap[g']? = some (.cells ds t' (0, 0))) (ne : t ≠ t') : g ≠ g' := fun e => by
  rw [e, h'] at h
  simp only [Option.some.injEq, Obj.cells.injEq] at h
  exact ne h.2.1.symm
/-- a cell of the row is written -/
theorem row_set {w : World} {base : Nat} {e : TypeId} {g n cap i : Nat} {xs : List Value} {x : Value} (h : w.ownsRow base e 1 (.slice (some ⟨g, 0, none⟩) n cap) n xs) (hi : i < n) : (w.setCell ⟨g, i, none⟩ x).ownsRow base e 1 (.slice (some ⟨g, 0, none⟩) n cap) n (xs.set i x) := by
  refine ⟨by rw [List.length_set]; exact h.1, ?_⟩
  rcases h.2 with ⟨h0, _⟩ | ⟨g', cap', cur, e', h1, hg, h2, h3, h4, h5⟩
  · simp at h0
  · simp only [Value.slice.injEq, Option.some.injEq, Addr.mk.injEq] at e'
    obtain ⟨⟨rfl, -, -⟩, -, rfl⟩ := e'
    refine .inr ⟨g, cap, cur.setIfInBounds i x, rfl, h1, Go.heap_setCell_same w g i _ e _ hg, h2, h3, by simpa using h4, ?_⟩
    rw [← h5, Array.toList_setIfInBounds, List.take_set]
/-- the row's cells are all x: whoever looks at their beginning sees it -/
theorem wsl_rep {w : World} {lv : Value} {g n cap N x : Nat} (h : w.ownsRow 0 63 1 lv N (List.replicate N (.int .u64 (x : Int)))) (hb : lv.ownBlock = some g) (hn : n ≤ N) (h1 : n ≤ cap) (h2 : cap ≤ maxLen) (hx : x < 18446744073709551616) :
    WSl w (.slice (some ⟨g, 0, none⟩) n cap) (List.replicate n x) := by
  rcases h.2 with ⟨rfl, _⟩ | ⟨g', cap', cur, rfl, _, hg, q1, q2, q3, q4⟩
  · simp [Value.ownBlock] at hb
  · simp only [Value.ownBlock, Option.some.injEq] at hb
    subst hb
    refine ⟨_, _, by rw [List.length_replicate], by rw [List.length_replicate]; exact h1, h2, by simp, fun b hb => by rw [List.eq_of_mem_replicate hb]; exact hx, fun _ => ⟨g', 0, rfl, fun i hi => ?_⟩⟩
    rw [List.length_replicate] at hi
    rw [Nat.zero_add, h.cellAt i (by omega)]
    simp [List.getElem?_replicate, List.getD, hi, show i < N by omega]
theorem wsl_keep {w w' : World} {v : Value} {l : List Nat} (h : WSl w v l) (hk : ∀ g, v.ownBlock = some g → w'.heap[g]? = w.heap[g]?) : WSl w' v l := by
  obtain ⟨a, cap, rfl, q1, q2, q3, q4, q5⟩ := h
  refine ⟨a, cap, rfl, q1, q2, q3, q4, fun h0 => ?_⟩
  obtain ⟨b, off, rfl, hc⟩ := q5 h0
  exact ⟨b, off, rfl, fun i hi => by rw [World.cell?_of_block (hk b rfl)]; exact hc i hi⟩
theorem rep_of_all {m : Value} : ∀ {n : Nat} {xs : List Value}, xs.length = n → (∀ j, j < n → xs[j]? = some m) → xs = List.replicate n m := fun {n xs} hl h => by
  apply List.ext_getElem?
  intro j
  by_cases hj : j < n
  · rw [h j hj]; simp [hj]
  · rw [List.getElem?_eq_none (by omega), List.getElem?_eq_none (by simp; omega)]

/-- the book of lists -/
structure Bk (w : World) (k : Nat) (late : Bool) (bv raw was : Value) (nl : Nat) (ys : List Value) : Prop where
  row : w.heap[k]? = some (.cells #[bv, .bool late, raw, was] 32 (0, 0))
  bo : w.ownsRow 0 22 1 bv nl ys
theorem Bk.lt {w : World} {k nl : Nat} {late : Bool} {bv raw was : Value} {ys : List Value} (h : Bk w k late bv raw was nl ys) : k < w.heap.size := (Array.getElem?_eq_some_iff.1 h.row).1
theorem Bk.kept {w w' : World} {k nl : Nat} {late : Bool} {bv raw was : Value} {ys : List Value} (h : Bk w k late bv raw was nl ys) (hp : w'.heap[k]? = w.heap[k]?) (hb : ∀ b, bv.ownBlock = some b → w'.heap[b]? = w.heap[b]?) : Bk w' k late bv raw was nl ys :=
  ⟨hp.trans h.row, rowKept h.bo hb⟩
theorem Bk.below {w w' : World} {k nl : Nat} {late : Bool} {bv raw was : Value} {ys : List Value} (h : Bk w k late bv raw was nl ys) (hb : Below w.heap.size w w') : Bk w' k late bv raw was nl ys := h.kept (hb.block _ h.lt) fun b e => hb.block b (h.bo.lt b e).2
theorem Bk.cell {w : World} {k nl : Nat} {late : Bool} {bv raw was : Value} {ys : List Value} (h : Bk w k late bv raw was nl ys) (i : Nat) : w.cell? ⟨k, i, none⟩ = (#[bv, .bool late, raw, was] : Array Value)[i]? := cell_of_row _ _ _ _ _ _ h.row
theorem Bk.free {w : World} {k nl : Nat} {late : Bool} {bv raw was : Value} {ys : List Value} (h : Bk w k late bv raw was nl ys) (i : Nat) : w.frozen? ⟨k, i, none⟩ = false := frozen_of_row _ _ _ _ 32 h.row
def Upon (w w' : World) (v v' : Value) : Prop := (v'.ownBlock = some w.heap.size ∧ w.grownBy w' none) ∨ (∃ g, v.ownBlock = some g ∧ v'.ownBlock = some g ∧ w.grownBy w' (some g))
theorem Upon.block {w w' : World} {v v' : Value} (h : Upon w w' v v') : ∀ b, b < w.heap.size → v.ownBlock ≠ some b → w'.heap[b]? = w.heap[b]? := fun b hb hne => by
  rcases h with ⟨_, h⟩ | ⟨g, h1, _, h⟩
  · exact h.block b hb (by simp)
  · exact h.block b hb (by rw [← h1]; exact Ne.symm hne)
theorem Upon.size {w w' : World} {v v' : Value} (h : Upon w w' v v') : w.heap.size ≤ w'.heap.size := by rcases h with ⟨_, h⟩ | ⟨g, _, _, h⟩ <;> exact h.size
theorem Upon.same {w w' : World} {v v' : Value} (h : Upon w w' v v') : w'.os = w.os ∧ w'.tape = w.tape ∧ w'.output = w.output := by rcases h with ⟨_, h⟩ | ⟨g, _, _, h⟩ <;> exact ⟨h.os, h.tape, h.output⟩
theorem Upon.loc {w w' : World} {v v' : Value} (h : Upon w w' v v') : ∀ b, v'.ownBlock = some b → v.ownBlock = some b ∨ b = w.heap.size := fun b hb => by
  rcases h with ⟨e, _⟩ | ⟨g, e1, e2, _⟩
  · rw [e] at hb; exact .inr (Option.some.inj hb).symm
  · rw [e2] at hb; rw [e1]; exact .inl hb
theorem Upon.chg {U : Nat → Prop} {w w0 w' : World} {v v' : Value} {o : Obj} (h : Upon (w0.alloc o) w' v v') (hc : Chg U w w0) (hu : ∀ b, v.ownBlock = some b → U b ∨ w.heap.size ≤ b) : Chg U w w' := by
  have hs := h.size
  have hs0 := hc.size
  rw [World.size_alloc] at hs
  obtain ⟨a1, a2, a3⟩ := h.same
  refine ⟨a1.trans hc.os, a2.trans hc.tape, a3.trans hc.output, by omega, fun b hb hn => ?_⟩
  rw [h.block b (by rw [World.size_alloc]; omega) (fun e => by rcases hu b e with h | h; exact hn h; omega), Below.heap_alloc _ _ b (by omega)]
  exact hc.keep b hb hn
theorem Bk.push {wa w6 : World} {k nl : Nat} {late : Bool} {bv raw was v6 : Value} {ys zs : List Value} (h : Bk wa k late bv raw was nl ys) (ho : w6.ownsRow 0 22 1 v6 (nl + 1) zs) (hg : Upon wa w6 bv v6) :
    Bk (w6.setCell ⟨k, 0, none⟩ v6) k late v6 raw was (nl + 1) zs ∧ w6.heap[k]? = some (.cells #[bv, .bool late, raw, was] 32 (0, 0)) := by
  have hr6 : w6.heap[k]? = some (.cells #[bv, .bool late, raw, was] 32 (0, 0)) := (hg.block k h.lt fun e => by
    obtain ⟨cs, hcs⟩ := rowCells h.bo e
    exact neType hcs h.row (by decide) rfl).trans h.row
  refine ⟨⟨Go.heap_setCell_same w6 k 0 _ 32 _ hr6, rowKept ho fun b hb => Go.heap_setCell_other _ _ _ _ ?_⟩, hr6⟩
  obtain ⟨cs, hcs⟩ := rowCells ho hb
  exact neType hcs hr6 (by decide)
end Go.Proofs.YtnjlbkbhlcccmaaDoor
