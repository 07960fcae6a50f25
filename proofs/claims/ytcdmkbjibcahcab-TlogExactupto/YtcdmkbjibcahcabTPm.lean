import Derived.Test.YtcdmkbjibcahcabTPx
namespace Go.Proofs.Ytcdmkbjibcahcab
open Go.RowKit
set_option linter.unusedVariables false
set_option linter.unusedSimpArgs false
set_option maxRecDepth 20000

section
variable {w0 x y z : World} {p bm q : Nat} {v v' dv dv' : Value} {S S' D D' : LS} {b c N N' : Nat} {A0 : Nat → Nat → Prop} {P : VL}
/-- a block of another kind is written -/
theorem PX.other {g0 : Nat} {cs0 : Array Value} {t0 : TypeId} (h : PX w0 x p bm v q dv S D b c N A0 P) (t : Chg (fun g => g = g0) x y) (h0 : x.heap[g0]? = some (.cells cs0 t0 (0, 0))) (hw : w0.heap.size ≤ g0) (hk : ¬ kB t0) (h1 : t0 ≠ 69) (h2 : t0 ≠ 62) (h3 : t0 ≠ 64) : PX w0 y p bm v q dv S D b c N A0 P := by
  have hne : ∀ g cs t, x.heap[g]? = some (.cells cs t (0, 0)) → t0 ≠ t → ¬ g = g0 := fun g cs t hg h1 e => neType hg h0 (fun e2 => h1 e2.symm) e
  have k1 : t0 ≠ 56 := fun e => hk (.inl e)
  have k2 : t0 ≠ 46 := fun e => hk (.inr (.inl e))
  have k3 : t0 ≠ 32 := fun e => hk (.inr (.inr e))
  have ck : Ck (fun _ _ => False) x y := Ck.ofChg t fun g e cs hc => hne g cs _ hc k1 e
  have r := h.al.rep
  have r' : LRep y p bm v S := r.kept fun g e => by
    refine t.keep g (r.lt g e) ?_
    rcases e with rfl | rfl | e
    · exact hne _ _ _ r.row h1
    · intro e2
      subst e2
      exact r.mp.neCells h0 rfl
    · obtain ⟨cs, hc⟩ := r.lst.cells e
      exact hne _ _ _ hc k1
  have bel : Below w0.heap.size w0 y := h.al.bel.trans (t.below h.al.bel.size fun g e => by rw [e]; exact hw)
  refine ⟨⟨r', bel, h.al.own, h.al.ok, h.al.nw, h.al.tot⟩, h.dl.kept fun g e => ?_, h.q0, h.q1, h.bx.move (ck.mono fun _ _ _ e => e.elim) t (fun g e cs => ⟨fun hc => hne g cs _ hc k3 e, fun hc => hne g cs _ hc k2 e⟩) (fun g i e => .inl e), h.a0, fun g i e => Nat.lt_of_lt_of_le (h.a1 g i e) t.size, fun u hu => (h.ep u hu).ck ck (ds_false _), h.dp, h.pp, h.op, h.pl⟩
  rcases e with rfl | e
  · exact t.keep _ h.dl.lt (hne _ _ _ h.dl.row h2)
  · obtain ⟨cs, hc⟩ := h.dl.lineK e
    exact t.keep _ (h.dl.vlt e) (hne _ _ _ hc h3)
end
/-- a run of moves or asks: x the world at its begin; its boxes of the pair and the operation -/
structure PM (w0 x y : World) (p bm q b : Nat) (A0 : Nat → Nat → Prop) (vs ds : Value) (o : Int × Int × Int × Int) (v dv : Value) (S D : LS) (c N : Nat) (P : VL) : Prop where
  px : PX w0 y p bm v q dv S D b c N A0 P
  hp : y.heap[x.heap.size]? = some (.cells #[.pointer (some ⟨p, 0, none⟩), .pointer (some ⟨q, 0, none⟩)] 26 (0, 0))
  ho : y.heap[x.heap.size + 1]? = some (.cells #[.int .i64 o.1, .int .i64 o.2.1, .int .i64 o.2.2.1, .int .i64 o.2.2.2] 34 (0, 0))
  ft : Ft x y p bm q vs v ds dv A0
  x0 : w0.heap.size ≤ x.heap.size
section
variable {w0 x y z : World} {p bm q b : Nat} {A0 : Nat → Nat → Prop} {vs ds v dv v' dv' : Value} {o : Int × Int × Int × Int} {S D S' D' : LS} {c N c' N' : Nat} {P P' : VL}
theorem PM.start (h : PX w0 x p bm v q dv S D b c N A0 P) (o : Int × Int × Int × Int) : PM w0 x ((x.alloc (.cells #[.pointer (some ⟨p, 0, none⟩), .pointer (some ⟨q, 0, none⟩)] 26)).alloc (.cells #[.int .i64 o.1, .int .i64 o.2.1, .int .i64 o.2.2.1, .int .i64 o.2.2.2] 34)) p bm q b A0 v dv o v dv S D c N P := by
  have hb := below_alloc2 x (.cells #[.pointer (some ⟨p, 0, none⟩), .pointer (some ⟨q, 0, none⟩)] 26) (.cells #[.int .i64 o.1, .int .i64 o.2.1, .int .i64 o.2.2.1, .int .i64 o.2.2.2] 34)
  refine ⟨h.below hb, heap_alloc2 x _ _, ?_, Ft.ofBelow hb, h.al.bel.size⟩
  have := Go.heap_alloc_new (x.alloc (.cells #[.pointer (some ⟨p, 0, none⟩), .pointer (some ⟨q, 0, none⟩)] 26)) (.cells #[.int .i64 o.1, .int .i64 o.2.1, .int .i64 o.2.2.1, .int .i64 o.2.2.2] 34)
  simpa using this
theorem PM.step (h : PM w0 x y p bm q b A0 vs ds o v dv S D c N P) (k : PX w0 z p bm v' q dv' S' D' b c' N' A0 P') (f : Ft y z p bm q v v' dv dv' A0) : PM w0 x z p bm q b A0 vs ds o v' dv' S' D' c' N' P' := by
  have r := h.px.al.rep
  have kp : ∀ (g : Nat) (cs : Array Value) (t : TypeId), y.heap[g]? = some (.cells cs t (0, 0)) → t ≠ 69 → t ≠ 62 → t ≠ 64 → ¬ kB t → z.heap[g]? = y.heap[g]? := fun g cs t hg h1 h2 h3 h4 => by
    refine f.ob g (Array.getElem?_eq_some_iff.1 hg).1 (neType hg r.row h1) (r.mp.neCells hg) (neType hg h.px.dl.row h2) (fun e => ?_) fun cs2 t2 hc hk => ?_
    · obtain ⟨ds, hd⟩ := h.px.dl.lineK e
      exact neType hg hd h3 rfl
    · rw [hg] at hc
      simp only [Option.some.injEq, Obj.cells.injEq] at hc
      rw [← hc.2.1] at hk
      exact h4 hk
  exact ⟨k, (kp _ _ _ h.hp (by decide) (by decide) (by decide) (by unfold kB; decide)).trans h.hp, (kp _ _ _ h.ho (by decide) (by decide) (by decide) (by unfold kB; decide)).trans h.ho, h.ft.trans f, h.x0⟩
theorem PM.below (h : PM w0 x y p bm q b A0 vs ds o v dv S D c N P) (hb : Below y.heap.size y z) : PM w0 x z p bm q b A0 vs ds o v dv S D c N P := h.step (h.px.below hb) (Ft.ofBelow hb)
theorem PM.p0 (h : PM w0 x y p bm q b A0 vs ds o v dv S D c N P) : y.cell? ⟨x.heap.size, 0, none⟩ = some (.pointer (some ⟨p, 0, none⟩)) := by rw [cell_of_row _ _ _ _ _ _ h.hp]; rfl
theorem PM.p1 (h : PM w0 x y p bm q b A0 vs ds o v dv S D c N P) : y.cell? ⟨x.heap.size, 1, none⟩ = some (.pointer (some ⟨q, 0, none⟩)) := by rw [cell_of_row _ _ _ _ _ _ h.hp]; rfl
theorem PM.o0 (h : PM w0 x y p bm q b A0 vs ds o v dv S D c N P) : y.cell? ⟨x.heap.size + 1, 0, none⟩ = some (.int .i64 o.1) := by rw [cell_of_row _ _ _ _ _ _ h.ho]; rfl
theorem PM.o2 (h : PM w0 x y p bm q b A0 vs ds o v dv S D c N P) : y.cell? ⟨x.heap.size + 1, 2, none⟩ = some (.int .i64 o.2.2.1) := by rw [cell_of_row _ _ _ _ _ _ h.ho]; rfl
theorem PM.o3 (h : PM w0 x y p bm q b A0 vs ds o v dv S D c N P) : y.cell? ⟨x.heap.size + 1, 3, none⟩ = some (.int .i64 o.2.2.2) := by rw [cell_of_row _ _ _ _ _ _ h.ho]; rfl
theorem PM.fo (h : PM w0 x y p bm q b A0 vs ds o v dv S D c N P) (i : Nat) : y.frozen? ⟨x.heap.size + 1, i, none⟩ = false := frozen_of_row _ _ _ _ 34 h.ho
/-- the operation's box is written -/
theorem PM.set (h : PM w0 x y p bm q b A0 vs ds o v dv S D c N P) (i : Nat) (u : Value) (o' : Int × Int × Int × Int) (he : (#[.int .i64 o.1, .int .i64 o.2.1, .int .i64 o.2.2.1, .int .i64 o.2.2.2] : Array Value).setIfInBounds i u = #[.int .i64 o'.1, .int .i64 o'.2.1, .int .i64 o'.2.2.1, .int .i64 o'.2.2.2]) : PM w0 x (y.setCell ⟨x.heap.size + 1, i, none⟩ u) p bm q b A0 vs ds o' v dv S D c N P := by
  have hs := Go.heap_setCell_same y (x.heap.size + 1) i _ 34 u h.ho
  rw [he] at hs
  have ch : Chg (fun g => g = x.heap.size + 1) y (y.setCell ⟨x.heap.size + 1, i, none⟩ u) := chg_set (Chg.refl _ y) _ i u (.inl rfl)
  have k := h.px.other ch h.ho (by have := h.x0; omega) (by unfold kB; decide) (by decide) (by decide) (by decide)
  refine ⟨k, (Go.heap_setCell_other _ _ _ _ (show x.heap.size ≠ x.heap.size + 1 by omega)).trans h.hp, hs, ⟨Nat.le_trans h.ft.size ch.size, fun g hg h1 h2 h3 h4 h5 => (ch.keep g (by have := h.ft.size; omega) (by omega)).trans (h.ft.ob g hg h1 h2 h3 h4 h5), ?_, h.ft.dloc, h.ft.vloc⟩, h.x0⟩
  obtain ⟨R, c1, c2⟩ := h.ft.ck
  exact ⟨R, c1.trans (Ck.ofChg ch fun g e cs hc => neType hc h.ho (by decide) e), c2⟩
end
/-- moves is through: its answer, both logs, the book -/
def MvP (w0 x : World) (p bm q b : Nat) (A0 : Nat → Nat → Prop) (vs ds : Value) (c N : Nat) (e : Ending) (y : World) : Prop := ∃ v dv S, e = .returned (.bool true) ∧ PX w0 y p bm v q dv S S b c N A0 [] ∧ Ft x y p bm q vs v ds dv A0
def opV (o : Int × Int × Int × Int) : Value := .agg #[.int .i64 o.1, .int .i64 o.2.1, .int .i64 o.2.2.1, .int .i64 o.2.2.2]
def paV (p q : Nat) : Value := .agg #[.pointer (some ⟨p, 0, none⟩), .pointer (some ⟨q, 0, none⟩)]
end Go.Proofs.Ytcdmkbjibcahcab
