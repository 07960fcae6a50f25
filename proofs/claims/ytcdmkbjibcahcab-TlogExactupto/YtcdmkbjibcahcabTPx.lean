import Derived.Test.YtcdmkbjibcahcabTBi
import Derived.Test.YtcdmkbjibcahcabTAl
namespace Go.Proofs.Ytcdmkbjibcahcab
open Go.RowKit
set_option linter.unusedVariables false
set_option linter.unusedSimpArgs false
set_option maxRecDepth 20000

def AV (A0 : Nat → Nat → Prop) (v : Value) (P : VL) (g i : Nat) : Prop := (A0 g i ∨ Rm v g i) ∨ ∃ u ∈ P, Rm u.1 g i
/-- the program's log, the document's, the book, lists not yet handed to it (P); A0: cells of others -/
structure PX (w0 x : World) (p bm : Nat) (v : Value) (q : Nat) (dv : Value) (S D : LS) (b c N : Nat) (A0 : Nat → Nat → Prop) (P : VL) : Prop where
  al : AL w0 x p bm v S N
  dl : DL x q dv D
  q0 : w0.heap.size ≤ q
  q1 : ∀ g, dv.ownBlock = some g → w0.heap.size ≤ g
  bx : BX w0 x (AV A0 v P) b c
  a0 : Ds A0 (Rm v)
  a1 : ∀ g i, A0 g i → g < x.heap.size
  ep : ∀ u ∈ P, ERow x u.1 u.2
  dp : ∀ u ∈ P, Ds (Rm u.1) (fun g i => A0 g i ∨ Rm v g i)
  pp : P.Pairwise fun a b => Ds (Rm a.1) (Rm b.1)
  op : ∀ u ∈ P, ∀ g, u.1.ownBlock = some g → w0.heap.size ≤ g
  pl : ∀ u ∈ P, u.2.length ≤ 2000
/-- what a step leaves of others' blocks -/
structure Ft (x y : World) (p bm q : Nat) (v v' dv dv' : Value) (A0 : Nat → Nat → Prop) : Prop where
  size : x.heap.size ≤ y.heap.size
  ob : ∀ g, g < x.heap.size → g ≠ p → g ≠ bm → g ≠ q → dv.ownBlock ≠ some g → (∀ cs t, x.heap[g]? = some (.cells cs t (0, 0)) → ¬ kB t) → y.heap[g]? = x.heap[g]?
  ck : ∃ R, Ck R x y ∧ Ds R A0
  dloc : ∀ g, dv'.ownBlock = some g → dv.ownBlock = some g ∨ x.heap.size ≤ g
  vloc : ∀ g, v'.ownBlock = some g → v.ownBlock = some g ∨ x.heap.size ≤ g
section
variable {w0 x y z : World} {p bm q : Nat} {v v' v'' dv dv' dv'' : Value} {S S' D D' : LS} {b c N N' : Nat} {A0 : Nat → Nat → Prop} {P : VL}
theorem Ft.trans (h : Ft x y p bm q v v' dv dv' A0) (k : Ft y z p bm q v' v'' dv' dv'' A0) : Ft x z p bm q v v'' dv dv'' A0 := by
  have hs := h.size
  refine ⟨Nat.le_trans hs k.size, fun g hg h1 h2 h3 h4 h5 => ?_, ?_, fun g e => ?_, fun g e => ?_⟩
  · have e := h.ob g hg h1 h2 h3 h4 h5
    refine (k.ob g (by omega) h1 h2 h3 (fun q => ?_) fun cs t q => ?_).trans e
    · rcases h.dloc g q with q | q
      · exact h4 q
      · omega
    · rw [e] at q
      exact h5 cs t q
  · obtain ⟨R1, c1, d1⟩ := h.ck
    obtain ⟨R2, c2, d2⟩ := k.ck
    exact ⟨fun g i => R1 g i ∨ R2 g i, (c1.mono fun _ _ _ e => .inl e).trans (c2.mono fun _ _ _ e => .inr e), fun g i e a => e.elim (fun e => d1 g i e a) fun e => d2 g i e a⟩
  · rcases k.dloc g e with e | e
    · exact h.dloc g e
    · exact .inr (by omega)
  · rcases k.vloc g e with e | e
    · exact h.vloc g e
    · exact .inr (by omega)
theorem Ft.ofBelow (hb : Below x.heap.size x y) : Ft x y p bm q v v dv dv A0 := ⟨hb.size, fun g hg _ _ _ _ _ => hb.block g hg, ⟨fun _ _ => False, Ck.ofBelow hb, fun _ _ h _ => h.elim⟩, fun g e => .inl e, fun g e => .inl e⟩
theorem PX.below (h : PX w0 x p bm v q dv S D b c N A0 P) (hb : Below x.heap.size x y) : PX w0 y p bm v q dv S D b c N A0 P :=
  ⟨h.al.below hb, h.dl.below hb, h.q0, h.q1, h.bx.below hb, h.a0, fun g i e => Nat.lt_of_lt_of_le (h.a1 g i e) hb.size, fun u hu => (h.ep u hu).below hb, h.dp, h.pp, h.op, h.pl⟩
theorem PX.more (h : PX w0 x p bm v q dv S D b c N A0 P) {c' N' : Nat} (hc : c ≤ c') (hn : N ≤ N') : PX w0 x p bm v q dv S D b c' N' A0 P := ⟨h.al.more hn, h.dl, h.q0, h.q1, h.bx.more hc, h.a0, h.a1, h.ep, h.dp, h.pp, h.op, h.pl⟩
theorem DL.lineK (h : DL x q dv D) {g : Nat} (e : dv.ownBlock = some g) : ∃ cs, x.heap[g]? = some (.cells cs 64 (0, 0)) := DRow.cellsOf h.own e
/-- the document's log is not touched by a call of the program's -/
theorem DL.byLog (h : DL x q dv D) (r : LRep x p bm v S) (t : Chg (LU p bm v) x y) : DL y q dv D := h.kept fun g e => by
  have hk : ∀ g cs t, x.heap[g]? = some (.cells cs t (0, 0)) → t ≠ 69 → t ≠ 56 → ¬ LU p bm v g := fun g cs t hg h1 h2 => by
    rintro (e | e | e)
    · exact neType hg r.row h1 e
    · exact r.mp.neCells hg e
    · obtain ⟨ds, hd⟩ := r.lst.cells e
      exact neType hg hd h2 rfl
  rcases e with rfl | e
  · exact t.keep _ h.lt (hk _ _ _ h.row (by decide) (by decide))
  · obtain ⟨cs, hc⟩ := h.lineK e
    exact t.keep _ (h.vlt e) (hk _ _ _ hc (by decide) (by decide))
theorem LU_kind (r : LRep x p bm v S) {g : Nat} (h : LU p bm v g) : ∀ cs, x.heap[g]? ≠ some (.cells cs 32 (0, 0)) ∧ x.heap[g]? ≠ some (.cells cs 46 (0, 0)) := fun cs => by
  have hk : ∀ t, t ≠ 69 → t ≠ 56 → x.heap[g]? ≠ some (.cells cs t (0, 0)) := fun t h1 h2 hg => by
    rcases h with e | e | e
    · exact neType hg r.row h1 e
    · exact r.mp.neCells hg e
    · obtain ⟨ds, hd⟩ := r.lst.cells e
      exact neType hg hd h2 rfl
  exact ⟨hk _ (by decide) (by decide), hk _ (by decide) (by decide)⟩
/-- a call of the log that gives no list -/
theorem PX.log (h : PX w0 x p bm v q dv S D b c N A0 P) (t : Tn x y p bm v v' S') (a : AL w0 y p bm v' S' N') : PX w0 y p bm v' q dv S' D b c N' A0 P ∧ Ft x y p bm q v v' dv dv A0 := by
  have r := h.al.rep
  have ck := t.ck r
  have rm : ∀ g i, Rm v' g i → Rm v g i ∨ x.heap.size ≤ g := fun g i e => t.rm r e
  refine ⟨⟨a, h.dl.byLog r t.chg, h.q0, h.q1, h.bx.move (ck.mono fun g i _ e => .inl (.inr e)) t.chg (fun g e => LU_kind r e) ?_, ?_, fun g i e => Nat.lt_of_lt_of_le (h.a1 g i e) t.chg.size, fun u hu => (h.ep u hu).ck ck ?_, ?_, h.pp, h.op, h.pl⟩, ⟨t.chg.size, ?_, ⟨_, ck, fun g i e a => h.a0 g i a e⟩, fun g e => .inl e, t.loc⟩⟩
  · rintro g i ((e | e) | e)
    · exact .inl (.inl (.inl e))
    · rcases rm g i e with e | e
      · exact .inl (.inl (.inr e))
      · exact .inr e
    · exact .inl (.inr e)
  · intro g i e1 e2
    rcases rm g i e2 with e | e
    · exact h.a0 g i e1 e
    · have := h.a1 g i e1; omega
  · intro g i e1 e2
    exact h.dp u hu g i ((h.ep u hu).clrm e1) (.inr e2)
  · rintro u hu g i e1 (e2 | e2)
    · exact h.dp u hu g i e1 (.inl e2)
    · rcases rm g i e2 with e | e
      · exact h.dp u hu g i e1 (.inr e)
      · have := (h.ep u hu).lt e1.own; omega
  · intro g hg h1 h2 h3 h4 h5
    refine t.chg.keep g hg ?_
    rintro (e | e | e)
    · exact h1 e
    · exact h2 e
    · obtain ⟨cs, hc⟩ := r.lst.cells e
      exact h5 cs _ hc (.inl rfl)
/-- a call of the log that gives a list out of its own -/
theorem PX.logL {k : Nat} {S0 : LS} {lv : Value} {L : List En} (h : PX w0 x p bm v q dv S D b c N A0 P) (t : Lv x y p bm v S0 k lv v') (a : AL w0 y p bm v' (leaveS S0 k) N') (he : ERow y lv L) (hl : L.length ≤ 2000) : PX w0 y p bm v' q dv (leaveS S0 k) D b c N' A0 ((lv, L) :: P) ∧ Ft x y p bm q v v' dv dv A0 := by
  have r := h.al.rep
  obtain ⟨h2, ft⟩ := h.log t.tn a
  have ck := t.tn.ck r
  have rm : ∀ g i, Rm v' g i → Rm v g i ∨ x.heap.size ≤ g := fun g i e => t.tn.rm r e
  refine ⟨⟨a, h2.dl, h.q0, h.q1, h.bx.move (ck.mono fun g i _ e => .inl (.inr e)) t.tn.chg (fun g e => LU_kind r e) ?_, h2.a0, h2.a1, ?_, ?_, List.pairwise_cons.2 ⟨fun u hu g i e1 e2 => h.dp u hu g i e2 (.inr (t.rm g i e1).1), h.pp⟩, ?_, ?_⟩, ft⟩
  · rintro g i ((e | e) | ⟨u, hu, e⟩)
    · exact .inl (.inl (.inl e))
    · rcases rm g i e with e | e
      · exact .inl (.inl (.inr e))
      · exact .inr e
    · rcases List.mem_cons.1 hu with rfl | hu
      · exact .inl (.inl (.inr (t.rm g i e).1))
      · exact .inl (.inr ⟨u, hu, e⟩)
  · intro u hu
    rcases List.mem_cons.1 hu with rfl | hu
    · exact he
    · exact h2.ep u hu
  · intro u hu
    rcases List.mem_cons.1 hu with rfl | hu
    · rintro g i e1 (e2 | e2)
      · exact h.a0 g i e2 (t.rm g i e1).1
      · exact (t.rm g i e1).2 e2
    · exact h2.dp u hu
  · intro u hu g e
    rcases List.mem_cons.1 hu with rfl | hu
    · exact h.al.own g (.inr (.inr (t.own g e)))
    · exact h.op u hu g e
  · intro u hu
    rcases List.mem_cons.1 hu with rfl | hu
    · exact hl
    · exact h.pl u hu
/-- a list in new memory -/
theorem PX.new {lv : Value} {L : List En} (h : PX w0 x p bm v q dv S D b c N A0 P) (hb : Below x.heap.size x y) (he : ERow y lv L) (hn : ∀ g, lv.ownBlock = some g → x.heap.size ≤ g) (hl : L.length ≤ 2000) : PX w0 y p bm v q dv S D b c N A0 ((lv, L) :: P) := by
  have h2 := h.below hb
  have hs := h.al.bel.size
  refine ⟨h2.al, h2.dl, h.q0, h.q1, h.bx.move (U := fun _ => False) (Ck.ofBelow hb) (Chg.ofBelow hb) (fun _ e => e.elim) ?_, h.a0, h2.a1, ?_, ?_, List.pairwise_cons.2 ⟨fun u hu g i e1 e2 => ?_, h.pp⟩, ?_, ?_⟩
  · rintro g i (e | ⟨u, hu, e⟩)
    · exact .inl (.inl e)
    · rcases List.mem_cons.1 hu with rfl | hu
      · exact .inr (hn g e.own)
      · exact .inl (.inr ⟨u, hu, e⟩)
  · intro u hu
    rcases List.mem_cons.1 hu with rfl | hu
    · exact he
    · exact h2.ep u hu
  · intro u hu
    rcases List.mem_cons.1 hu with rfl | hu
    · rintro g i e1 (e2 | e2)
      · have := hn g e1.own
        have := h.a1 g i e2
        omega
      · have := hn g e1.own
        have := h.al.rep.lst.lt e2.own
        omega
    · exact h.dp u hu
  · have := hn g e1.own
    have := (h.ep u hu).lt e2.own
    omega
  · intro u hu g e
    rcases List.mem_cons.1 hu with rfl | hu
    · have := hn g e; omega
    · exact h.op u hu g e
  · intro u hu
    rcases List.mem_cons.1 hu with rfl | hu
    · exact hl
    · exact h.pl u hu
/-- a call of the document's log -/
theorem PX.doc (h : PX w0 x p bm v q dv S D b c N A0 P) (t : DT x y q dv dv' D') : PX w0 y p bm v q dv' S D' b c N A0 P ∧ Ft x y p bm q v v dv dv' A0 := by
  have hk : ∀ g, g = q ∨ dv.ownBlock = some g → ∃ cs t, x.heap[g]? = some (.cells cs t (0, 0)) ∧ (t = 62 ∨ t = 64) := fun g e => by
    rcases e with rfl | e
    · exact ⟨_, _, h.dl.row, .inl rfl⟩
    · obtain ⟨cs, hc⟩ := h.dl.lineK e
      exact ⟨cs, _, hc, .inr rfl⟩
  have hne : ∀ g cs t, x.heap[g]? = some (.cells cs t (0, 0)) → t ≠ 62 → t ≠ 64 → ¬ (g = q ∨ dv.ownBlock = some g) := fun g cs t hg h1 h2 e => by
    obtain ⟨ds, t2, hd, h3⟩ := hk g e
    rcases h3 with rfl | rfl
    · exact neType hg hd h1 rfl
    · exact neType hg hd h2 rfl
  have ck : Ck (fun _ _ => False) x y := Ck.ofChg t.chg fun g e cs hc => hne g cs _ hc (by decide) (by decide) e
  have r := h.al.rep
  have r' : LRep y p bm v S := r.kept fun g e => by
    refine t.chg.keep g (r.lt g e) ?_
    rcases e with rfl | rfl | e
    · exact hne _ _ _ r.row (by decide) (by decide)
    · intro e2
      obtain ⟨ds, t2, hd, -⟩ := hk _ e2
      exact r.mp.neCells hd rfl
    · obtain ⟨cs, hc⟩ := r.lst.cells e
      exact hne _ _ _ hc (by decide) (by decide)
  have bel : Below w0.heap.size w0 y := h.al.bel.trans (t.chg.below h.al.bel.size fun g e => by
    rcases e with rfl | e
    · exact h.q0
    · exact h.q1 g e)
  refine ⟨⟨⟨r', bel, h.al.own, h.al.ok, h.al.nw, h.al.tot⟩, t.l, h.q0, fun g e => ?_, h.bx.move (ck.mono fun _ _ _ e => e.elim) t.chg (fun g e cs => ⟨fun hc => hne g cs _ hc (by decide) (by decide) e, fun hc => hne g cs _ hc (by decide) (by decide) e⟩) (fun g i e => .inl e), h.a0, fun g i e => Nat.lt_of_lt_of_le (h.a1 g i e) t.chg.size, fun u hu => (h.ep u hu).ck ck (ds_false _), h.dp, h.pp, h.op, h.pl⟩, ⟨t.chg.size, fun g hg h1 h2 h3 h4 h5 => t.chg.keep g hg fun e => e.elim h3 h4, ⟨_, ck, fun _ _ e _ => e.elim⟩, t.loc, fun g e => .inl e⟩⟩
  rcases t.loc g e with e | e
  · exact h.q1 g e
  · exact Nat.le_trans h.al.bel.size e
/-- a list goes into the book -/
theorem PX.keep {l : Value × List En} (h : PX w0 x p bm v q dv S D b c N A0 (l :: P)) (hc : c ≤ 4400000000000) : Calls Try.prog 20 #[.pointer (some ⟨b, 0, none⟩), l.1] x fun e y => e = .returned (.tuple #[]) ∧ PX w0 y p bm v q dv S D b (c + 1) N A0 P ∧ Ft x y p bm q v v dv dv A0 := by
  have ml : l ∈ l :: P := List.mem_cons.2 (.inl rfl)
  have mp : ∀ u, u ∈ P → u ∈ l :: P := fun u hu => List.mem_cons.2 (.inr hu)
  have r := h.al.rep
  have hd := List.pairwise_cons.1 h.pp
  have dl : Ds (Rm l.1) (AV A0 v P) := by
    rintro g i e1 (e2 | ⟨u, hu, e2⟩)
    · exact h.dp l ml g i e1 e2
    · exact hd.1 u hu g i e1 e2
  have hA : ∀ g i, AV A0 v P g i → g < x.heap.size := by
    rintro g i ((e | e) | ⟨u, hu, e⟩)
    · exact h.a1 g i e
    · exact r.lst.lt e.own
    · exact (h.ep u (mp u hu)).lt e.own
  have bx : BX w0 x (fun g i => AV A0 v P g i ∨ Rm l.1 g i) b c := h.bx.move (U := fun _ => False) (Ck.refl _ _) (Chg.refl _ _) (fun _ e => e.elim) (by
    rintro g i ((e | ⟨u, hu, e⟩) | e)
    · exact .inl (.inl e)
    · exact .inl (.inr ⟨u, mp u hu, e⟩)
    · exact .inl (.inr ⟨l, ml, e⟩))
  refine (keep_any bx (h.ep l ml) (h.pl l ml) dl hA h.al.bel.size (h.op l ml) hc).mono ?_
  rintro e y ⟨rfl, bx', ch, R, ck, dR⟩
  have no : ∀ g, (∀ cs t, x.heap[g]? = some (.cells cs t (0, 0)) → ¬ kB t) → ¬ UK w0 x g := fun g hg e => by
    obtain ⟨-, cs, t, h1, h2⟩ := e
    exact hg cs t h1 h2
  have nk : ∀ g ds t, x.heap[g]? = some (.cells ds t (0, 0)) → ¬ kB t → ¬ UK w0 x g := fun g ds t hg hn => no g fun cs t2 h1 h2 => by
    rw [hg] at h1
    simp only [Option.some.injEq, Obj.cells.injEq] at h1
    rw [← h1.2.1] at h2
    exact hn h2
  have dv' : Ds (Cl v) R := fun g i e1 e2 => dR g i e2 (.inl (.inr (r.lst.clrm e1)))
  have r' : LRep y p bm v S := ⟨(ch.keep p (r.lt p (.inl rfl)) (nk _ _ _ r.row (by unfold kB; decide))).trans r.row, r.lst.ck ck dv', r.mp.kept (ch.keep bm r.mp.lt (no bm fun cs t hc _ => r.mp.neCells hc rfl))⟩
  have bel : Below w0.heap.size w0 y := h.al.bel.trans (ch.below h.al.bel.size fun g e => e.1)
  refine ⟨rfl, ⟨⟨r', bel, h.al.own, h.al.ok, h.al.nw, h.al.tot⟩, h.dl.kept fun g e => ?_, h.q0, h.q1, bx', h.a0, fun g i e => Nat.lt_of_lt_of_le (h.a1 g i e) ch.size, fun u hu => (h.ep u (mp u hu)).ck ck fun g i e1 e2 => dR g i e2 (.inr ⟨u, hu, (h.ep u (mp u hu)).clrm e1⟩), fun u hu => h.dp u (mp u hu), hd.2, fun u hu => h.op u (mp u hu), fun u hu => h.pl u (mp u hu)⟩, ⟨ch.size, fun g hg h1 h2 h3 h4 h5 => ch.keep g hg (no g h5), ⟨R, ck, fun g i e a => dR g i e (.inl (.inl a))⟩, fun g e => .inl e, fun g e => .inl e⟩⟩
  rcases e with rfl | e
  · exact ch.keep _ h.dl.lt (nk _ _ _ h.dl.row (by unfold kB; decide))
  · obtain ⟨cs, hc⟩ := h.dl.lineK e
    exact ch.keep _ (h.dl.vlt e) (nk _ _ _ hc (by unfold kB; decide))
end
end Go.Proofs.Ytcdmkbjibcahcab
