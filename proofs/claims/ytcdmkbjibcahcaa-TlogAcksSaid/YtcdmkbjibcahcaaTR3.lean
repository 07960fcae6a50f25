import Derived.Test.YtcdmkbjibcahcaaTMade
import Derived.Test.YtcdmkbjibcahcaaTOl
import Derived.Test.YtcdmkbjibcahcaaTOps
namespace Go.Proofs.Ytcdmkbjibcahcaa
open Go.RowKit
set_option linter.unusedVariables false
set_option linter.unusedSimpArgs false

def OpV.row (s : OpV) : Array Value := #[.int .i64 s.kind, .int .i64 s.of, .int .i64 s.a, .int .i64 s.b]
/-- a log, a list of writes and an operation's box beside it -/
structure R3 (w x : World) (p bm : Nat) (v : Value) (S : LS) (N : Nat) (iv : Value) (l : List En) (g : Nat) (s : OpV) : Prop where
  r2 : R2 w x p bm v S N iv l
  bx : x.heap[g]? = some (.cells s.row 29 (0, 0))
  ng : ¬ LU p bm v g
  ni : iv.ownBlock ≠ some g
  og : w.heap.size ≤ g
section
variable {w x y z : World} {p bm : Nat} {v v' iv iv' : Value} {S S' : LS} {N N' : Nat} {l l' : List En} {g : Nat} {s : OpV}
theorem R3.lt (h : R3 w x p bm v S N iv l g s) : g < x.heap.size := (Array.getElem?_eq_some_iff.1 h.bx).1
theorem R3.start (h : R2 w x p bm v S N iv l) (s : OpV) : R3 w (x.alloc (.cells s.row 29)) p bm v S N iv l x.heap.size s :=
  ⟨h.below (below_alloc x _), Go.heap_alloc_new x _, fun e => by have := h.al.rep.lt _ e; omega, fun e => by have := h.lst.lt e; omega, h.al.bel.size⟩
theorem R3.move (h : R3 w x p bm v S N iv l g s) (a : AL w y p bm v' S' N') (m : Mv x y p bm v v') : R3 w y p bm v' S' N' iv l g s :=
  ⟨h.r2.move a m, (m.chg.keep g h.lt h.ng).trans h.bx, fun e => by
    rcases m.loc g e with q | q
    · exact h.ng q
    · have := h.lt; omega, h.ni, h.og⟩
theorem R3.below (h : R3 w x p bm v S N iv l g s) (hb : Below x.heap.size x y) : R3 w y p bm v S N iv l g s := h.move (h.r2.al.below hb) (Mv.ofBelow hb)
theorem R3.app (h : R3 w x p bm v S N iv l g s) (hx : Below x.heap.size x z) (ha : App z y iv iv') (he : ERow y iv' l') : R3 w y p bm v S N iv' l' g s := by
  have h2 := h.below hx
  refine ⟨h.r2.app hx ha he, (ha.chg.keep g h2.lt h2.ni).trans h2.bx, h2.ng, fun e => ?_, h2.og⟩
  rcases ha.loc g e with q | q
  · exact h2.ni q
  · have := h2.lt; omega
theorem R3.sub (h : R3 w x p bm v S N iv l g s) (he : ERow x iv' l') (hs : ∀ g, iv'.ownBlock = some g → iv.ownBlock = some g) : R3 w x p bm v S N iv' l' g s := ⟨h.r2.sub he hs, h.bx, h.ng, fun e => h.ni (hs g e), h.og⟩
theorem R3.c (h : R3 w x p bm v S N iv l g s) : (x.cell? ⟨g, 0, none⟩ = some (.int .i64 s.kind) ∧ x.cell? ⟨g, 1, none⟩ = some (.int .i64 s.of)) ∧ (x.cell? ⟨g, 2, none⟩ = some (.int .i64 s.a) ∧ x.cell? ⟨g, 3, none⟩ = some (.int .i64 s.b)) ∧ x.frozen? ⟨g, 2, none⟩ = false ∧ x.frozen? ⟨g, 3, none⟩ = false :=
  ⟨⟨by rw [cell_of_row _ _ _ _ _ _ h.bx]; rfl, by rw [cell_of_row _ _ _ _ _ _ h.bx]; rfl⟩, ⟨by rw [cell_of_row _ _ _ _ _ _ h.bx]; rfl, by rw [cell_of_row _ _ _ _ _ _ h.bx]; rfl⟩, frozen_of_row _ _ _ _ 29 h.bx, frozen_of_row _ _ _ _ 29 h.bx⟩
theorem R3.set (h : R3 w x p bm v S N iv l g s) (i : Nat) (u : Value) (s' : OpV) (hs : s.row.setIfInBounds i u = s'.row) : R3 w (x.setCell ⟨g, i, none⟩ u) p bm v S N iv l g s' := by
  have kp : ∀ b, b ≠ g → (x.setCell ⟨g, i, none⟩ u).heap[b]? = x.heap[b]? := fun b hb => Go.heap_setCell_other _ _ _ _ hb
  have hbx := Go.heap_setCell_same x g i _ 29 u h.bx
  rw [hs] at hbx
  refine ⟨⟨⟨h.r2.al.rep.kept fun b e => kp b fun e2 => h.ng (e2 ▸ e), ?_, h.r2.al.own, h.r2.al.ok, h.r2.al.nw, h.r2.al.tot⟩, h.r2.lst.kept fun b e => kp b fun e2 => h.ni (e2 ▸ e), h.r2.own, h.r2.ap⟩, hbx, h.ng, h.ni, h.og⟩
  have hb := h.r2.al.bel
  have ho := h.og
  refine ⟨hb.os, hb.tape, hb.output, by rw [World.size_setCell]; exact hb.size, fun b hlt => (kp b (by omega)).trans (hb.block b hlt)⟩
theorem R3.more (h : R3 w x p bm v S N iv l g s) (hn : N ≤ N') : R3 w x p bm v S N' iv l g s := ⟨⟨h.r2.al.more hn, h.r2.lst, h.r2.own, h.r2.ap⟩, h.bx, h.ng, h.ni, h.og⟩
end
/-- the script's operation i, in a later world -/
theorem ops_at {w : World} {sa : Option Addr} {os : List OpV} (s3 : 0 < os.length → ∃ b off, sa = some ⟨b, off, none⟩ ∧ ∀ i (h : i < os.length), (w.cell? ⟨b, off + i * 4, none⟩ = some (.int .i64 os[i].kind) ∧ w.cell? ⟨b, off + i * 4 + 1, none⟩ = some (.int .i64 os[i].of)) ∧ w.cell? ⟨b, off + i * 4 + 2, none⟩ = some (.int .i64 os[i].a) ∧ w.cell? ⟨b, off + i * 4 + 3, none⟩ = some (.int .i64 os[i].b)) (hok : ∀ s ∈ os, s.ok) {i : Nat} (hi : i < os.length) :
    ∃ (b off : Nat) (s : OpV), sa = some ⟨b, off, none⟩ ∧ s.ok ∧ ∀ x, Below w.heap.size w x → (x.cell? ⟨b, off + i * 4, none⟩ = some (.int .i64 s.kind) ∧ x.cell? ⟨b, off + i * 4 + 1, none⟩ = some (.int .i64 s.of)) ∧ x.cell? ⟨b, off + i * 4 + 2, none⟩ = some (.int .i64 s.a) ∧ x.cell? ⟨b, off + i * 4 + 3, none⟩ = some (.int .i64 s.b) := by
  obtain ⟨b, off, e, hc⟩ := s3 (by omega)
  have hlt := World.block_lt_of_cell? w _ (hc i hi).1.1
  refine ⟨b, off, os[i], e, hok _ (List.getElem_mem hi), fun x hb => ?_⟩
  obtain ⟨⟨c0, c1⟩, c2, c3⟩ := hc i hi
  exact ⟨⟨(below_cell hb hlt _).trans c0, (below_cell hb hlt _).trans c1⟩, (below_cell hb hlt _).trans c2, (below_cell hb hlt _).trans c3⟩
end Go.Proofs.Ytcdmkbjibcahcaa
