import Derived.Test.YtcdmkbjibcahcabTHp
import Derived.Test.YtcdmkbjibcahcabTMade
import Derived.Test.YtcdmkbjibcahcabTOps
import Derived.Test.YtcdmkbjibcahcabRows
import Derived.Shelf.SortM.Plain
import Derived.Shelf.SortM.SortNone
import Derived.Ground.SlgmProg
import Derived.Shelf.SlGeneric
import Derived.Lib.OwnBridge
import Derived.Test.YtcdmkbjibcahcabTUm
import Derived.Maps.RangeWalk
import Derived.Test.YtcdmkbjibcahcabTMb
import Derived.Test.YtcdmkbjibcahcabTML
namespace Go.Proofs.Ytcdmkbjibcahcab
open Go.RowKit
set_option linter.unusedVariables false
set_option linter.unusedSimpArgs false
set_option maxRecDepth 20000

/-- how many writes of a list's first j have that epoch -/
def cntE (l : List En) (x : Int) : Nat := (l.map fun y => y.2.2).count x
theorem cntE_succ {l : List En} {j : Nat} {x : Int} (h : j < l.length) : cntE (l.take (j + 1)) x = cntE (l.take j) x + if (l.getD j e0).2.2 = x then 1 else 0 := by
  unfold cntE
  rw [List.take_add_one, List.map_append, List.count_append]
  have e : l[j]? = some (l.getD j e0) := by simp [List.getD, h]
  rw [e]
  simp only [Option.toList_some, List.map_cons, List.map_nil, List.count_singleton, beq_iff_eq]
theorem cntE_le (l : List En) (x : Int) : cntE l x ≤ l.length := by
  unfold cntE
  have := List.count_le_length (a := x) (l := l.map fun y => y.2.2)
  simpa using this
end Go.Proofs.Ytcdmkbjibcahcab
namespace Go.Proofs.Ytcdmkbjibcahcab
open Go.RowKit
set_option linter.unusedVariables false
set_option linter.unusedSimpArgs false

def OpV.row (s : OpV) : Array Value := #[.int .i64 s.kind, .int .i64 s.of, .int .i64 s.a, .int .i64 s.b]
/-- a log, a list of writes and an operation's box beside it -/
structure R3 (w x : World) (p bm : Nat) (v : Value) (S : LS) (N : Nat) (iv : Value) (l : List En) (g : Nat) (s : OpV) : Prop where
  r2 : R2 w x p bm v S N iv l
  bx : x.heap[g]? = some (.cells s.row 34 (0, 0))
  ng : ¬ LU p bm v g
  ni : iv.ownBlock ≠ some g
  og : w.heap.size ≤ g
section
variable {w x y z : World} {p bm : Nat} {v v' iv iv' : Value} {S S' : LS} {N N' : Nat} {l l' : List En} {g : Nat} {s : OpV}
theorem R3.lt (h : R3 w x p bm v S N iv l g s) : g < x.heap.size := (Array.getElem?_eq_some_iff.1 h.bx).1
theorem R3.start (h : R2 w x p bm v S N iv l) (s : OpV) : R3 w (x.alloc (.cells s.row 34)) p bm v S N iv l x.heap.size s :=
  ⟨h.below (below_alloc x _), Go.heap_alloc_new x _, fun e => by have := h.al.rep.lt _ e; omega, fun e => by have := h.lst.lt e; omega, h.al.bel.size⟩
theorem R3.move (h : R3 w x p bm v S N iv l g s) (a : AL w y p bm v' S' N') (m : Mv x y p bm v v') : R3 w y p bm v' S' N' iv l g s :=
  ⟨h.r2.move a m, (m.chg.keep g h.lt h.ng).trans h.bx, fun e => by
    rcases m.loc g e with q | q
    · exact h.ng q
    · have := h.lt; omega, h.ni, h.og⟩
theorem R3.below (h : R3 w x p bm v S N iv l g s) (hb : Below x.heap.size x y) : R3 w y p bm v S N iv l g s := h.move (h.r2.al.below hb) (Mv.ofBelow hb)
theorem R3.app (h : R3 w x p bm v S N iv l g s) (hx : Below x.heap.size x z) (ha : App z y iv iv') (he : ERow y iv' l') : R3 w y p bm v S N iv' l' g s := by
  have h2 := h.below hx
  refine ⟨h.r2.app hx ha he, (ha.chg.keep g h2.lt h2.ni).trans h2.bx, h2.ng, fun e => ?_, h2.og⟩
  rcases ha.loc g e with q | q
  · exact h2.ni q
  · have := h2.lt; omega
theorem R3.sub (h : R3 w x p bm v S N iv l g s) (he : ERow x iv' l') (hs : ∀ g, iv'.ownBlock = some g → iv.ownBlock = some g) : R3 w x p bm v S N iv' l' g s := ⟨h.r2.sub he hs, h.bx, h.ng, fun e => h.ni (hs g e), h.og⟩
theorem R3.c (h : R3 w x p bm v S N iv l g s) : (x.cell? ⟨g, 0, none⟩ = some (.int .i64 s.kind) ∧ x.cell? ⟨g, 1, none⟩ = some (.int .i64 s.of)) ∧ (x.cell? ⟨g, 2, none⟩ = some (.int .i64 s.a) ∧ x.cell? ⟨g, 3, none⟩ = some (.int .i64 s.b)) ∧ x.frozen? ⟨g, 2, none⟩ = false ∧ x.frozen? ⟨g, 3, none⟩ = false :=
  ⟨⟨by rw [cell_of_row _ _ _ _ _ _ h.bx]; rfl, by rw [cell_of_row _ _ _ _ _ _ h.bx]; rfl⟩, ⟨by rw [cell_of_row _ _ _ _ _ _ h.bx]; rfl, by rw [cell_of_row _ _ _ _ _ _ h.bx]; rfl⟩, frozen_of_row _ _ _ _ 34 h.bx, frozen_of_row _ _ _ _ 34 h.bx⟩
theorem R3.set (h : R3 w x p bm v S N iv l g s) (i : Nat) (u : Value) (s' : OpV) (hs : s.row.setIfInBounds i u = s'.row) : R3 w (x.setCell ⟨g, i, none⟩ u) p bm v S N iv l g s' := by
  have kp : ∀ b, b ≠ g → (x.setCell ⟨g, i, none⟩ u).heap[b]? = x.heap[b]? := fun b hb => Go.heap_setCell_other _ _ _ _ hb
  have hbx := Go.heap_setCell_same x g i _ 34 u h.bx
  rw [hs] at hbx
  refine ⟨⟨⟨h.r2.al.rep.kept fun b e => kp b fun e2 => h.ng (e2 ▸ e), ?_, h.r2.al.own, h.r2.al.ok, h.r2.al.nw, h.r2.al.tot⟩, h.r2.lst.kept fun b e => kp b fun e2 => h.ni (e2 ▸ e), h.r2.own, h.r2.ap⟩, hbx, h.ng, h.ni, h.og⟩
  have hb := h.r2.al.bel
  have ho := h.og
  refine ⟨hb.os, hb.tape, hb.output, by rw [World.size_setCell]; exact hb.size, fun b hlt => (kp b (by omega)).trans (hb.block b hlt)⟩
theorem R3.more (h : R3 w x p bm v S N iv l g s) (hn : N ≤ N') : R3 w x p bm v S N' iv l g s := ⟨⟨h.r2.al.more hn, h.r2.lst, h.r2.own, h.r2.ap⟩, h.bx, h.ng, h.ni, h.og⟩
end
/-- the script's operation i, in a later world -/
theorem ops_at {w : World} {sa : Option Addr} {os : List OpV} (s3 : 0 < os.length → ∃ b off, sa = some ⟨b, off, none⟩ ∧ ∀ i (h : i < os.length), (w.cell? ⟨b, off + i * 4, none⟩ = some (.int .i64 os[i].kind) ∧ w.cell? ⟨b, off + i * 4 + 1, none⟩ = some (.int .i64 os[i].of)) ∧ w.cell? ⟨b, off + i * 4 + 2, none⟩ = some (.int .i64 os[i].a) ∧ w.cell? ⟨b, off + i * 4 + 3, none⟩ = some (.int .i64 os[i].b)) (hok : ∀ s ∈ os, s.ok) {i : Nat} (hi : i < os.length) :
    ∃ (b off : Nat) (s : OpV), sa = some ⟨b, off, none⟩ ∧ s.ok ∧ ∀ x, Below w.heap.size w x → (x.cell? ⟨b, off + i * 4, none⟩ = some (.int .i64 s.kind) ∧ x.cell? ⟨b, off + i * 4 + 1, none⟩ = some (.int .i64 s.of)) ∧ x.cell? ⟨b, off + i * 4 + 2, none⟩ = some (.int .i64 s.a) ∧ x.cell? ⟨b, off + i * 4 + 3, none⟩ = some (.int .i64 s.b) := by
  obtain ⟨b, off, e, hc⟩ := s3 (by omega)
  have hlt := World.block_lt_of_cell? w _ (hc i hi).1.1
  refine ⟨b, off, os[i], e, hok _ (List.getElem_mem hi), fun x hb => ?_⟩
  obtain ⟨⟨c0, c1⟩, c2, c3⟩ := hc i hi
  exact ⟨⟨(below_cell hb hlt _).trans c0, (below_cell hb hlt _).trans c1⟩, (below_cell hb hlt _).trans c2, (below_cell hb hlt _).trans c3⟩
end Go.Proofs.Ytcdmkbjibcahcab
namespace Go.Proofs.Ytcdmkbjibcahcab
open Go.RowKit
set_option linter.unusedVariables false
set_option linter.unusedSimpArgs false
set_option maxRecDepth 20000

/-- the writes as the law books them: their ids alone -/
def idl (S : LS) : List En := (ids S.ls).map fun i => (i, 0, 0)
theorem idl_len (S : LS) : (idl S).length = S.es.length := by simp [idl, ids, LS.es]
theorem idl_add (S : LS) (oa ob : Int) : idl (addS S oa ob) = idl S ++ [(oa, 0, 0)] := by simp [idl, ids, addS]
theorem idl_leave (S : LS) (k : Nat) : idl (leaveS S k) = (idl S).drop k := by simp [idl, ids, leaveS]
theorem idl_close (S : LS) : idl (closeS S) = idl S := by unfold idl; rw [closeS_ls]
theorem idl_fail (S : LS) : idl (failS S) = [] := by unfold idl; rw [failS_ls]; rfl
theorem fail_join {S : LS} : joinN (failS S) = 0 := by unfold joinN; rw [failS_es]; rfl
/-- is a write with this id in the list? -/
def hasB (l : List En) (o : Int) : Bool := l.any fun x => x.1 == o
theorem hasB_idl (S : LS) (o : Int) : hasB (idl S) o = decide (o ∈ ids S.ls) := by
  rw [Bool.eq_iff_iff]
  simp [hasB, idl]
end Go.Proofs.Ytcdmkbjibcahcab
namespace Go.Proofs.Ytcdmkbjibcahcab
open Go.RowKit
set_option linter.unusedVariables false
set_option linter.unusedSimpArgs false
set_option maxRecDepth 20000

/-- a list of numbers, the law's own -/
def IRow (w : World) (v : Value) (l : List Int) : Prop := w.ownsRow 0 3 1 v l.length (l.map fun z => Value.int .i64 z)
theorem IRow.kept {w w' : World} {v : Value} {l : List Int} (h : IRow w v l) (hk : ∀ g, v.ownBlock = some g → w'.heap[g]? = w.heap[g]?) : IRow w' v l := rowKept h hk
theorem IRow.lt {w : World} {v : Value} {l : List Int} (h : IRow w v l) {g : Nat} (hg : v.ownBlock = some g) : g < w.heap.size := (World.ownsRow.lt h g hg).2
theorem IRow.cell {w : World} {v : Value} {l : List Int} (h : IRow w v l) {j : Nat} (hj : j < l.length) : ∃ g cap, v = .slice (some ⟨g, 0, none⟩) l.length cap ∧ l.length ≤ cap ∧ cap ≤ maxLen ∧ w.cell? ⟨g, j, none⟩ = some (.int .i64 (l.getD j 0)) := by
  have h' : w.ownsRow 0 3 1 v l.length (l.map fun z => Value.int .i64 z) := h
  have h2 := h'
  rcases h'.2 with ⟨_, e⟩ | ⟨g, cap, cur, rfl, _, hg, q1, q2, _⟩
  · omega
  · refine ⟨g, cap, rfl, q1, q2, ?_⟩
    rw [h2.cellAt j (by simpa using hj)]
    simp [List.getD, hj]
theorem IRow.form {w : World} {v : Value} {l : List Int} (h : IRow w v l) : ∃ a cap, v = .slice a l.length cap ∧ l.length ≤ cap ∧ cap ≤ maxLen := rowForm h
theorem Try.infoIn : (Try.prog.info? 3).map (fun i => (i.zero, i.size, i.bytes)) = some (some (.int .i64 0), 1, 8) := by kernel_rfl
theorem infoI : ∃ i, Try.prog.info? 3 = some i ∧ i.zero = some (.int .i64 0) ∧ i.size = 1 ∧ i.bytes = 8 := by
  have h := Try.infoIn
  cases hi : Try.prog.info? 3 with
  | none => rw [hi] at h; simp at h
  | some i => rw [hi] at h; simp at h; exact ⟨i, rfl, h.1, h.2.1, h.2.2⟩
/-- a log and a list of numbers beside it -/
structure RS (w x : World) (p bm : Nat) (v : Value) (S : LS) (N : Nat) (sv : Value) (l : List Int) : Prop where
  al : AL w x p bm v S N
  lst : IRow x sv l
  own : ∀ g, sv.ownBlock = some g → w.heap.size ≤ g
  ap : ∀ g, sv.ownBlock = some g → ¬ LU p bm v g
section
variable {w x y z : World} {p bm : Nat} {v v' sv sv' : Value} {S S' : LS} {N N' : Nat} {l l' : List Int}
theorem RS.move (h : RS w x p bm v S N sv l) (a : AL w y p bm v' S' N') (m : Mv x y p bm v v') : RS w y p bm v' S' N' sv l :=
  ⟨a, h.lst.kept fun g e => m.chg.keep g (h.lst.lt e) (h.ap g e), h.own, fun g e hu => by
    rcases m.loc g hu with q | q
    · exact h.ap g e q
    · have := h.lst.lt e; omega⟩
theorem RS.below (h : RS w x p bm v S N sv l) (hb : Below x.heap.size x y) : RS w y p bm v S N sv l := h.move (h.al.below hb) (Mv.ofBelow hb)
theorem RS.more (h : RS w x p bm v S N sv l) (hn : N ≤ N') : RS w x p bm v S N' sv l := ⟨h.al.more hn, h.lst, h.own, h.ap⟩
theorem RS.app (h : RS w x p bm v S N sv l) (hx : Below x.heap.size x z) (hu : Upon z y sv sv') (he : IRow y sv' l') : RS w y p bm v S N sv' l' := by
  have h2 := h.below hx
  have hlt := h2.al.rep.lt
  have hc : Chg (fun g => sv.ownBlock = some g) z y := ⟨hu.same.1, hu.same.2.1, hu.same.2.2, hu.size, fun g hg hn => hu.block g hg hn⟩
  refine ⟨⟨h2.al.rep.kept fun g e => hc.keep g (hlt g e) fun q => h2.ap g q e, h2.al.bel.trans (hc.below h2.al.bel.size h2.own), h2.al.own, h2.al.ok, h2.al.nw, h2.al.tot⟩, he, fun g e => ?_, fun g e q => ?_⟩
  · rcases hu.loc g e with q | q
    · exact h2.own g q
    · rw [q]; exact h2.al.bel.size
  · rcases hu.loc g e with q2 | q2
    · exact h2.ap g q2 q
    · have := hlt g q; omega
theorem RS.one (h : AL w x p bm v S N) : RS w (x.alloc (.cells #[.int .i64 0] 3)) p bm v S N (.slice (some ⟨x.heap.size, 0, none⟩) 1 1) [0] := by
  refine ⟨h.below (below_alloc x _), ⟨rfl, .inr ⟨x.heap.size, 1, #[.int .i64 0], rfl, Nat.zero_le _, Go.heap_alloc_new x _, Nat.le_refl _, by unfold maxLen; omega, rfl, rfl⟩⟩, fun g e => ?_, fun g e q => ?_⟩
  · simp [Value.ownBlock] at e; rw [← e]; exact h.bel.size
  · simp [Value.ownBlock] at e; have := h.rep.lt g q; omega
end
/-- the law's book: which epochs have left, which are closed, how many writes each had -/
structure Sz (S : LS) (lf sh : Nat) (sz : List Int) : Prop where
  nw : S.now = sh + 1
  old : oldE S = (lf : Int) + 1
  len : sz.length = sh + 1
  le : lf ≤ sh
  cnt : ∀ e : Nat, lf < e → e ≤ sh → sz.getD e 0 = (S.eps.count (e : Int) : Int)
theorem Sz.new (lim ep : Nat) : Sz (newS lim ep) 0 0 [0] := ⟨rfl, rfl, rfl, Nat.le_refl _, fun e h1 h2 => by omega⟩
theorem Sz.fail (S : LS) : Sz (failS S) 0 0 [0] := ⟨rfl, by rw [old_nil (failS_es S)]; rfl, rfl, Nat.le_refl _, fun e h1 h2 => by omega⟩
theorem Sz.add {S : LS} {lf sh : Nat} {sz : List Int} (h : Sz S lf sh sz) (oa ob : Int) (ho : oldE (addS S oa ob) = oldE S) : Sz (addS S oa ob) lf sh sz :=
  ⟨h.nw, by rw [ho]; exact h.old, h.len, h.le, fun e h1 h2 => by
    have hz : List.count (e : Int) [((sh + 1 : Nat) : Int)] = 0 := List.count_eq_zero.2 (by simp; omega)
    rw [addS_eps, List.count_append, h.cnt e h1 h2, h.nw, hz]
    simp⟩
theorem Sz.close {S : LS} {lf sh : Nat} {sz : List Int} (h : Sz S lf sh sz) (ok : S.Ok) (hj : joinN S ≠ 0) : Sz (closeS S) lf (sh + 1) (sz ++ [(joinN S : Int)]) := by
  have he : (closeS S).eps = S.eps := by unfold LS.eps; rw [closeS_es]
  refine ⟨by rw [closeS_now, if_neg hj, h.nw], by rw [closeS_old ok]; exact h.old, by simp [h.len], Nat.le_succ_of_le h.le, fun e h1 h2 => ?_⟩
  rw [he]
  by_cases hs : e = sh + 1
  · subst hs
    rw [joinN_eq ok, h.nw]
    simp [List.getD, h.len]
  · rw [← h.cnt e h1 (by omega)]
    have : e < sz.length := by rw [h.len]; omega
    simp [List.getD, this, List.getElem?_append_left this]
theorem Sz.leave {S : LS} {lf sh : Nat} {sz : List Int} (h : Sz S lf sh sz) (ok : S.Ok) (hl : lf < sh) : Sz (leaveS S (frontN S)) (lf + 1) sh sz := by
  have hn : oldE S ≠ (S.now : Int) := by rw [h.old, h.nw]; omega
  refine ⟨h.nw, by rw [leave_old ok hn, h.old]; omega, h.len, hl, fun e h1 h2 => ?_⟩
  rw [leave_eps, count_dropWhile, h.cnt e (by omega) h2]
  rw [← oldE_eq, h.old]
  omega
theorem Sz.bar {S : LS} {lf sh : Nat} {sz : List Int} (h : Sz S lf sh sz) (ok : S.Ok) (hl : lf < sh) : barB S ((lf : Int) + 1) (sz.getD (lf + 1) 0) = true := by
  have hn : oldE S ≠ (S.now : Int) := by rw [h.old, h.nw]; omega
  have hne : S.es ≠ [] := fun e => hn (old_nil e)
  refine barB_mk hn h.old.symm ?_
  rw [h.cnt (lf + 1) (by omega) hl, front_count ok hne, h.old]
  rfl
/-- what the asks say -/
theorem Sz.nil {S : LS} {lf sh : Nat} {sz : List Int} (h : Sz S lf sh sz) (ok : S.Ok) : S.es = [] ↔ lf = sh ∧ joinN S = 0 := by
  constructor
  · intro e
    have h1 := old_nil e
    rw [h.old, h.nw] at h1
    exact ⟨by omega, by unfold joinN; rw [e]; rfl⟩
  · rintro ⟨e1, e2⟩
    apply Classical.byContradiction
    intro hne
    have ho : oldE S = (S.now : Int) := by rw [h.old, h.nw, e1]; omega
    have hp := front_pos hne
    rw [front_count ok hne, ho, ← joinN_eq ok] at hp
    omega
theorem Sz.settled {S : LS} {lf sh : Nat} {sz : List Int} (h : Sz S lf sh sz) (ok : S.Ok) (z : Int) : (decide (S.es.length = 0) || decide (z < (S.es.getD 0 e0).2.2)) = ((decide (lf = sh) && decide (joinN S = 0)) || decide (z < (lf : Int) + 1 ∧ ¬ (lf = sh ∧ joinN S = 0))) := by
  by_cases hn : S.es = []
  · have := (h.nil ok).1 hn
    rw [hn]
    simp [this]
  · have h2 : ¬ (lf = sh ∧ joinN S = 0) := fun e => hn ((h.nil ok).2 e)
    have h3 : S.es.length ≠ 0 := fun e => hn (List.length_eq_zero_iff.1 e)
    rw [← old_cons hn, h.old, decide_eq_false h3, ← Bool.decide_and, decide_eq_false h2]
    simp only [Bool.false_or, h2, not_false_eq_true, and_true]
end Go.Proofs.Ytcdmkbjibcahcab
namespace Go.Proofs
open Go.Shelf
def Try.sortA_ren : Go.Shelf.Ren := ⟨fun | 5 => 35 | 8 => 45 | 7 => 44 | 19 => 55 | 20 => 56 | 10 => 46 | 11 => 47 | 12 => 48 | 13 => 49 | 14 => 50 | 15 => 51 | 16 => 52 | 17 => 53 | 18 => 54 | 30 => 57 | 31 => 58 | 32 => 59 | 33 => 60 | 34 => 61 | 35 => 62 | 40 => 63 | n => n, fun | 23 => 70 | 25 => 3 | 3 => 3 | 32 => 81 | 22 => 70 | 0 => 0 | 44 => 92 | 46 => 94 | 4 => 4 | 36 => 84 | 35 => 83 | 41 => 89 | 5 => 5 | 9 => 9 | 53 => 95 | 57 => 99 | 63 => 101 | 64 => 102 | n => n, fun | n => n⟩
theorem Try.sortA : Go.Proofs.SlLaysM.n5 Try.prog Try.sortA_ren := {
  mixed := by kernel_rfl
  f5 := ⟨Try.f35.name, by decide, Try.func35.trans (congrArg some (by kernel_rfl))⟩
  f7 := ⟨Try.f44.name, by decide, Try.func44.trans (congrArg some (by kernel_rfl))⟩
  f8 := Try.func45.trans (congrArg some (by kernel_rfl))
  f10 := ⟨Try.f46.name, by decide, Try.func46.trans (congrArg some (by kernel_rfl))⟩
  f11 := ⟨Try.f47.name, by decide, Try.func47.trans (congrArg some (by kernel_rfl))⟩
  f12 := ⟨Try.f48.name, by decide, Try.func48.trans (congrArg some (by kernel_rfl))⟩
  f13 := ⟨Try.f49.name, by decide, Try.func49.trans (congrArg some (by kernel_rfl))⟩
  f14 := ⟨Try.f50.name, by decide, Try.func50.trans (congrArg some (by kernel_rfl))⟩
  f15 := ⟨Try.f51.name, by decide, Try.func51.trans (congrArg some (by kernel_rfl))⟩
  f16 := ⟨Try.f52.name, by decide, Try.func52.trans (congrArg some (by kernel_rfl))⟩
  f17 := ⟨Try.f53.name, by decide, Try.func53.trans (congrArg some (by kernel_rfl))⟩
  f18 := ⟨Try.f54.name, by decide, Try.func54.trans (congrArg some (by kernel_rfl))⟩
  f19 := Try.func55.trans (congrArg some (by kernel_rfl))
  f20 := Try.func56.trans (congrArg some (by kernel_rfl))
  f30 := ⟨Try.f57.name, by decide, Try.func57.trans (congrArg some (by kernel_rfl))⟩
  f31 := Try.func58.trans (congrArg some (by kernel_rfl))
  f32 := Try.func59.trans (congrArg some (by kernel_rfl))
  f33 := ⟨Try.f60.name, by decide, Try.func60.trans (congrArg some (by kernel_rfl))⟩
  f34 := ⟨Try.f61.name, by decide, Try.func61.trans (congrArg some (by kernel_rfl))⟩
  f35 := ⟨Try.f62.name, by decide, Try.func62.trans (congrArg some (by kernel_rfl))⟩
  f40 := ⟨Try.f63.name, by decide, Try.func63.trans (congrArg some (by kernel_rfl))⟩
  t0 := Try.underlying0
  a0 := Try.isAgg0
  z0 := Try.sizeOf0
  v0 := Try.zeroValue0
  t3 := Try.underlying3
  a3 := Try.isAgg3
  z3 := Try.sizeOf3
  v3 := Try.zeroValue3
  t4 := Try.underlying4
  a4 := Try.isAgg4
  z4 := Try.sizeOf4
  v4 := Try.zeroValue4
  t5 := Try.underlying5
  a5 := Try.isAgg5
  z5 := Try.sizeOf5
  v5 := Try.zeroValue5
  t9 := Try.underlying9
  a9 := Try.isAgg9
  z9 := Try.sizeOf9
  v9 := Try.zeroValue9
  t22 := Try.underlying70
  a22 := Try.isAgg70
  z22 := Try.sizeOf70
  v22 := Try.zeroValue70
  t23 := Try.underlying70
  a23 := Try.isAgg70
  z23 := Try.sizeOf70
  v23 := Try.zeroValue70
  t25 := Try.underlying3
  a25 := Try.isAgg3
  z25 := Try.sizeOf3
  v25 := Try.zeroValue3
  t32 := Try.underlying81
  a32 := Try.isAgg81
  z32 := Try.sizeOf81
  v32 := Try.zeroValue81
  t35 := Try.underlying83
  a35 := Try.isAgg83
  z35 := Try.sizeOf83
  v35 := Try.zeroValue83
  t36 := Try.underlying84
  a36 := Try.isAgg84
  z36 := Try.sizeOf84
  v36 := Try.zeroValue84
  t41 := Try.underlying89
  a41 := Try.isAgg89
  z41 := Try.sizeOf89
  v41 := Try.zeroValue89
  t44 := Try.underlying92
  a44 := Try.isAgg92
  z44 := Try.sizeOf92
  v44 := Try.zeroValue92
  t46 := Try.underlying94
  a46 := Try.isAgg94
  z46 := Try.sizeOf94
  v46 := Try.zeroValue94
  t53 := Try.underlying95
  a53 := Try.isAgg95
  z53 := Try.sizeOf95
  v53 := Try.zeroValue95
  t57 := Try.underlying99
  a57 := Try.isAgg99
  z57 := Try.sizeOf99
  v57 := Try.zeroValue99
  t63 := Try.underlying101
  a63 := Try.isAgg101
  z63 := Try.sizeOf101
  v63 := Try.zeroValue101
  t64 := Try.underlying102
  a64 := Try.isAgg102
  z64 := Try.sizeOf102
  v64 := Try.zeroValue102 }
end Go.Proofs
namespace Go.Proofs.Ytcdmkbjibcahcab
open Go.RowKit Go.Maps Go.Sort Go.Shelf
set_option linter.unusedVariables false
set_option linter.unusedSimpArgs false
set_option maxRecDepth 20000

theorem sort_any (w : World) (v : Value) (T : List Int) (h : IRow w v T) (hl : T.length ≤ 5000) : Calls Try.prog 35 #[v] w fun e w' => e = .returned (.tuple #[]) ∧ IRow w' v (T.mergeSort fun x y => decide (x ≤ y)) ∧ Chg (fun g => v.ownBlock = some g) w w' := by
  have h' : w.ownsRow 0 3 1 v T.length (T.map fun z => Value.int .i64 z) := h
  by_cases hv : v = .slice none 0 0
  · subst hv
    have e0 : T = [] := by
      have := h'.2
      rcases this with ⟨_, e⟩ | ⟨g, cap, cur, e, _⟩
      · exact List.length_eq_zero_iff.1 e
      · cases e
    subst e0
    refine (AnyM.slices_Sort_int_none Try.sortA none 0 w).mono ?_
    rintro e w' ⟨rfl, rfl⟩
    exact ⟨rfl, by rw [List.mergeSort_nil]; exact h, Chg.refl _ _⟩
  · obtain ⟨g, cap, rfl, -, hlt, hn, hm, -, hH⟩ := Lib.holds_of_ownsRow h' hv
    refine (AnyM.slices_Sort_int Try.sortA g 0 cap T w hH hlt (by omega)).mono ?_
    rintro e w' ⟨rfl, n, os, rfl⟩
    have hp := Lib.ownsRow_putRow (q := n) (k := T.length) (ys := T.mergeSort fun x y => decide (x ≤ y)) h' (by simp) (Nat.le_refl _)
    rw [List.take_of_length_le (by simp)] at hp
    have hsz : (putRow (Value.int .i64) (Sort.ahead w n) g 0 (T.mergeSort fun x y => decide (x ≤ y)).toArray).heap.size = w.heap.size := by simp [putRow, mapBlock, Sort.ahead]
    have hgr : ∀ (b : Nat), b < w.heap.size → (grow (putRow (Value.int .i64) (Sort.ahead w n) g 0 (T.mergeSort fun x y => decide (x ≤ y)).toArray) os).heap[b]? = (putRow (Value.int .i64) (Sort.ahead w n) g 0 (T.mergeSort fun x y => decide (x ≤ y)).toArray).heap[b]? := fun b hb => by
      show (_ ++ os)[b]? = _
      rw [Array.getElem?_append_left (by rw [hsz]; exact hb)]
    refine ⟨rfl, ?_, ⟨rfl, rfl, rfl, ?_, fun b hb hne => ?_⟩⟩
    · have hi : IRow (putRow (Value.int .i64) (Sort.ahead w n) g 0 (T.mergeSort fun x y => decide (x ≤ y)).toArray) (.slice (some ⟨g, 0, none⟩) T.length cap) (T.mergeSort fun x y => decide (x ≤ y)) := by
        unfold IRow
        rw [List.length_mergeSort]
        exact hp
      refine hi.kept fun b eb => hgr b ?_
      simp [Value.ownBlock] at eb
      omega
    · show w.heap.size ≤ (_ ++ os).size
      rw [Array.size_append, hsz]
      omega
    · rw [hgr b hb]
      have : g ≠ b := fun e => hne (by simp [Value.ownBlock, e])
      simp [putRow, mapBlock, Sort.ahead, Array.getElem?_modify, this]
end Go.Proofs.Ytcdmkbjibcahcab
namespace Go.Proofs.Ytcdmkbjibcahcab
open Go.RowKit
set_option linter.unusedVariables false
set_option linter.unusedSimpArgs false
set_option maxRecDepth 20000

/-- the map is gone through: what has come lies in a list of the call's own -/
structure UI (w wr : World) (bm n : Nat) (D : DataW Unit) (gone : Nat) (ls : Ls) (left : Lit → Bool) (cnt : Nat) (T : List Int) (tv : Value) : Prop where
  rg : wr.ranges Try.prog 3 stR bm w.heap.size n D left cnt
  ti : TI gone ls left T
  row : IRow wr tv T
  own : ∀ g, tv.ownBlock = some g → w.heap.size < g
  sub : ∀ kl, left kl = true → Maps.has D kl = true
  bel : Below w.heap.size w wr
  lt : bm < w.heap.size
theorem IRow.nil (w : World) : IRow w (.slice none 0 0) [] := ⟨rfl, .inl ⟨rfl, rfl⟩⟩
theorem IRow.below {w w' : World} {v : Value} {l : List Int} (h : IRow w v l) (hb : Below w.heap.size w w') : IRow w' v l := h.kept fun g e => hb.block g (h.lt e)
theorem below_grown {w x y : World} {row : Option Nat} (h : Below w.heap.size w x) (hg : x.grownBy y row) (hr : ∀ g, row = some g → w.heap.size ≤ g) : Below w.heap.size w y :=
  ⟨hg.os.trans h.os, hg.tape.trans h.tape, hg.output.trans h.output, Nat.le_trans h.size hg.size, fun b hb => (hg.block b (Nat.lt_of_lt_of_le hb h.size) (fun e => by have := hr b e.symm; omega)).trans (h.block b hb)⟩
section
variable {w wr y : World} {bm n gone cnt cnt' : Nat} {D : DataW Unit} {ls : Ls} {left left' : Lit → Bool} {T T' : List Int} {tv tv' : Value}
theorem UI.start {w0 : World} (h1 : ∀ (i : Nat) (x : En × Bool), ls[i]? = some x → Maps.has D (kL x.1.1) = true ∧ ∀ z, D.atKey (kL x.1.1) z = stD ((gone + i : Nat) : Int) x.2) (hrg : w0.ranges Try.prog 3 stR bm w.heap.size n D (Maps.has D) (Maps.size D)) (hg : w.grownBy w0 none) (hlt : bm < w.heap.size) : UI w w0 bm n D gone ls (Maps.has D) (Maps.size D) [] (.slice none 0 0) :=
  ⟨hrg, TI.start h1, IRow.nil _, fun g e => by simp [Value.ownBlock] at e, fun _ h => h, below_grown (Below.refl _ _) hg (fun g e => by cases e), hlt⟩
theorem UI.next {w1 : World} (h : UI w wr bm n D gone ls left cnt T tv) (hd : (ids ls).Nodup) (hrg : w1.ranges Try.prog 3 stR bm w.heap.size n D left' cnt') (hg : wr.grownBy w1 (some w.heap.size)) {x : En} {a : Bool} {i : Nat} (hx : ls[i]? = some (x, a)) (hl : left (kL x.1) = true) (hle : left' = fun z => left z && !z.sameKey (kL x.1)) :
    w1.ranges Try.prog 3 stR bm w.heap.size n D left' cnt' ∧ TI gone ls left' (if a then T else T ++ [((gone + i : Nat) : Int)]) ∧ IRow w1 tv T ∧ (∀ g, tv.ownBlock = some g → w.heap.size < g) ∧ (∀ kl, left' kl = true → Maps.has D kl = true) ∧ Below w.heap.size w w1 := by
  subst hle
  refine ⟨hrg, h.ti.step hd hx hl, h.row.kept fun g e => ?_, h.own, fun kl hk => h.sub kl ?_, below_grown h.bel hg (fun g e => by simp at e; omega)⟩
  · have := h.own g e
    exact hg.block g (h.row.lt e) (fun e2 => by simp at e2; omega)
  · simp at hk; exact hk.1
/-- an allocation beside it -/
theorem UI.below (h : UI w wr bm n D gone ls left cnt T tv) (hb : Below wr.heap.size wr y) : UI w y bm n D gone ls left cnt T tv := by
  have hg : wr.grownBy y none := ⟨hb.os, hb.tape, hb.output, hb.size, fun b hlt _ => hb.block b hlt⟩
  exact ⟨h.rg.kept hg (by simp) (by simp), h.ti, h.row.kept fun g e => hb.block g (h.row.lt e), h.own, h.sub, h.bel.trans (hb.mono h.bel.size), h.lt⟩
theorem UI.more {w1 : World} {x : Int} {c : Int × Bool} {kl : Lit} {yy : DataW Unit × List MemPlace} (h : UI w wr bm n D gone ls left cnt T tv) (hd : (ids ls).Nodup) (h1 : ∀ (i : Nat) (x : En × Bool), ls[i]? = some x → Maps.has D (kL x.1.1) = true ∧ ∀ z, D.atKey (kL x.1.1) z = stD ((gone + i : Nat) : Int) x.2) (h2 : ∀ key, key ∉ ls.map (fun x => x.1.1) → Maps.has D (kL key) = false)
    (hk : keyOf Try.prog 3 (.int .i64 x) = some kl) (hlk : left kl = true) (hv : stR (stV c.1 c.2) = some yy) (hat : ∀ zd, D.atKey kl zd = yy.1) (hrg : w1.ranges Try.prog 3 stR bm w.heap.size n D (fun z => left z && !z.sameKey kl) cnt') (hg : wr.grownBy w1 (some w.heap.size)) :
    (c.2 = true → ∃ left', UI w w1 bm n D gone ls left' cnt' T tv) ∧ (c.2 = false → IRow w1 tv T ∧ ∃ left', ∀ z y tv', Below w1.heap.size w1 z → Upon z y tv tv' → IRow y tv' (T ++ [c.1]) → UI w y bm n D gone ls left' cnt' (T ++ [c.1]) tv') := by
  obtain ⟨t, a⟩ := c
  obtain ⟨x', ex, rfl, hwx⟩ := Maps.keyOf_int_inv Try.underlying3 hk
  cases ex
  rw [stR_mk] at hv
  obtain rfl := Option.some.inj hv
  obtain ⟨i, e, hx, he, rfl⟩ := TI.find h1 h2 (h.sub _ hlk) hat
  subst he
  obtain ⟨q1, q2, q3, q4, q5, q6⟩ := h.next hd hrg hg hx hlk rfl
  refine ⟨fun ea => ?_, fun ea => ⟨q3, (fun z => left z && !z.sameKey (kL e.1)), fun z y tv' hb hu hr => ?_⟩⟩
  · simp only at ea
    subst ea
    exact ⟨_, q1, q2, q3, q4, q5, q6, h.lt⟩
  · simp only at ea
    subst ea
    have hlt := q1.lt
    have hz : w.heap.size < z.heap.size := Nat.lt_of_lt_of_le hlt hb.size
    have hg1 : w1.grownBy z none := ⟨hb.os, hb.tape, hb.output, hb.size, fun b hlt _ => hb.block b hlt⟩
    have hg2 : z.grownBy y tv.ownBlock := ⟨hu.same.1, hu.same.2.1, hu.same.2.2, hu.size, fun b hb hn => hu.block b hb (fun e => hn e.symm)⟩
    refine ⟨(q1.kept hg1 (by simp) (by simp)).kept hg2 ?_ (fun e => ?_), q2, hr, fun g e => ?_, q5, below_grown (below_grown q6 hg1 (fun g e => by cases e)) hg2 (fun g e => Nat.le_of_lt (q4 g e)), h.lt⟩
    · exact fun e => by have := q4 _ e.symm; have := h.lt; omega
    · have := q4 _ e.symm; omega
    · rcases hu.loc g e with q | q
      · exact q4 g q
      · omega
end
/-- the turns in order, and what is told so far -/
structure UT (w wr : World) (gone : Nat) (ls : Ls) (tv lv : Value) (j : Nat) : Prop where
  row : IRow wr tv (tnsL gone ls)
  to : ERow wr lv ((una ls).take j)
  own : ∀ g, lv.ownBlock = some g → w.heap.size ≤ g
  ap : ∀ g, lv.ownBlock = some g → tv.ownBlock ≠ some g
  bel : Below w.heap.size w wr
theorem UT.start {w wr y : World} {bm n gone cnt : Nat} {D : DataW Unit} {ls : Ls} {left : Lit → Bool} {T : List Int} {tv : Value} (h : UI w wr bm n D gone ls left cnt T tv) (h1 : IRow y tv (tnsL gone ls)) (h2 : Chg (fun g => tv.ownBlock = some g) wr y) : UT w y gone ls tv (.slice none 0 0) 0 :=
  ⟨h1, ERow.nil _, fun g e => by simp [Value.ownBlock] at e, fun g e => by simp [Value.ownBlock] at e, h.bel.trans (h2.below h.bel.size fun g e => Nat.le_of_lt (h.own g e))⟩
theorem UT.below {w wr y : World} {gone j : Nat} {ls : Ls} {tv lv : Value} (h : UT w wr gone ls tv lv j) (hb : Below wr.heap.size wr y) : UT w y gone ls tv lv j :=
  ⟨h.row.below hb, h.to.below hb, h.own, h.ap, h.bel.trans (hb.mono h.bel.size)⟩
theorem UT.app {w wr z y : World} {gone j : Nat} {ls : Ls} {tv lv lv' : Value} (h : UT w wr gone ls tv lv j) (hb : Below wr.heap.size wr z) (ha : App z y lv lv') (he : ERow y lv' ((una ls).take (j + 1))) : UT w y gone ls tv lv' (j + 1) := by
  have h2 := h.below hb
  refine ⟨h2.row.kept fun g e => ha.chg.keep g (h2.row.lt e) fun q => h2.ap g q e, he, fun g e => ?_, fun g e q => ?_, h2.bel.trans (ha.chg.below h2.bel.size h2.own)⟩
  · rcases ha.loc g e with q | q
    · exact h2.own g q
    · exact Nat.le_trans h2.bel.size q
  · rcases ha.loc g e with q2 | q2
    · exact h2.ap g q2 q
    · have := h2.row.lt q; omega
theorem invK_int (key : Value) (kl : Lit) (h : keyOf Try.prog 3 key = some kl) : ∃ x : Int, key = .int .i64 x := by
  obtain ⟨x, rfl, -⟩ := Maps.keyOf_int_inv Try.underlying3 h
  exact ⟨x, rfl⟩
theorem invV_st (v : Value) (y : DataW Unit × List MemPlace) (h : stR v = some y) : ∃ c : Int × Bool, v = stV c.1 c.2 := by
  obtain ⟨t, a, e, -⟩ := stR_inv h
  exact ⟨(t, a), e⟩
set_option maxHeartbeats 4000000 in
theorem Unacked_any (w : World) (p bm : Nat) (v : Value) (S : LS) (h : LRep w p bm v S) (hnd : (ids S.ls).Nodup) (hl : S.es.length ≤ 2000) (hg : S.gone ≤ 16000000000000) : Calls Try.prog 17 #[.pointer (some ⟨p, 0, none⟩)] w fun e w' =>
    ∃ lv, e = .returned lv ∧ ERow w' lv (una S.ls) ∧ (∀ g, lv.ownBlock = some g → w.heap.size ≤ g) ∧ Below w.heap.size w w' := by
  have HH := hide h
  obtain ⟨D, hown, hDs, hD1, hD2⟩ := h.mp
  have c4 := h.c4
  have HD1 := hide hD1
  have HD2 := hide hD2
  have HND := hide hnd
  have HL := hide hl
  have HG := hide hg
  clear h hD1 hD2 hDs hnd hl hg
  go_enter Try.func17, Try.ntmps17
  go_wp2_with (first
    | (at_range; refine wpList_range_own _ rfl _ 67 rfl 3 72 kInt Try.underlying67 stR bm S.ls.length D rfl hown ?_; intro w0 hrg0 hg0 hs0) | go_in)
  go_frame
  have HUI := hide (UI.start HD1.out hrg0 hg0 hown.lt)
  clear hrg0 hg0 hs0 hown c4
  go_loopw [3] (fun tv wr => ∃ (left : Lit → Bool) (cnt : Nat) (T : List Int), UI w wr bm S.ls.length D S.gone S.ls left cnt T tv) (fun _ wr => wr.rangeLeft bm w.heap.size)
  case atStart => exact ⟨_, _, _, HUI.out⟩
  case round =>
    clear HUI
    obtain ⟨left, cnt, T, hU⟩ := hrel
    obtain ⟨ta, tc, e3, i1, i2⟩ := hU.row.form
    have HU := hide hU
    have hrg := hU.rg
    subst e3
    clear hU
    have hlen := HU.out.ti.len
    have HBN : Hid (T.length + 1 ≤ maxLen ∧ ((T.length + 1) + (T.length + 1) / 4 + 192) * 8 ≤ 281474976710656) := hide (by have := HL.out; rw [LS.es_len] at this; unfold maxLen; omega)
    obtain ⟨i0, hi0, hz0, hz1, hz2⟩ := infoI
    go_wp2_with (first
      | (at_next; refine wpList_next_ranges _ rfl _ rfl 3 kInt stR (Value.int .i64) (fun c : Int × Bool => stV c.1 c.2) invK_int invV_st bm w.heap.size S.ls.length D left cnt rfl hrg (fun hc0 hl0 => ?_) (fun x c kl y w1 cnt1 hk hlk hv hat hrg1 hlt hg1 hs1 hen => ?more); case' more => (have HM := hide (HU.out.more HND.out HD1.out HD2.out hk hlk hv hat hrg1 hg1); clear hk hlk hv hat hg1 hs1; obtain ⟨t, a⟩ := c; unfold stV at hen ⊢; simp only at hen HM ⊢; cases a))
      | (at_builtin; refine wpList_appendC _ rfl (.tmp 21) (.tmp 24) 70 rfl 3 i0 (.int .i64 0) 1 8 Try.underlying70 hi0 hz0 hz1 hz2 rfl (by decide) _ _ _ rfl ((HM.out.2 rfl).1.below (below_alloc2 w1 _ _)) ⟨(w1.alloc (.cells #[.int .i64 t, .bool false] 72)).heap.size, 0, none⟩ 1 1 [.int .i64 t] (by first | rfl | simp [Act.eval, Act.put]) rfl (by decide) (cells_new _ #[.int .i64 t] _ _ rfl) (by simp [Value.oneCell']) HBN.out.1 HBN.out.2 ?_; intro v6 w6 q1 q2; obtain ⟨left', hU'⟩ := (HM.out.2 rfl).2; have HUN := hide (hU' _ _ _ (below_alloc2 w1 _ _) q2 (by unfold IRow; rw [List.length_append, List.map_append]; exact q1)); clear q1 q2 hU' HM))
    case roundEnd => exact ⟨⟨_, _, _, HUN.out⟩, by rw [HUN.out.rg.left_eq, hrg.left_eq]; exact hlt⟩
    case roundEnd =>
      obtain ⟨left', h⟩ := HM.out.1 rfl
      have h2 := h.below (below_alloc w1 (.cells #[.int .i64 t, .bool true] 72))
      exact ⟨⟨_, _, _, h2⟩, by rw [h2.rg.left_eq, hrg.left_eq]; exact hlt⟩
    have HSRT := hide (sort_any wr _ T HU.out.row (by have := HL.out; rw [LS.es_len] at this; omega))
    rw [HU.out.ti.done hl0] at HSRT
    go_wp2_with (go_at_call 35; refine HSRT.out.mono ?_; rintro e w2 ⟨rfl, q1, q2⟩; have HT := hide (UT.start HU.out q1 q2); clear q1 q2 HSRT)
    clear HU hrg HD1 HD2 HND HBN hlen hl0 hc0
    have HTL := hide (tns_len S.gone S.ls)
    obtain ⟨ra, rc, er, r1, r2⟩ := HT.out.row.form
    rw [HTL.out] at er r1
    generalize hn : (una S.ls).length = n at *
    have hnl : n ≤ 2000 := by have := HL.out; rw [LS.es_len] at this; have := una_le S.ls; omega
    simp only [Value.slice.injEq] at er
    obtain ⟨rfl, hTn, rfl⟩ := er
    rw [hTn] at HT ⊢
    go_loopw [6, 30] (fun lv x wr => ∃ j : Nat, j ≤ n ∧ x = .int .i64 (j : Int) ∧ UT w wr S.gone S.ls (.slice ta n tc) lv j) (fun _ x _ => n - (intOf x).toNat)
    case atStart => exact ⟨0, Nat.zero_le _, rfl, HT.out⟩
    case round =>
      clear HT
      obtain ⟨j, hj, rfl, hT⟩ := hrel
      have HT := hide hT
      by_cases hlt : j < n
      · obtain ⟨i, hi, ht1, ht2⟩ := tns_at S.gone S.ls j (by omega)
        obtain ⟨g, cap, eg, g1, g2, hcell⟩ := hT.row.cell (j := j) (by rw [HTL.out]; omega)
        simp only [Value.slice.injEq] at eg
        obtain ⟨rfl, -, rfl⟩ := eg
        rw [ht1] at hcell
        have HAT := hide (at_any wr p bm v S (HH.out.below hT.bel) HL.out HG.out i (by rw [LS.es_len]; exact hi))
        rw [show S.es.getD i e0 = (una S.ls).getD j e0 from ht2] at HAT
        have HTK : Hid ((una S.ls).take j ++ [(una S.ls).getD j e0] = (una S.ls).take (j + 1)) := hide (by rw [List.take_add_one]; simp [List.getD, show j < (una S.ls).length by omega])
        have hto := hT.to
        obtain ⟨la, lc, el, l1, l2, -⟩ := hto.form
        rw [List.length_take, hn, Nat.min_eq_left (by omega)] at el l1
        subst el
        have HBE : Hid (((una S.ls).take j).length + 1 ≤ 4000000000000) := hide (by rw [List.length_take]; omega)
        generalize (una S.ls).getD j e0 = x at *
        obtain ⟨x0, x1, x2⟩ := x
        simp only at HAT
        unfold maxLen at r2 l2
        clear hT ht1 ht2 hto HTL hn hTn i1 i2
        have hwj : IntKind.i64.wrap (((S.gone + i : Nat) : Int)) = ((S.gone + i : Nat) : Int) := by have := HG.out; have := HL.out; rw [LS.es_len] at this; simp [IntKind.wrap, IntKind.bits, IntKind.signed]; omega
        generalize ((S.gone + i : Nat) : Int) = gi at *
        go_wp2_with (first
          | (go_at_call 36; refine HAT.out.mono ?_; rintro e w1 ⟨rfl, q1⟩; have HT1 := hide (HT.out.below q1); have HE := hide (HT1.out.to.below (below_alloc w1 (.cells #[.int .i64 x0, .int .i64 x1, .int .i64 x2] 56))); clear q1 HAT HT)
          | (at_builtin; refine wpList_appendE _ rfl (.tmp 34) (.tmp 38) rfl _ ((una S.ls).take j) rfl HE.out ⟨w1.heap.size, 0, none⟩ 1 [(x0, x1, x2)] (by simp) rfl (cells_new _ #[.int .i64 x0, .int .i64 x1, .int .i64 x2] _ _ rfl) HBE.out ?_; intro v6 w6 q1 q2; rw [HTK.out] at q1; have HTN := hide (HT1.out.app (below_alloc w1 _) q2 q1); clear q1 q2 HT1 HE))
        go_roundw
        case rel => exact ⟨j + 1, by omega, by go_num, HTN.out⟩
        case measure => simp [intOf]; omega
      · have ej : j = n := by omega
        subst ej
        have HTO := hide hT.to
        rw [List.take_of_length_le (by omega)] at HTO
        obtain ⟨la, lc, el, l1, l2, -⟩ := HTO.out.form
        rw [hn] at el
        subst el
        have HB := hide hT.bel
        have HO := hide hT.own
        clear hT HT hTn i1 hn
        go_wp2_with fail
        go_ret
        exact ⟨_, rfl, HTO.out, HO.out, HB.out⟩
end Go.Proofs.Ytcdmkbjibcahcab
namespace Go.Proofs.Ytcdmkbjibcahcab
open Go.RowKit
set_option linter.unusedVariables false
set_option linter.unusedSimpArgs false
set_option maxRecDepth 20000

/-- asks is through -/
def AkP (w0 x : World) (p bm q b : Nat) (A0 : Nat → Nat → Prop) (v dv : Value) (S : LS) (c N : Nat) (e : Ending) (y : World) : Prop := e = .returned (.bool true) ∧ PX w0 y p bm v q dv S S b c N A0 [] ∧ Ft x y p bm q v v dv dv A0
theorem PM.asked {w0 x y : World} {p bm q b : Nat} {A0 : Nat → Nat → Prop} {o : Int × Int × Int × Int} {v dv : Value} {S : LS} {c N c' : Nat} (h : PM w0 x y p bm q b A0 v dv o v dv S S c N []) (hc : c ≤ c') : AkP w0 x p bm q b A0 v dv S c' N (.returned (.bool true)) y := ⟨rfl, h.px.more hc (Nat.le_refl _), h.ft⟩
section
variable {w0 x y z : World} {p bm q b : Nat} {A0 : Nat → Nat → Prop} {vs ds v dv v' dv' : Value} {o : Int × Int × Int × Int} {S D S' D' : LS} {c N c' N' : Nat} {P P' : VL}
theorem PM.swap {l k : Value × List En} (h : PM w0 x y p bm q b A0 vs ds o v dv S D c N (l :: k :: P)) : PM w0 x y p bm q b A0 vs ds o v dv S D c N (k :: l :: P) := by
  have a := h.px
  have m : ∀ u, u ∈ k :: l :: P → u ∈ l :: k :: P := fun u hu => by
    simp only [List.mem_cons] at hu ⊢
    rcases hu with e | e | e
    · exact .inr (.inl e)
    · exact .inl e
    · exact .inr (.inr e)
  have pw := a.pp
  rw [List.pairwise_cons, List.pairwise_cons] at pw
  refine h.step ⟨a.al, a.dl, a.q0, a.q1, a.bx.move (U := fun _ => False) (Ck.refl _ _) (Chg.refl _ _) (fun _ e => e.elim) ?_, a.a0, a.a1, fun u hu => a.ep u (m u hu), fun u hu => a.dp u (m u hu), ?_, fun u hu => a.op u (m u hu), fun u hu => a.pl u (m u hu)⟩ (Ft.ofBelow (Below.refl _ _))
  · rintro g i (e | ⟨u, hu, e⟩)
    · exact .inl (.inl e)
    · exact .inl (.inr ⟨u, m u hu, e⟩)
  · rw [List.pairwise_cons, List.pairwise_cons]
    refine ⟨fun u hu => ?_, fun u hu => pw.1 u (List.mem_cons.2 (.inr hu)), pw.2.2⟩
    rcases List.mem_cons.1 hu with rfl | hu
    · exact fun g i e1 e2 => pw.1 k (List.mem_cons.2 (.inl rfl)) g i e2 e1
    · exact pw.2.1 u hu
/-- the list beneath beside the document's copy -/
theorem PM.same2 {l k : Value × List En} {u : Value} (h : PM w0 x y p bm q b A0 vs ds o v dv S D c N (l :: k :: P)) (hu : ERow y u k.2) : Calls Try.prog 18 #[k.1, u] y fun e z => e = .returned (.bool true) ∧ PM w0 x z p bm q b A0 vs ds o v dv S D c N (l :: k :: P) := by
  have := sameEntries_any y k.1 u k.2 k.2 (h.px.ep k (List.mem_cons.2 (.inr (List.mem_cons.2 (.inl rfl))))) hu
  rw [decide_eq_true rfl] at this
  exact this.mono fun e z k => ⟨k.1, h.below k.2⟩
end
set_option maxHeartbeats 2000000 in
theorem as_open {w0 x : World} {p bm q b : Nat} {A0 : Nat → Nat → Prop} {v dv : Value} {S : LS} {c N : Nat} (h : PX w0 x p bm v q dv S S b c N A0 []) (hN : N ≤ 10000000000000) (hc : c ≤ 1000000000) (o1 o2 o3 : Int) : Calls Try.prog 5 #[.agg #[.pointer (some ⟨p, 0, none⟩), .pointer (some ⟨q, 0, none⟩)], .agg #[.int .i64 5, .int .i64 o1, .int .i64 o2, .int .i64 o3], .pointer (some ⟨b, 0, none⟩)] x (AkP w0 x p bm q b A0 v dv S (c + 2) N) := by
  have HP0 := hide (PM.start h (5, o1, o2, o3))
  have hl := h.al.ok.bd.es
  rw [LS.es_len] at hl
  have hok := h.al.ok
  have HA : Hid (∀ y, PM w0 x y p bm q b A0 v dv (5, o1, o2, o3) v dv S S c N [] → Calls Try.prog 11 #[.pointer (some ⟨p, 0, none⟩)] y fun e z => e = .returned (.int .i64 (S.now : Int)) ∧ PM w0 x z p bm q b A0 v dv (5, o1, o2, o3) v dv S S c N []) := hide fun y hy => (hy.px.al.opn).mono fun e z k => ⟨k.1, by obtain ⟨m, rfl⟩ := k.2; exact hy.below (below_drew0 _ m)⟩
  have HR : Hid (∀ y, PM w0 x y p bm q b A0 v dv (5, o1, o2, o3) v dv S S c N [] → Calls Try.prog 12 #[.pointer (some ⟨q, 0, none⟩)] y fun e z => e = .returned (.int .i64 (S.now : Int)) ∧ PM w0 x z p bm q b A0 v dv (5, o1, o2, o3) v dv S S c N []) := hide fun y hy => (ropen_any hy.px.dl).mono fun e z k => ⟨by rw [k.1], by rw [k.2]; exact hy⟩
  clear h hl hok
  generalize (S.now : Int) = nn at *
  have e1 : (nn == nn) = true := by simp
  have HPd := hide (HP0.out.below (below_drew0 _ 1))
  have r0 : (((x.alloc (.cells #[.pointer (some ⟨p, 0, none⟩), .pointer (some ⟨q, 0, none⟩)] 26)).alloc (.cells #[.int .i64 5, .int .i64 o1, .int .i64 o2, .int .i64 o3] 34)).drewN 1).cell? ⟨x.heap.size, 0, none⟩ = _ := HPd.out.p0
  have r1 : (((x.alloc (.cells #[.pointer (some ⟨p, 0, none⟩), .pointer (some ⟨q, 0, none⟩)] 26)).alloc (.cells #[.int .i64 5, .int .i64 o1, .int .i64 o2, .int .i64 o3] 34)).drewN 1).cell? ⟨x.heap.size, 1, none⟩ = _ := HPd.out.p1
  have r2 : (((x.alloc (.cells #[.pointer (some ⟨p, 0, none⟩), .pointer (some ⟨q, 0, none⟩)] 26)).alloc (.cells #[.int .i64 5, .int .i64 o1, .int .i64 o2, .int .i64 o3] 34)).drewN 1).cell? ⟨x.heap.size + 1, 2, none⟩ = _ := HPd.out.o2
  go_enter Try.func5, Try.ntmps5
  go_wp2_with fail
  go_region_law (first
    | (refine step_callTo rfl 11 #[.pointer (some ⟨p, 0, none⟩)] (by kernel_rfl) (HA.out _ HPd.out) (fun e w' h => ⟨_, h.1⟩) ?_; rintro u1 y1 ⟨hv, k1⟩; injection hv with hv; subst hv; have HP1 := hide k1; have p1 : y1.cell? ⟨x.heap.size, 1, none⟩ = _ := k1.p1; have q2 : y1.cell? ⟨x.heap.size + 1, 2, none⟩ = some (.int .i64 o2) := k1.o2; clear k1)
    | (refine step_callTo rfl 12 #[.pointer (some ⟨q, 0, none⟩)] (by kernel_rfl) (HR.out _ HP1.out) (fun e w' h => ⟨_, h.1⟩) ?_; rintro u2 y2 ⟨hv, k2⟩; injection hv with hv; subst hv; have HP2 := hide k2; clear k2))
  all_goals
    go_wp2_with fail
    go_ret
    try rw [e1]
    exact HP2.out.asked (Nat.le_add_right c 2)
set_option maxHeartbeats 2000000 in
theorem as_size {w0 x : World} {p bm q b : Nat} {A0 : Nat → Nat → Prop} {v dv : Value} {S : LS} {c N : Nat} (h : PX w0 x p bm v q dv S S b c N A0 []) (hN : N ≤ 10000000000000) (hc : c ≤ 1000000000) (o1 o2 o3 : Int) : Calls Try.prog 5 #[.agg #[.pointer (some ⟨p, 0, none⟩), .pointer (some ⟨q, 0, none⟩)], .agg #[.int .i64 6, .int .i64 o1, .int .i64 o2, .int .i64 o3], .pointer (some ⟨b, 0, none⟩)] x (AkP w0 x p bm q b A0 v dv S (c + 2) N) := by
  have HP0 := hide (PM.start h (6, o1, o2, o3))
  have hl := h.al.ok.bd.es
  rw [LS.es_len] at hl
  have hok := h.al.ok
  have HA : Hid (∀ y, PM w0 x y p bm q b A0 v dv (6, o1, o2, o3) v dv S S c N [] → Calls Try.prog 13 #[.pointer (some ⟨p, 0, none⟩)] y fun e z => e = .returned (.int .i64 (S.es.length : Int)) ∧ PM w0 x z p bm q b A0 v dv (6, o1, o2, o3) v dv S S c N []) := hide fun y hy => (hy.px.al.size).mono fun e z k => ⟨k.1, by obtain ⟨m, rfl⟩ := k.2; exact hy.below (below_drew0 _ m)⟩
  have HR : Hid (∀ y, PM w0 x y p bm q b A0 v dv (6, o1, o2, o3) v dv S S c N [] → Calls Try.prog 14 #[.pointer (some ⟨q, 0, none⟩)] y fun e z => e = .returned (.int .i64 (S.es.length : Int)) ∧ PM w0 x z p bm q b A0 v dv (6, o1, o2, o3) v dv S S c N []) := hide fun y hy => (rsize_any hy.px.dl).mono fun e z k => ⟨by rw [k.1, LS.es_len], by rw [k.2]; exact hy⟩
  clear h hl hok
  generalize (S.es.length : Int) = nn at *
  have e1 : (nn == nn) = true := by simp
  have HPd := hide (HP0.out.below (below_drew0 _ 1))
  have r0 : (((x.alloc (.cells #[.pointer (some ⟨p, 0, none⟩), .pointer (some ⟨q, 0, none⟩)] 26)).alloc (.cells #[.int .i64 6, .int .i64 o1, .int .i64 o2, .int .i64 o3] 34)).drewN 1).cell? ⟨x.heap.size, 0, none⟩ = _ := HPd.out.p0
  have r1 : (((x.alloc (.cells #[.pointer (some ⟨p, 0, none⟩), .pointer (some ⟨q, 0, none⟩)] 26)).alloc (.cells #[.int .i64 6, .int .i64 o1, .int .i64 o2, .int .i64 o3] 34)).drewN 1).cell? ⟨x.heap.size, 1, none⟩ = _ := HPd.out.p1
  have r2 : (((x.alloc (.cells #[.pointer (some ⟨p, 0, none⟩), .pointer (some ⟨q, 0, none⟩)] 26)).alloc (.cells #[.int .i64 6, .int .i64 o1, .int .i64 o2, .int .i64 o3] 34)).drewN 1).cell? ⟨x.heap.size + 1, 2, none⟩ = _ := HPd.out.o2
  go_enter Try.func5, Try.ntmps5
  go_wp2_with fail
  go_region_law (first
    | (refine step_callTo rfl 13 #[.pointer (some ⟨p, 0, none⟩)] (by kernel_rfl) (HA.out _ HPd.out) (fun e w' h => ⟨_, h.1⟩) ?_; rintro u1 y1 ⟨hv, k1⟩; injection hv with hv; subst hv; have HP1 := hide k1; have p1 : y1.cell? ⟨x.heap.size, 1, none⟩ = _ := k1.p1; have q2 : y1.cell? ⟨x.heap.size + 1, 2, none⟩ = some (.int .i64 o2) := k1.o2; clear k1)
    | (refine step_callTo rfl 14 #[.pointer (some ⟨q, 0, none⟩)] (by kernel_rfl) (HR.out _ HP1.out) (fun e w' h => ⟨_, h.1⟩) ?_; rintro u2 y2 ⟨hv, k2⟩; injection hv with hv; subst hv; have HP2 := hide k2; clear k2))
  all_goals
    go_wp2_with fail
    go_ret
    try rw [e1]
    exact HP2.out.asked (Nat.le_add_right c 2)
set_option maxHeartbeats 2000000 in
theorem as_epochs {w0 x : World} {p bm q b : Nat} {A0 : Nat → Nat → Prop} {v dv : Value} {S : LS} {c N : Nat} (h : PX w0 x p bm v q dv S S b c N A0 []) (hN : N ≤ 10000000000000) (hc : c ≤ 1000000000) (o1 o2 o3 : Int) : Calls Try.prog 5 #[.agg #[.pointer (some ⟨p, 0, none⟩), .pointer (some ⟨q, 0, none⟩)], .agg #[.int .i64 7, .int .i64 o1, .int .i64 o2, .int .i64 o3], .pointer (some ⟨b, 0, none⟩)] x (AkP w0 x p bm q b A0 v dv S (c + 2) N) := by
  have HP0 := hide (PM.start h (7, o1, o2, o3))
  have hl := h.al.ok.bd.es
  rw [LS.es_len] at hl
  have hok := h.al.ok
  have HA : Hid (∀ y, PM w0 x y p bm q b A0 v dv (7, o1, o2, o3) v dv S S c N [] → Calls Try.prog 15 #[.pointer (some ⟨p, 0, none⟩)] y fun e z => e = .returned (.int .i64 ((S.now : Int) - oldE S)) ∧ PM w0 x z p bm q b A0 v dv (7, o1, o2, o3) v dv S S c N []) := hide fun y hy => (hy.px.al.epochs (by omega)).mono fun e z k => ⟨k.1, by obtain ⟨m, rfl⟩ := k.2; exact hy.below (below_drew0 _ m)⟩
  have HR : Hid (∀ y, PM w0 x y p bm q b A0 v dv (7, o1, o2, o3) v dv S S c N [] → Calls Try.prog 16 #[.pointer (some ⟨q, 0, none⟩)] y fun e z => e = .returned (.int .i64 ((S.now : Int) - oldE S)) ∧ PM w0 x z p bm q b A0 v dv (7, o1, o2, o3) v dv S S c N []) := hide fun y hy => (repochs_any hy.px.dl hl).mono fun e z k => ⟨by rw [k.1, epF_eq hok], by rw [k.2]; exact hy⟩
  clear h hl hok
  generalize (S.now : Int) - oldE S = nn at *
  have e1 : (nn == nn) = true := by simp
  have HPd := hide (HP0.out.below (below_drew0 _ 1))
  have r0 : (((x.alloc (.cells #[.pointer (some ⟨p, 0, none⟩), .pointer (some ⟨q, 0, none⟩)] 26)).alloc (.cells #[.int .i64 7, .int .i64 o1, .int .i64 o2, .int .i64 o3] 34)).drewN 1).cell? ⟨x.heap.size, 0, none⟩ = _ := HPd.out.p0
  have r1 : (((x.alloc (.cells #[.pointer (some ⟨p, 0, none⟩), .pointer (some ⟨q, 0, none⟩)] 26)).alloc (.cells #[.int .i64 7, .int .i64 o1, .int .i64 o2, .int .i64 o3] 34)).drewN 1).cell? ⟨x.heap.size, 1, none⟩ = _ := HPd.out.p1
  have r2 : (((x.alloc (.cells #[.pointer (some ⟨p, 0, none⟩), .pointer (some ⟨q, 0, none⟩)] 26)).alloc (.cells #[.int .i64 7, .int .i64 o1, .int .i64 o2, .int .i64 o3] 34)).drewN 1).cell? ⟨x.heap.size + 1, 2, none⟩ = _ := HPd.out.o2
  go_enter Try.func5, Try.ntmps5
  go_wp2_with fail
  go_region_law (first
    | (refine step_callTo rfl 15 #[.pointer (some ⟨p, 0, none⟩)] (by kernel_rfl) (HA.out _ HPd.out) (fun e w' h => ⟨_, h.1⟩) ?_; rintro u1 y1 ⟨hv, k1⟩; injection hv with hv; subst hv; have HP1 := hide k1; have p1 : y1.cell? ⟨x.heap.size, 1, none⟩ = _ := k1.p1; have q2 : y1.cell? ⟨x.heap.size + 1, 2, none⟩ = some (.int .i64 o2) := k1.o2; clear k1)
    | (refine step_callTo rfl 16 #[.pointer (some ⟨q, 0, none⟩)] (by kernel_rfl) (HR.out _ HP1.out) (fun e w' h => ⟨_, h.1⟩) ?_; rintro u2 y2 ⟨hv, k2⟩; injection hv with hv; subst hv; have HP2 := hide k2; clear k2))
  all_goals
    go_wp2_with fail
    go_ret
    try rw [e1]
    exact HP2.out.asked (Nat.le_add_right c 2)
set_option maxHeartbeats 2000000 in
theorem as_settled {w0 x : World} {p bm q b : Nat} {A0 : Nat → Nat → Prop} {v dv : Value} {S : LS} {c N : Nat} (h : PX w0 x p bm v q dv S S b c N A0 []) (hN : N ≤ 10000000000000) (hc : c ≤ 1000000000) (o1 o2 o3 : Int) : Calls Try.prog 5 #[.agg #[.pointer (some ⟨p, 0, none⟩), .pointer (some ⟨q, 0, none⟩)], .agg #[.int .i64 9, .int .i64 o1, .int .i64 o2, .int .i64 o3], .pointer (some ⟨b, 0, none⟩)] x (AkP w0 x p bm q b A0 v dv S (c + 2) N) := by
  have HP0 := hide (PM.start h (9, o1, o2, o3))
  have hl := h.al.ok.bd.es
  rw [LS.es_len] at hl
  have hok := h.al.ok
  have HA : Hid (∀ y, PM w0 x y p bm q b A0 v dv (9, o1, o2, o3) v dv S S c N [] → Calls Try.prog 21 #[.pointer (some ⟨p, 0, none⟩), .int .i64 o2] y fun e z => e = .returned (.bool (decide (S.es.length = 0) || decide (o2 < (S.es.getD 0 e0).2.2))) ∧ PM w0 x z p bm q b A0 v dv (9, o1, o2, o3) v dv S S c N []) := hide fun y hy => (hy.px.al.settled o2).mono fun e z k => ⟨k.1, by obtain ⟨m, rfl⟩ := k.2; exact hy.below (below_drew0 _ m)⟩
  have HR : Hid (∀ y, PM w0 x y p bm q b A0 v dv (9, o1, o2, o3) v dv S S c N [] → Calls Try.prog 22 #[.pointer (some ⟨q, 0, none⟩), .int .i64 o2] y fun e z => e = .returned (.bool (decide (S.es.length = 0) || decide (o2 < (S.es.getD 0 e0).2.2))) ∧ PM w0 x z p bm q b A0 v dv (9, o1, o2, o3) v dv S S c N []) := hide fun y hy => (rsettled_any hy.px.dl hl o2).mono fun e z k => ⟨by rw [k.1, settled_eq hok o2], by rw [k.2]; exact hy⟩
  clear h hl hok
  generalize (decide (S.es.length = 0) || decide (o2 < (S.es.getD 0 e0).2.2)) = nn at *
  have e1 : (nn == nn) = true := by simp
  have HPd := hide (HP0.out.below (below_drew0 _ 1))
  have r0 : (((x.alloc (.cells #[.pointer (some ⟨p, 0, none⟩), .pointer (some ⟨q, 0, none⟩)] 26)).alloc (.cells #[.int .i64 9, .int .i64 o1, .int .i64 o2, .int .i64 o3] 34)).drewN 1).cell? ⟨x.heap.size, 0, none⟩ = _ := HPd.out.p0
  have r1 : (((x.alloc (.cells #[.pointer (some ⟨p, 0, none⟩), .pointer (some ⟨q, 0, none⟩)] 26)).alloc (.cells #[.int .i64 9, .int .i64 o1, .int .i64 o2, .int .i64 o3] 34)).drewN 1).cell? ⟨x.heap.size, 1, none⟩ = _ := HPd.out.p1
  have r2 : (((x.alloc (.cells #[.pointer (some ⟨p, 0, none⟩), .pointer (some ⟨q, 0, none⟩)] 26)).alloc (.cells #[.int .i64 9, .int .i64 o1, .int .i64 o2, .int .i64 o3] 34)).drewN 1).cell? ⟨x.heap.size + 1, 2, none⟩ = _ := HPd.out.o2
  go_enter Try.func5, Try.ntmps5
  go_wp2_with fail
  go_region_law (first
    | (refine step_callTo rfl 21 #[.pointer (some ⟨p, 0, none⟩), .int .i64 o2] (by kernel_rfl) (HA.out _ HPd.out) (fun e w' h => ⟨_, h.1⟩) ?_; rintro u1 y1 ⟨hv, k1⟩; injection hv with hv; subst hv; have HP1 := hide k1; have p1 : y1.cell? ⟨x.heap.size, 1, none⟩ = _ := k1.p1; have q2 : y1.cell? ⟨x.heap.size + 1, 2, none⟩ = some (.int .i64 o2) := k1.o2; clear k1)
    | (refine step_callTo rfl 22 #[.pointer (some ⟨q, 0, none⟩), .int .i64 o2] (by kernel_rfl) (HR.out _ HP1.out) (fun e w' h => ⟨_, h.1⟩) ?_; rintro u2 y2 ⟨hv, k2⟩; injection hv with hv; subst hv; have HP2 := hide k2; clear k2))
  all_goals
    go_wp2_with fail
    go_ret
    try rw [e1]
    exact HP2.out.asked (Nat.le_add_right c 2)
set_option maxHeartbeats 2000000 in
theorem as_una {w0 x : World} {p bm q b : Nat} {A0 : Nat → Nat → Prop} {v dv : Value} {S : LS} {c N : Nat} (h : PX w0 x p bm v q dv S S b c N A0 []) (hN : N ≤ 10000000000000) (hc : c ≤ 1000000000) (o1 o2 o3 : Int) : Calls Try.prog 5 #[.agg #[.pointer (some ⟨p, 0, none⟩), .pointer (some ⟨q, 0, none⟩)], .agg #[.int .i64 8, .int .i64 o1, .int .i64 o2, .int .i64 o3], .pointer (some ⟨b, 0, none⟩)] x (AkP w0 x p bm q b A0 v dv S (c + 2) N) := by
  have HP0 := hide (PM.start h (8, o1, o2, o3))
  have hl := h.al.ok.bd.es
  have hl2 := hl
  rw [LS.es_len] at hl2
  have hok := h.al.ok
  have htot := h.al.tot
  have hul : (una S.ls).length ≤ 2000 := by
    have := una_le S.ls
    omega
  have HA : Hid (∀ y P, PM w0 x y p bm q b A0 v dv (8, o1, o2, o3) v dv S S c N P → Calls Try.prog 17 #[.pointer (some ⟨p, 0, none⟩)] y fun e z => ∃ lv, e = .returned lv ∧ PM w0 x z p bm q b A0 v dv (8, o1, o2, o3) v dv S S c N ((lv, una S.ls) :: P)) := hide fun y P hy => (Unacked_any y p bm v S hy.px.al.rep hok.bd.nd hl (by omega)).mono fun e z k => by
    obtain ⟨lv, rfl, k1, k2, k3⟩ := k
    exact ⟨lv, rfl, hy.step (hy.px.new k3 k1 k2 hul) (Ft.ofBelow k3)⟩
  have HR : Hid (∀ y P, PM w0 x y p bm q b A0 v dv (8, o1, o2, o3) v dv S S c N P → Calls Try.prog 19 #[.pointer (some ⟨q, 0, none⟩)] y fun e z => ∃ lv, e = .returned lv ∧ PM w0 x z p bm q b A0 v dv (8, o1, o2, o3) v dv S S c N P ∧ ERow z lv (una S.ls)) := hide fun y P hy => (runa_any hy.px.dl hl2).mono fun e z k => by
    obtain ⟨lv, rfl, k1⟩ := k
    exact ⟨lv, rfl, hy.below k1.bel, k1.row⟩
  clear h hl hl2 hok htot hul
  generalize una S.ls = ul at *
  go_enter Try.func5, Try.ntmps5
  go_wp2_with (first
    | (go_at_call 17; refine (HA.out _ _ HP0.out).mono ?_; rintro e y1 ⟨l1, rfl, k1⟩; have HP1 := hide k1; have p0 : y1.cell? ⟨x.heap.size, 0, none⟩ = _ := k1.p0; clear k1 HP0)
    | (go_at_call 17; refine (HA.out _ _ HP1.out).mono ?_; rintro e y2 ⟨l2, rfl, k1⟩; have HP2 := hide k1; have p1 : y2.cell? ⟨x.heap.size, 1, none⟩ = _ := k1.p1; clear k1 HP1)
    | (go_at_call 19; refine (HR.out _ _ HP2.out).mono ?_; rintro e y3 ⟨l3, rfl, k1, k2⟩; have HP3 := hide k1; have HE3 := hide k2; clear k1 k2 HP2)
    | (go_at_call 18; refine (HP3.out.same2 HE3.out).mono ?_; rintro e y4 ⟨rfl, k1⟩; have HP4 := hide k1; have p2 : y4.cell? ⟨x.heap.size, 1, none⟩ = _ := k1.p1; clear k1 HP3 HE3)
    | (go_at_call 19; refine (HR.out _ _ HP4.out).mono ?_; rintro e y5 ⟨l5, rfl, k1, k2⟩; have HP5 := hide k1; have HE5 := hide k2; clear k1 k2 HP4)
    | (go_at_call 18; refine (HP5.out.same HE5.out).mono ?_; rintro e y6 ⟨rfl, k1⟩; have HP6 := hide k1.swap; clear k1 HP5 HE5)
    | (go_at_call 20; refine (HP6.out.keep (by omega)).mono ?_; rintro e y7 ⟨rfl, k1⟩; have HP7 := hide k1; clear k1 HP6)
    | (go_at_call 20; refine (HP7.out.keep (by omega)).mono ?_; rintro e y8 ⟨rfl, k1⟩; have HP8 := hide k1; clear k1 HP7))
  go_ret
  exact HP8.out.asked (Nat.le_refl _)
set_option maxHeartbeats 2000000 in
theorem as_none {w0 x : World} {p bm q b : Nat} {A0 : Nat → Nat → Prop} {v dv : Value} {S : LS} {c N : Nat} (h : PX w0 x p bm v q dv S S b c N A0 []) (hN : N ≤ 10000000000000) (hc : c ≤ 1000000000) (k : Int) (h5 : k ≠ 5) (h6 : k ≠ 6) (h7 : k ≠ 7) (h8 : k ≠ 8) (h9 : k ≠ 9) (o1 o2 o3 : Int) : Calls Try.prog 5 #[.agg #[.pointer (some ⟨p, 0, none⟩), .pointer (some ⟨q, 0, none⟩)], .agg #[.int .i64 k, .int .i64 o1, .int .i64 o2, .int .i64 o3], .pointer (some ⟨b, 0, none⟩)] x (AkP w0 x p bm q b A0 v dv S (c + 2) N) := by
  have HP0 := hide (PM.start h (k, o1, o2, o3))
  have e5 : (k == 5) = false := by simpa using h5
  have e6 : (k == 6) = false := by simpa using h6
  have e7 : (k == 7) = false := by simpa using h7
  have e8 : (k == 8) = false := by simpa using h8
  have e9 : (k == 9) = false := by simpa using h9
  clear h
  go_enter Try.func5, Try.ntmps5
  go_wp2_with fail
  go_ret
  exact HP0.out.asked (Nat.le_add_right c 2)
theorem asks_any {w0 x : World} {p bm q b : Nat} {A0 : Nat → Nat → Prop} {v dv : Value} {S : LS} {c N : Nat} (h : PX w0 x p bm v q dv S S b c N A0 []) (hN : N ≤ 10000000000000) (hc : c ≤ 1000000000) (k o1 o2 o3 : Int) : Calls Try.prog 5 #[.agg #[.pointer (some ⟨p, 0, none⟩), .pointer (some ⟨q, 0, none⟩)], .agg #[.int .i64 k, .int .i64 o1, .int .i64 o2, .int .i64 o3], .pointer (some ⟨b, 0, none⟩)] x (AkP w0 x p bm q b A0 v dv S (c + 2) N) := by
  by_cases h5 : k = 5
  · subst h5
    exact as_open h hN hc o1 o2 o3
  by_cases h6 : k = 6
  · subst h6
    exact as_size h hN hc o1 o2 o3
  by_cases h7 : k = 7
  · subst h7
    exact as_epochs h hN hc o1 o2 o3
  by_cases h8 : k = 8
  · subst h8
    exact as_una h hN hc o1 o2 o3
  by_cases h9 : k = 9
  · subst h9
    exact as_settled h hN hc o1 o2 o3
  exact as_none h hN hc k h5 h6 h7 h8 h9 o1 o2 o3
end Go.Proofs.Ytcdmkbjibcahcab
namespace Go.Proofs.Ytcdmkbjibcahcab
open Go.RowKit
set_option linter.unusedVariables false
set_option linter.unusedSimpArgs false
set_option maxRecDepth 20000

theorem step_callW {P : Program} {ops : Array Oper} {o : Oper} {a : Act} {w : World} {K : Act → World → Prop} {Q : Exit → Act → World → Prop} {E : Prop} (hw : Region.wanted o (yielded ops a.tmps) = true) (f : FuncId) (args : Array Value) (hrun : (execOp a.eval o).run P w = .ok (.enter f args) w)
    {post : Ending → World → Prop} (hc : Calls P f args w post) (hp : ∀ e w', post e w' → ∃ v, e = .returned v) (h : ∀ v w', post (.returned v) w' → K (a.put o.dst v) w') :
    if Region.wanted o (yielded ops a.tmps) = true then Oper.wp P o a w K Q else E := by
  rw [if_pos hw]
  unfold Oper.wp
  rw [hrun, Oper.upon_enter]
  refine hc.mono fun e w'' hh => ?_
  obtain ⟨v, rfl⟩ := hp e w'' hh
  exact h v w'' hh
theorem RL.asks {w x : World} {gp p bm q b c N : Nat} (h : RL w x gp p bm q b c N) (hN : N ≤ 10000000000000) (hc : c ≤ 1000000000) (k o1 o2 o3 : Int) : Calls Try.prog 5 #[.agg #[.pointer (some ⟨p, 0, none⟩), .pointer (some ⟨q, 0, none⟩)], .agg #[.int .i64 k, .int .i64 o1, .int .i64 o2, .int .i64 o3], .pointer (some ⟨b, 0, none⟩)] x fun e y => e = .returned (.bool true) ∧ RL w y gp p bm q b (c + 2) N := by
  obtain ⟨⟨v, dv, S, hx⟩, hp⟩ := h
  refine (asks_any hx hN hc k o1 o2 o3).mono ?_
  rintro e y ⟨rfl, k, f⟩
  exact ⟨rfl, RL.step hp hx k f⟩
end Go.Proofs.Ytcdmkbjibcahcab
namespace Go.Proofs.Ytcdmkbjibcahcab
open Go.RowKit
set_option linter.unusedVariables false
set_option linter.unusedSimpArgs false
set_option maxRecDepth 20000

/-- the two logs of a pair -/
structure LG (w x : World) (N p bm q : Nat) (v dv : Value) (S : LS) : Prop where
  al : AL w x p bm v S N
  dl : DL x q dv S
  q0 : w.heap.size ≤ q
  q1 : ∀ g, dv.ownBlock = some g → w.heap.size ≤ g
abbrev Sd := Option (Nat × Nat × Nat)
/-- two pairs, each of which may be none, and the book -/
structure X2 (w x : World) (b c N : Nat) (s1 s2 : Sd) (v1 dv1 : Value) (S1 : LS) (v2 dv2 : Value) (S2 : LS) : Prop where
  g1 : ∀ p bm q, s1 = some (p, bm, q) → LG w x N p bm q v1 dv1 S1
  g2 : ∀ p bm q, s2 = some (p, bm, q) → LG w x N p bm q v2 dv2 S2
  l1 : ∀ g, v1.ownBlock = some g → g < x.heap.size
  l2 : ∀ g, v2.ownBlock = some g → g < x.heap.size
  d1 : ∀ g, dv1.ownBlock = some g → g < x.heap.size
  d2 : ∀ g, dv2.ownBlock = some g → g < x.heap.size
  bx : BX w x (fun g i => Rm v1 g i ∨ Rm v2 g i) b c
  ne : ∀ p bm q p' bm' q', s1 = some (p, bm, q) → s2 = some (p', bm', q') → p ≠ p' ∧ bm ≠ bm' ∧ q ≠ q'
  nv : ∀ g, v1.ownBlock = some g → v2.ownBlock ≠ some g
  nd : ∀ g, dv1.ownBlock = some g → dv2.ownBlock ≠ some g
  bel : Below w.heap.size w x
section
variable {w x y : World} {b c N c' N' : Nat} {s1 s2 : Sd} {v1 dv1 v2 dv2 v' dv' : Value} {S1 S2 S' : LS} {p bm q : Nat}
theorem LG.below (h : LG w x N p bm q v1 dv1 S1) (hb : Below x.heap.size x y) : LG w y N p bm q v1 dv1 S1 := ⟨h.al.below hb, h.dl.below hb, h.q0, h.q1⟩
theorem LG.more (h : LG w x N p bm q v1 dv1 S1) (hn : N ≤ N') : LG w x N' p bm q v1 dv1 S1 := ⟨h.al.more hn, h.dl, h.q0, h.q1⟩
theorem X2.swap (h : X2 w x b c N s1 s2 v1 dv1 S1 v2 dv2 S2) : X2 w x b c N s2 s1 v2 dv2 S2 v1 dv1 S1 :=
  ⟨h.g2, h.g1, h.l2, h.l1, h.d2, h.d1, h.bx.move (U := fun _ => False) (Ck.refl _ _) (Chg.refl _ _) (fun _ e => e.elim) (fun g i e => .inl e.symm), fun p bm q p' bm' q' e1 e2 => by
    obtain ⟨a, b, c⟩ := h.ne p' bm' q' p bm q e2 e1
    exact ⟨a.symm, b.symm, c.symm⟩, fun g e e2 => h.nv g e2 e, fun g e e2 => h.nd g e2 e, h.bel⟩
theorem X2.below (h : X2 w x b c N s1 s2 v1 dv1 S1 v2 dv2 S2) (hb : Below x.heap.size x y) : X2 w y b c N s1 s2 v1 dv1 S1 v2 dv2 S2 :=
  ⟨fun p bm q e => (h.g1 p bm q e).below hb, fun p bm q e => (h.g2 p bm q e).below hb, fun g e => Nat.lt_of_lt_of_le (h.l1 g e) hb.size, fun g e => Nat.lt_of_lt_of_le (h.l2 g e) hb.size, fun g e => Nat.lt_of_lt_of_le (h.d1 g e) hb.size, fun g e => Nat.lt_of_lt_of_le (h.d2 g e) hb.size, h.bx.below hb, h.ne, h.nv, h.nd, h.bel.trans (hb.mono h.bel.size)⟩
theorem X2.px (h : X2 w x b c N s1 s2 v1 dv1 S1 v2 dv2 S2) (e : s1 = some (p, bm, q)) : PX w x p bm v1 q dv1 S1 S1 b c N (Rm v2) [] := by
  have k := h.g1 p bm q e
  refine ⟨k.al, k.dl, k.q0, k.q1, h.bx.move (U := fun _ => False) (Ck.refl _ _) (Chg.refl _ _) (fun _ e => e.elim) ?_, fun g i e1 e2 => h.nv g e2.own e1.own, fun g i e1 => h.l2 g e1.own, fun u hu => by simp at hu, fun u hu => by simp at hu, List.Pairwise.nil, fun u hu => by simp at hu, fun u hu => by simp at hu⟩
  rintro g i ((e | e) | ⟨u, hu, e⟩)
  · exact .inl (.inr e)
  · exact .inl (.inl e)
  · simp at hu
/-- blocks of pairs stay -/
def Pk (x y : World) : Prop := ∀ (g : Nat) (cs : Array Value), x.heap[g]? = some (.cells cs 26 (0, 0)) → y.heap[g]? = x.heap[g]?
theorem X2.step (h : X2 w x b c N s1 s2 v1 dv1 S1 v2 dv2 S2) (e : s1 = some (p, bm, q)) (k : PX w y p bm v' q dv' S' S' b c' N' (Rm v2) []) (f : Ft x y p bm q v1 v' dv1 dv' (Rm v2)) (hn : N ≤ N') : X2 w y b c' N' s1 s2 v' dv' S' v2 dv2 S2 ∧ Pk x y := by
  have k1 := h.g1 p bm q e
  have r := k1.al.rep
  have kp : ∀ (g : Nat) (cs : Array Value) (t : TypeId), x.heap[g]? = some (.cells cs t (0, 0)) → g ≠ p → g ≠ q → dv1.ownBlock ≠ some g → ¬ kB t → y.heap[g]? = x.heap[g]? := fun g cs t hg h1 h2 h3 h4 => by
    refine f.ob g (Array.getElem?_eq_some_iff.1 hg).1 h1 (r.mp.neCells hg) h2 h3 fun cs2 t2 hc hk => ?_
    rw [hg] at hc
    simp only [Option.some.injEq, Obj.cells.injEq] at hc
    rw [← hc.2.1] at hk
    exact h4 hk
  refine ⟨⟨fun p' bm' q' e' => ?_, fun p' bm' q' e' => ?_, fun g e => k.al.rep.lst.lt e, fun g e => Nat.lt_of_lt_of_le (h.l2 g e) f.size, fun g e => k.dl.vlt e, fun g e => Nat.lt_of_lt_of_le (h.d2 g e) f.size, k.bx.move (U := fun _ => False) (Ck.refl _ _) (Chg.refl _ _) (fun _ e => e.elim) (fun g i e => .inl (.inl e.symm)), h.ne, fun g e2 e3 => ?_, fun g e2 e3 => ?_, k.al.bel⟩, fun g cs hg => kp g cs _ hg (neType hg r.row (by decide)) (neType hg k1.dl.row (by decide)) (fun e2 => ?_) (by unfold kB; decide)⟩
  · rw [e] at e'
    simp only [Option.some.injEq, Prod.mk.injEq] at e'
    obtain ⟨rfl, rfl, rfl⟩ := e'
    exact ⟨k.al, k.dl, k.q0, k.q1⟩
  · have k2 := h.g2 p' bm' q' e'
    obtain ⟨n1, n2, n3⟩ := h.ne p bm q p' bm' q' e e'
    obtain ⟨R, ck, dR⟩ := f.ck
    have r2 := k2.al.rep
    have lineNe : ∀ (g : Nat) (cs : Array Value) (t : TypeId), x.heap[g]? = some (.cells cs t (0, 0)) → t ≠ 64 → dv1.ownBlock ≠ some g := fun g cs t hg ht e2 => by
      obtain ⟨ds, hd⟩ := k1.dl.lineK e2
      exact neType hg hd ht rfl
    have rr : LRep y p' bm' v2 S2 := by
      refine ⟨(kp _ _ _ r2.row (Ne.symm n1) (neType r2.row k1.dl.row (by decide)) (lineNe _ _ _ r2.row (by decide)) (by unfold kB; decide)).trans r2.row, r2.lst.ck ck fun g i e1 e2 => dR g i e2 (r2.lst.clrm e1), r2.mp.kept ?_⟩
      refine f.ob bm' r2.mp.lt (fun e2 => ?_) (Ne.symm n2) (fun e2 => ?_) (fun e2 => ?_) fun cs t hc _ => r2.mp.neCells hc rfl
      · exact r2.mp.neCells r.row e2.symm
      · exact r2.mp.neCells k1.dl.row e2.symm
      · obtain ⟨ds, hd⟩ := k1.dl.lineK e2
        exact r2.mp.neCells hd rfl
    refine ⟨⟨rr, k.al.bel, k2.al.own, k2.al.ok, Nat.le_trans k2.al.nw (by omega), Nat.le_trans k2.al.tot hn⟩, k2.dl.kept fun g e2 => ?_, k2.q0, k2.q1⟩
    rcases e2 with rfl | e2
    · exact kp _ _ _ k2.dl.row (neType k2.dl.row r.row (by decide)) (Ne.symm n3) (lineNe _ _ _ k2.dl.row (by decide)) (by unfold kB; decide)
    · obtain ⟨cs, hc⟩ := k2.dl.lineK e2
      exact kp _ _ _ hc (neType hc r.row (by decide)) (neType hc k1.dl.row (by decide)) (fun e3 => h.nd g e3 e2) (by unfold kB; decide)
  · rcases f.vloc g e2 with e4 | e4
    · exact h.nv g e4 e3
    · have := h.l2 g e3; omega
  · rcases f.dloc g e2 with e4 | e4
    · exact h.nd g e4 e3
    · have := h.d2 g e3; omega
  · obtain ⟨ds, hd⟩ := k1.dl.lineK e2
    exact neType hg hd (by decide) rfl
end
def Xs (w x : World) (b c N : Nat) (s1 s2 : Sd) : Prop := ∃ v1 dv1 S1 v2 dv2 S2, X2 w x b c N s1 s2 v1 dv1 S1 v2 dv2 S2
section
variable {w x y : World} {b c N c' N' : Nat} {s1 s2 : Sd} {p bm q : Nat}
theorem Xs.swap (h : Xs w x b c N s1 s2) : Xs w x b c N s2 s1 := by
  obtain ⟨v1, dv1, S1, v2, dv2, S2, k⟩ := h
  exact ⟨_, _, _, _, _, _, k.swap⟩
theorem Xs.below (h : Xs w x b c N s1 s2) (hb : Below x.heap.size x y) : Xs w y b c N s1 s2 := by
  obtain ⟨v1, dv1, S1, v2, dv2, S2, k⟩ := h
  exact ⟨_, _, _, _, _, _, k.below hb⟩
theorem Xs.bel (h : Xs w x b c N s1 s2) : Below w.heap.size w x := by
  obtain ⟨v1, dv1, S1, v2, dv2, S2, k⟩ := h
  exact k.bel
theorem X2.more {v1 dv1 v2 dv2 : Value} {S1 S2 : LS} (h : X2 w x b c N s1 s2 v1 dv1 S1 v2 dv2 S2) (hc : c ≤ c') (hn : N ≤ N') : X2 w x b c' N' s1 s2 v1 dv1 S1 v2 dv2 S2 := { h with g1 := fun p bm q e => (h.g1 p bm q e).more hn, g2 := fun p bm q e => (h.g2 p bm q e).more hn, bx := h.bx.more hc }
theorem Xs.more (h : Xs w x b c N s1 s2) (hc : c ≤ c') (hn : N ≤ N') : Xs w x b c' N' s1 s2 := by
  obtain ⟨v1, dv1, S1, v2, dv2, S2, k⟩ := h
  exact ⟨_, _, _, _, _, _, k.more hc hn⟩
theorem Xs.moves (h : Xs w x b c N s1 s2) (e : s1 = some (p, bm, q)) (hN : N ≤ 10000000000000) (hc : c ≤ 4400000000000) (k o1 o2 o3 : Int) (hid : i64ok o2) (told : Bool) : Calls Try.prog 6 #[.agg #[.pointer (some ⟨p, 0, none⟩), .pointer (some ⟨q, 0, none⟩)], .agg #[.int .i64 k, .int .i64 o1, .int .i64 o2, .int .i64 o3], .bool told, .pointer (some ⟨b, 0, none⟩)] x fun e y => e = .returned (.bool true) ∧ Xs w y b (c + 1) (N + 1) s1 s2 ∧ Pk x y := by
  obtain ⟨v1, dv1, S1, v2, dv2, S2, hx⟩ := h
  refine (moves_any (hx.px e) hN hc k o1 o2 o3 hid told).mono ?_
  rintro e9 y ⟨v', dv', S', rfl, k, f⟩
  obtain ⟨a, b⟩ := hx.step e k f (Nat.le_succ N)
  exact ⟨rfl, ⟨_, _, _, _, _, _, a⟩, b⟩
theorem Xs.asks (h : Xs w x b c N s1 s2) (e : s1 = some (p, bm, q)) (hN : N ≤ 10000000000000) (hc : c ≤ 1000000000) (k o1 o2 o3 : Int) : Calls Try.prog 5 #[.agg #[.pointer (some ⟨p, 0, none⟩), .pointer (some ⟨q, 0, none⟩)], .agg #[.int .i64 k, .int .i64 o1, .int .i64 o2, .int .i64 o3], .pointer (some ⟨b, 0, none⟩)] x fun e y => e = .returned (.bool true) ∧ Xs w y b (c + 2) N s1 s2 ∧ Pk x y := by
  obtain ⟨v1, dv1, S1, v2, dv2, S2, hx⟩ := h
  refine (asks_any (hx.px e) hN hc k o1 o2 o3).mono ?_
  rintro e9 y ⟨rfl, k, f⟩
  obtain ⟨a, b⟩ := hx.step e k f (Nat.le_refl N)
  exact ⟨rfl, ⟨_, _, _, _, _, _, a⟩, b⟩
theorem Xs.holds (h : Xs w x b c N s1 s2) (hc : c ≤ 1000000000) : Calls Try.prog 7 #[.pointer (some ⟨b, 0, none⟩)] x fun e y => e = .returned (.bool true) ∧ Xs w y b c N s1 s2 ∧ Pk x y := by
  have h0 := h
  obtain ⟨v1, dv1, S1, v2, dv2, S2, hx⟩ := h
  obtain ⟨fv, wv, kv, tv, mk, F, W, K, T, k⟩ := hx.bx
  have h1 := k.one
  have h2 := k.len
  have h3 := k.cnt
  refine (holds_any (⟨k.b4.row, ⟨k.b4.f, k.ef⟩, ⟨k.b4.w, k.ew⟩, ⟨k.b4.k, fun u hu => k.ek u (List.mem_append_left _ hu)⟩, ⟨k.b4.t, fun u hu => k.ek u (List.mem_append_right _ hu)⟩, k.fw, k.kt⟩ : Bk x b fv wv kv tv mk F W K T) (by omega) (by omega)).mono ?_
  rintro e y ⟨rfl, q⟩
  exact ⟨rfl, h0.below q, fun g cs hg => q.block g (Array.getElem?_eq_some_iff.1 hg).1⟩
end
end Go.Proofs.Ytcdmkbjibcahcab
namespace Go.Proofs.Ytcdmkbjibcahcab
open Go.RowKit
set_option linter.unusedVariables false
set_option linter.unusedSimpArgs false
set_option maxRecDepth 20000

/-- what New gives, or does not -/
def mkS (a b : Int) : Prop := 1 ≤ a ∧ a ≤ 1024 ∧ 1 ≤ b ∧ b ≤ 64
def pvL : Sd → Option Addr
  | none => none
  | some (p, _, _) => some ⟨p, 0, none⟩
def pvR : Sd → Option Addr
  | none => none
  | some (_, _, q) => some ⟨q, 0, none⟩
/-- one side of the law's run, new -/
structure Nw (w x : World) (s : Sd) : Prop where
  g : ∀ p bm q, s = some (p, bm, q) → ∃ S, LRep x p bm nilV S ∧ DL x q nilV S ∧ S.Ok ∧ S.now ≤ 1 ∧ S.gone + S.ls.length ≤ 0 ∧ w.heap.size ≤ p ∧ w.heap.size ≤ bm ∧ w.heap.size ≤ q
theorem Nw.below {w x y : World} {s : Sd} (h : Nw w x s) (hb : Below x.heap.size x y) : Nw w y s := ⟨fun p bm q e => by
  obtain ⟨S, h1, h2, h3⟩ := h.g p bm q e
  exact ⟨S, h1.below hb, h2.below hb, h3⟩⟩
theorem makes_any (w : World) (a b : Int) : Calls Try.prog 4 #[.int .i64 a, .int .i64 b] w fun e w' => ∃ s, e = .returned (.tuple #[.agg #[.pointer (pvL s), .pointer (pvR s)], .bool true]) ∧ Below w.heap.size w w' ∧ Nw w w' s := by
  by_cases h : 1 ≤ a ∧ a ≤ 1024 ∧ 1 ≤ b ∧ b ≤ 64
  · obtain ⟨lim, rfl⟩ : ∃ n : Nat, a = (n : Int) := ⟨a.toNat, by omega⟩
    obtain ⟨ep, rfl⟩ : ∃ n : Nat, b = (n : Int) := ⟨b.toNat, by omega⟩
    refine (makes_ok w lim ep (by omega) (by omega) (by omega) (by omega)).mono ?_
    rintro e w' ⟨p, bm, q, rfl, k1, k2, k3, k4, k5, k6⟩
    refine ⟨some (p, bm, q), rfl, k3, ⟨fun p' bm' q' e => ?_⟩⟩
    simp only [Option.some.injEq, Prod.mk.injEq] at e
    obtain ⟨rfl, rfl, rfl⟩ := e
    exact ⟨_, k1, k2, newS_ok (by omega) (by omega) (by omega) (by omega), Nat.le_refl _, Nat.le_refl _, k4, k5, k6⟩
  · refine (makes_bad w a b h).mono ?_
    rintro e w' ⟨rfl, k⟩
    exact ⟨none, rfl, k, ⟨fun p bm q e => by cases e⟩⟩
/-- the law's run: both pairs in their boxes, the book -/
structure RX (w x : World) (g1 g2 b : Nat) (s1 s2 : Sd) (c N : Nat) : Prop where
  xs : Xs w x b c N s1 s2
  h1 : x.heap[g1]? = some (.cells #[.pointer (pvL s1), .pointer (pvR s1)] 26 (0, 0))
  h2 : x.heap[g2]? = some (.cells #[.pointer (pvL s2), .pointer (pvR s2)] 26 (0, 0))
section
variable {w x y : World} {g1 g2 b : Nat} {s1 s2 : Sd} {c N c' N' : Nat}
theorem RX.step (h : RX w x g1 g2 b s1 s2 c N) (k : Xs w y b c' N' s1 s2) (hk : Pk x y) : RX w y g1 g2 b s1 s2 c' N' := ⟨k, (hk g1 _ h.h1).trans h.h1, (hk g2 _ h.h2).trans h.h2⟩
theorem RX.below (h : RX w x g1 g2 b s1 s2 c N) (hb : Below x.heap.size x y) : RX w y g1 g2 b s1 s2 c N := h.step (h.xs.below hb) fun g cs hg => hb.block g (Array.getElem?_eq_some_iff.1 hg).1
theorem RX.a0 (h : RX w x g1 g2 b s1 s2 c N) : x.cell? ⟨g1, 0, none⟩ = some (.pointer (pvL s1)) := by rw [cell_of_row _ _ _ _ _ _ h.h1]; rfl
theorem RX.a1 (h : RX w x g1 g2 b s1 s2 c N) : x.cell? ⟨g1, 1, none⟩ = some (.pointer (pvR s1)) := by rw [cell_of_row _ _ _ _ _ _ h.h1]; rfl
theorem RX.b0 (h : RX w x g1 g2 b s1 s2 c N) : x.cell? ⟨g2, 0, none⟩ = some (.pointer (pvL s2)) := by rw [cell_of_row _ _ _ _ _ _ h.h2]; rfl
theorem RX.b1 (h : RX w x g1 g2 b s1 s2 c N) : x.cell? ⟨g2, 1, none⟩ = some (.pointer (pvR s2)) := by rw [cell_of_row _ _ _ _ _ _ h.h2]; rfl
theorem RX.more (h : RX w x g1 g2 b s1 s2 c N) (hc : c ≤ c') (hn : N ≤ N') : RX w x g1 g2 b s1 s2 c' N' := ⟨h.xs.more hc hn, h.h1, h.h2⟩
theorem Nw.lg {s : Sd} (h : Nw w x s) : ∃ S, ∀ p bm q, s = some (p, bm, q) → LRep x p bm nilV S ∧ DL x q nilV S ∧ S.Ok ∧ S.now ≤ 1 ∧ S.gone + S.ls.length ≤ 0 ∧ w.heap.size ≤ p ∧ w.heap.size ≤ bm ∧ w.heap.size ≤ q := by
  rcases s with _ | ⟨p, bm, q⟩
  · exact ⟨newS 1 1, fun p bm q e => by cases e⟩
  · obtain ⟨S, hS⟩ := h.g p bm q rfl
    refine ⟨S, fun p' bm' q' e => ?_⟩
    simp only [Option.some.injEq, Prod.mk.injEq] at e
    obtain ⟨rfl, rfl, rfl⟩ := e
    exact hS
theorem RX.start {y1 y2 : World} (k1 : Below w.heap.size w y1) (k2 : Nw w y1 s1) (k3 : Below (y1.alloc (.cells #[.pointer (pvL s1), .pointer (pvR s1)] 26)).heap.size (y1.alloc (.cells #[.pointer (pvL s1), .pointer (pvR s1)] 26)) y2) (k4 : Nw (y1.alloc (.cells #[.pointer (pvL s1), .pointer (pvR s1)] 26)) y2 s2) :
    RX w ((y2.alloc (.cells #[.pointer (pvL s2), .pointer (pvR s2)] 26)).alloc (.cells #[nilV, nilV, nilV, nilV, .int .i64 0] 32)) y1.heap.size y2.heap.size (y2.heap.size + 1) s1 s2 0 0 := by
  have hn : ∀ g, nilV.ownBlock ≠ some g := fun g e => by simp [Value.ownBlock] at e
  have hb0 := below_alloc y1 (.cells #[.pointer (pvL s1), .pointer (pvR s1)] 26)
  have z0 : (y1.alloc (.cells #[.pointer (pvL s1), .pointer (pvR s1)] 26)).heap.size = y1.heap.size + 1 := by simp
  have hb2 := below_alloc2 y2 (.cells #[.pointer (pvL s2), .pointer (pvR s2)] 26) (.cells #[nilV, nilV, nilV, nilV, .int .i64 0] 32)
  have z2 : (y2.alloc (.cells #[.pointer (pvL s2), .pointer (pvR s2)] 26)).heap.size = y2.heap.size + 1 := by simp
  have hs1 := k1.size
  have hs2 := k3.size
  have hb1 : Below y1.heap.size y1 y2 := hb0.trans (k3.mono hb0.size)
  have hb : Below y1.heap.size y1 ((y2.alloc (.cells #[.pointer (pvL s2), .pointer (pvR s2)] 26)).alloc (.cells #[nilV, nilV, nilV, nilV, .int .i64 0] 32)) := hb1.trans (hb2.mono hb1.size)
  have e1 : y2.heap[y1.heap.size]? = some (.cells #[.pointer (pvL s1), .pointer (pvR s1)] 26 (0, 0)) := (k3.block _ (by omega)).trans (Go.heap_alloc_new y1 _)
  obtain ⟨S1, q1⟩ := k2.lg
  obtain ⟨S2, q2⟩ := k4.lg
  have bx := bx_new (w := w) (x := y2.alloc (.cells #[.pointer (pvL s2), .pointer (pvR s2)] 26)) (A := fun g i => Rm nilV g i ∨ Rm nilV g i) (by rw [z2]; omega)
  rw [z2] at bx
  refine ⟨⟨nilV, nilV, S1, nilV, nilV, S2, ⟨fun p bm q e => ?_, fun p bm q e => ?_, fun g e => (hn g e).elim, fun g e => (hn g e).elim, fun g e => (hn g e).elim, fun g e => (hn g e).elim, bx, fun p bm q p' bm' q' e e' => ?_, fun g e => (hn g e).elim, fun g e => (hn g e).elim, k1.trans (hb.mono k1.size)⟩⟩, (hb2.block _ (Array.getElem?_eq_some_iff.1 e1).1).trans e1, heap_alloc2 y2 _ _⟩
  · obtain ⟨r1, r2, r3, r4, r5, r6, r7, r8⟩ := q1 p bm q e
    refine ⟨⟨r1.below hb, k1.trans (hb.mono k1.size), ?_, r3, r4, r5⟩, r2.below hb, r8, fun g e => (hn g e).elim⟩
    rintro g (rfl | rfl | e)
    · exact r6
    · exact r7
    · exact (hn g e).elim
  · obtain ⟨r1, r2, r3, r4, r5, r6, r7, r8⟩ := q2 p bm q e
    refine ⟨⟨r1.below hb2, k1.trans (hb.mono k1.size), ?_, r3, r4, r5⟩, r2.below hb2, by omega, fun g e => (hn g e).elim⟩
    rintro g (rfl | rfl | e)
    · omega
    · omega
    · exact (hn g e).elim
  · obtain ⟨r1, r2, -⟩ := q1 p bm q e
    obtain ⟨t1, t2, t3, t4, t5, t6, t7, t8⟩ := q2 p' bm' q' e'
    have a1 := r1.lt p (.inl rfl)
    have a2 := r1.lt bm (.inr (.inl rfl))
    have a3 := r2.lt
    exact ⟨by omega, by omega, by omega⟩
end
/-- with the box of the pair that was chosen -/
structure RY (w x : World) (g1 g2 g3 b : Nat) (s1 s2 : Sd) (l r : Option Addr) (c N : Nat) : Prop where
  rx : RX w x g1 g2 b s1 s2 c N
  h3 : x.heap[g3]? = some (.cells #[.pointer l, .pointer r] 26 (0, 0))
section
variable {w x y : World} {g1 g2 g3 b : Nat} {s1 s2 : Sd} {l r : Option Addr} {c N c' N' p bm q : Nat}
theorem RY.below (h : RY w x g1 g2 g3 b s1 s2 l r c N) (hb : Below x.heap.size x y) : RY w y g1 g2 g3 b s1 s2 l r c N := ⟨h.rx.below hb, (hb.block g3 (Array.getElem?_eq_some_iff.1 h.h3).1).trans h.h3⟩
theorem RY.step (h : RY w x g1 g2 g3 b s1 s2 l r c N) (k : Xs w y b c' N' s1 s2) (hk : Pk x y) : RY w y g1 g2 g3 b s1 s2 l r c' N' := ⟨h.rx.step k hk, (hk g3 _ h.h3).trans h.h3⟩
theorem RY.c0 (h : RY w x g1 g2 g3 b s1 s2 l r c N) : x.cell? ⟨g3, 0, none⟩ = some (.pointer l) := by rw [cell_of_row _ _ _ _ _ _ h.h3]; rfl
theorem RY.c1 (h : RY w x g1 g2 g3 b s1 s2 l r c N) : x.cell? ⟨g3, 1, none⟩ = some (.pointer r) := by rw [cell_of_row _ _ _ _ _ _ h.h3]; rfl
theorem RX.box (h : RX w x g1 g2 b s1 s2 c N) (l r : Option Addr) : RY w (x.alloc (.cells #[.pointer l, .pointer r] 26)) g1 g2 x.heap.size b s1 s2 l r c N := ⟨h.below (below_alloc x _), Go.heap_alloc_new x _⟩
theorem RY.moves (h : RY w x g1 g2 g3 b s1 s2 l r c N) (e : s1 = some (p, bm, q) ∨ s2 = some (p, bm, q)) (hN : N ≤ 10000000000000) (hc : c ≤ 4400000000000) (k o1 o2 o3 : Int) (hid : i64ok o2) (told : Bool) : Calls Try.prog 6 #[.agg #[.pointer (some ⟨p, 0, none⟩), .pointer (some ⟨q, 0, none⟩)], .agg #[.int .i64 k, .int .i64 o1, .int .i64 o2, .int .i64 o3], .bool told, .pointer (some ⟨b, 0, none⟩)] x fun e y => e = .returned (.bool true) ∧ RY w y g1 g2 g3 b s1 s2 l r (c + 1) (N + 1) := by
  rcases e with e | e
  · exact (h.rx.xs.moves e hN hc k o1 o2 o3 hid told).mono fun e y k => ⟨k.1, h.step k.2.1 k.2.2⟩
  · exact (h.rx.xs.swap.moves e hN hc k o1 o2 o3 hid told).mono fun e y k => ⟨k.1, h.step k.2.1.swap k.2.2⟩
theorem RY.asks (h : RY w x g1 g2 g3 b s1 s2 l r c N) (e : s1 = some (p, bm, q) ∨ s2 = some (p, bm, q)) (hN : N ≤ 10000000000000) (hc : c ≤ 1000000000) (k o1 o2 o3 : Int) : Calls Try.prog 5 #[.agg #[.pointer (some ⟨p, 0, none⟩), .pointer (some ⟨q, 0, none⟩)], .agg #[.int .i64 k, .int .i64 o1, .int .i64 o2, .int .i64 o3], .pointer (some ⟨b, 0, none⟩)] x fun e y => e = .returned (.bool true) ∧ RY w y g1 g2 g3 b s1 s2 l r (c + 2) N := by
  rcases e with e | e
  · exact (h.rx.xs.asks e hN hc k o1 o2 o3).mono fun e y k => ⟨k.1, h.step k.2.1 k.2.2⟩
  · exact (h.rx.xs.swap.asks e hN hc k o1 o2 o3).mono fun e y k => ⟨k.1, h.step k.2.1.swap k.2.2⟩
theorem RY.holds (h : RY w x g1 g2 g3 b s1 s2 l r c N) (hc : c ≤ 1000000000) : Calls Try.prog 7 #[.pointer (some ⟨b, 0, none⟩)] x fun e y => e = .returned (.bool true) ∧ RX w y g1 g2 b s1 s2 c N :=
  (h.rx.xs.holds hc).mono fun e y k => ⟨k.1, h.rx.step k.2.1 k.2.2⟩
end
set_option maxHeartbeats 8000000 in
theorem exact_law (w : World) (a b a2 b2 : Int) (sv : Value) (os : List OpV) (hs : OSl w sv os) (hn : os.length ≤ 1048576 ∧ ∀ s ∈ os, s.ok) : Calls Try.prog 3 #[.int .i64 a, .int .i64 b, .int .i64 a2, .int .i64 b2, sv] w fun e w' => e = .returned (.bool true) ∧ Below w.heap.size w w' := by
  have HM := hide fun x => makes_any x a b
  have HM2 := hide fun x => makes_any x a2 b2
  have HOS := hide hs
  obtain ⟨hn1, hok⟩ := hn
  obtain ⟨sa, sc, rfl, b1, b2, -⟩ := hs
  have HQ : Hid (∀ x i (hi : i < os.length), Below w.heap.size w x → ∃ g off, sa = some ⟨g, off, none⟩ ∧ (x.cell? ⟨g, off + i * 4, none⟩ = some (.int .i64 os[i].kind) ∧ x.cell? ⟨g, off + i * 4 + 1, none⟩ = some (.int .i64 os[i].of)) ∧ x.cell? ⟨g, off + i * 4 + 2, none⟩ = some (.int .i64 os[i].a) ∧ x.cell? ⟨g, off + i * 4 + 3, none⟩ = some (.int .i64 os[i].b) ∧ i64ok os[i].a) := hide fun x i hi hb => by
    obtain ⟨a9, c9, e9, -, -, hq⟩ := HOS.out.below hb
    simp only [Value.slice.injEq, true_and] at e9
    obtain ⟨rfl, rfl⟩ := e9
    obtain ⟨g, off, e1, hc⟩ := hq (by omega)
    obtain ⟨c1, c2, c3⟩ := hc i hi
    exact ⟨g, off, e1, c1, c2, c3, (hok _ (List.getElem_mem hi)).2.2.1⟩
  clear hok HOS
  go_enter Try.func3, Try.ntmps3
  go_wp2_with (first
    | (go_at_call 4; refine (HM.out _).mono ?_; rintro e y1 ⟨s1, rfl, k1, k2⟩; have K1 := hide k1; have K2 := hide k2; clear k1 k2; obtain ⟨l1, hl1⟩ : ∃ v, pvL s1 = v := ⟨_, rfl⟩; obtain ⟨r1, hr1⟩ : ∃ v, pvR s1 = v := ⟨_, rfl⟩; have HL1 := hide hl1; have HR1 := hide hr1; rw [hl1, hr1]; clear HM hl1 hr1)
    | (go_at_call 4; refine (HM2.out _).mono ?_; rintro e y2 ⟨s2, rfl, k3, k4⟩; have K3 := hide k3; have K4 := hide k4; clear k3 k4; obtain ⟨l2, hl2⟩ : ∃ v, pvL s2 = v := ⟨_, rfl⟩; obtain ⟨r2, hr2⟩ : ∃ v, pvR s2 = v := ⟨_, rfl⟩; have HL2 := hide hl2; have HR2 := hide hr2; rw [hl2, hr2]; clear HM2 hl2 hr2))
  have hX : RX w ((y2.alloc (.cells #[.pointer l2, .pointer r2] 26)).alloc (.cells #[nilV, nilV, nilV, nilV, .int .i64 0] 32)) y1.heap.size y2.heap.size (y2.heap.size + 1) s1 s2 0 0 := by
    rw [← HL2.out, ← HR2.out]
    refine RX.start K1.out K2.out ?_ ?_
    · rw [HL1.out, HR1.out]; exact K3.out
    · rw [HL1.out, HR1.out]; exact K4.out
  have HX0 := hide hX
  clear hX K1 K2 K3 K4
  generalize hg1 : y1.heap.size = g1 at *
  generalize hg2 : y2.heap.size = g2 at *
  clear hg1 hg2
  obtain ⟨y3, hy3⟩ : ∃ y3, ((y2.alloc (.cells #[.pointer l2, .pointer r2] 26)).alloc (.cells #[nilV, nilV, nilV, nilV, .int .i64 0] 32)) = y3 := ⟨_, rfl⟩
  rw [hy3] at HX0 ⊢
  clear hy3
  go_loopw [16] (fun u wr => ∃ i : Nat, i ≤ os.length ∧ u = .int .i64 (i : Int) ∧ Hid (RX w wr g1 g2 (g2 + 1) s1 s2 (3 * i) i)) (fun u _ => os.length - (intOf u).toNat)
  case atStart => exact ⟨0, Nat.zero_le _, rfl, HX0⟩
  case round =>
    clear HX0
    obtain ⟨i, hi, rfl, HX⟩ := hrel
    have d0 := HX.out.a0
    have d1 := HX.out.a1
    have d2 := HX.out.b0
    have d3 := HX.out.b1
    rw [HL1.out] at d0
    rw [HR1.out] at d1
    rw [HL2.out] at d2
    rw [HR2.out] at d3
    by_cases hlt : i < os.length
    · have hli : (i : Int) < (os.length : Int) := by omega
      have HXa := hide (HX.out.below (below_alloc wr (.cells #[.pointer l1, .pointer r1] 26)))
      have e0 := HXa.out.b0
      have e1 := HXa.out.b1
      rw [HL2.out] at e0
      rw [HR2.out] at e1
      obtain ⟨g, off, rfl, ⟨c0, c1⟩, c2, c3, hid⟩ := HQ.out _ i hlt HXa.out.xs.bel
      have HCE : Hid (∀ x, Below w.heap.size w x → x.cell? ⟨g, off + i * 4, none⟩ = some (.int .i64 os[i].kind) ∧ x.cell? ⟨g, off + i * 4 + 1, none⟩ = some (.int .i64 os[i].of) ∧ x.cell? ⟨g, off + i * 4 + 2, none⟩ = some (.int .i64 os[i].a) ∧ x.cell? ⟨g, off + i * 4 + 3, none⟩ = some (.int .i64 os[i].b)) := hide fun x hx => by
        obtain ⟨g', off', e9, ⟨z0, z1⟩, z2, z3, -⟩ := HQ.out x i hlt hx
        simp only [Option.some.injEq, Addr.mk.injEq, and_true] at e9
        obtain ⟨rfl, rfl⟩ := e9
        exact ⟨z0, z1, z2, z3⟩
      clear HQ HXa
      generalize os[i].kind = kk at *
      generalize os[i].of = of at *
      generalize os[i].a = oa at *
      generalize os[i].b = ob at *
      by_cases hpar : (bits BinOp.and IntKind.i64 of 1 == 1) = true
      · have HY := hide ((HX.out.box l2 r2).below (below_drew0 _ 1))
        obtain hsx | ⟨p, bm, q, hsx⟩ : s2 = none ∨ ∃ p bm q, s2 = some (p, bm, q) := by
          rcases s2 with _ | ⟨p, bm, q⟩
          · exact .inl rfl
          · exact .inr ⟨p, bm, q, rfl⟩
        · have hl : l2 = none := by rw [← HL2.out, hsx]; rfl
          subst hl
          go_wp2_with fail
          refine wp_region_any (by kernel_rfl) ?_
          change wpAny _ _ _ _ _ _ _ (World.drew _)
          refine wpAny_take (i := 0) (oi := { dst := some 53, op := Op.fieldAddr 26 (Operand.tmp 17) 0, type := 0, pos := "exact.go:125", after := #[], guard := none }) (v := ?_) rfl (by kernel_rfl) (by kernel_rfl) (by kernel_rfl) (fun _ _ _ h => h) (Or.inl ⟨by rfl, ?_⟩) ?_
          case refine_2 => (intro w; go_simp; try with_reducible rfl)
          try simp only [Act.put, List.setIfInBounds_toArray, List.set_cons_zero, List.set_cons_succ]
          refine wpAny_ready (rs := [1]) (by kernel_rfl) (by simp) ?_
          refine AllReady.cons (o := { dst := some 54, op := Op.load 23 (Operand.tmp 53), type := 23, pos := "exact.go:125", after := #[{ on := 0, ground := Ground.data }], guard := none }) rfl (fun K hK => ?_) AllReady.nil
          go_simp
          refine hK _ _ ?_
          clear hK K
          refine wpAny_take (i := 2) (oi := { dst := some 55, op := Op.binOp BinOp.neq 23 (Operand.tmp 54) (Operand.const (Value.pointer none)) 23, type := 4, pos := "exact.go:125", after := #[{ on := 1, ground := Ground.data }], guard := none }) (v := ?_) rfl (by kernel_rfl) (by kernel_rfl) (by kernel_rfl) (fun _ _ _ h => h) (Or.inl ⟨by rfl, ?_⟩) ?_
          case refine_2 => (intro w; go_simp; try with_reducible rfl)
          try simp only [Act.put, List.setIfInBounds_toArray, List.set_cons_zero, List.set_cons_succ]
          refine wpAny_take (i := 3) (oi := { dst := some 56, op := Op.move (Operand.tmp 55), type := 4, pos := "exact.go:125", after := #[{ on := 2, ground := Ground.data }], guard := none }) (v := ?_) rfl (by kernel_rfl) (by kernel_rfl) (by kernel_rfl) (fun _ _ _ h => h) (Or.inl ⟨by rfl, ?_⟩) ?_
          case refine_2 => (intro w; go_simp; try with_reducible rfl)
          try simp only [Act.put, List.setIfInBounds_toArray, List.set_cons_zero, List.set_cons_succ]
          refine wpAny_take (i := 4) (oi := { dst := some 57, op := Op.load 26 (Operand.tmp 17), type := 26, pos := "exact.go:125", after := #[{ on := 3, ground := Ground.guard }], guard := some (3, true) }) (v := undef) rfl (by kernel_rfl) (by kernel_rfl) (by kernel_rfl) (fun _ _ _ h => h) (Or.inr ⟨by kernel_rfl, rfl⟩) ?_
          try simp only [Act.put, List.setIfInBounds_toArray, List.set_cons_zero, List.set_cons_succ]
          refine wpAny_take (i := 5) (oi := { dst := some 58, op := Op.move (Operand.tmp 4), type := 22, pos := "exact.go:125", after := #[{ on := 3, ground := Ground.guard }], guard := some (3, true) }) (v := undef) rfl (by kernel_rfl) (by kernel_rfl) (by kernel_rfl) (fun _ _ _ h => h) (Or.inr ⟨by kernel_rfl, rfl⟩) ?_
          try simp only [Act.put, List.setIfInBounds_toArray, List.set_cons_zero, List.set_cons_succ]
          refine wpAny_take (i := 6) (oi := { dst := some 59, op := Op.move (Operand.tmp 16), type := 3, pos := "exact.go:125", after := #[{ on := 3, ground := Ground.guard }], guard := some (3, true) }) (v := undef) rfl (by kernel_rfl) (by kernel_rfl) (by kernel_rfl) (fun _ _ _ h => h) (Or.inr ⟨by kernel_rfl, rfl⟩) ?_
          try simp only [Act.put, List.setIfInBounds_toArray, List.set_cons_zero, List.set_cons_succ]
          refine wpAny_take (i := 7) (oi := { dst := some 60, op := Op.indexAddr 22 (Operand.tmp 58) (Operand.tmp 59), type := 0, pos := "exact.go:125", after := #[{ on := 5, ground := Ground.data }, { on := 6, ground := Ground.data }, { on := 3, ground := Ground.guard }], guard := some (3, true) }) (v := undef) rfl (by kernel_rfl) (by kernel_rfl) (by kernel_rfl) (fun _ _ _ h => h) (Or.inr ⟨by kernel_rfl, rfl⟩) ?_
          try simp only [Act.put, List.setIfInBounds_toArray, List.set_cons_zero, List.set_cons_succ]
          refine wpAny_take (i := 8) (oi := { dst := some 61, op := Op.load 34 (Operand.tmp 60), type := 34, pos := "exact.go:125", after := #[{ on := 7, ground := Ground.data }, { on := 3, ground := Ground.guard }], guard := some (3, true) }) (v := undef) rfl (by kernel_rfl) (by kernel_rfl) (by kernel_rfl) (fun _ _ _ h => h) (Or.inr ⟨by kernel_rfl, rfl⟩) ?_
          try simp only [Act.put, List.setIfInBounds_toArray, List.set_cons_zero, List.set_cons_succ]
          refine wpAny_take (i := 9) (oi := { dst := some 62, op := Op.move (Operand.tmp 15), type := 29, pos := "exact.go:125", after := #[{ on := 3, ground := Ground.guard }], guard := some (3, true) }) (v := undef) rfl (by kernel_rfl) (by kernel_rfl) (by kernel_rfl) (fun _ _ _ h => h) (Or.inr ⟨by kernel_rfl, rfl⟩) ?_
          try simp only [Act.put, List.setIfInBounds_toArray, List.set_cons_zero, List.set_cons_succ]
          refine wpAny_take (i := 10) (oi := { dst := some 63, op := Op.call { callee := Callee.value (Operand.func 5), args := #[Operand.tmp 57, Operand.tmp 61, Operand.tmp 62], argTypes := #[26, 34, 29] }, type := 4, pos := "exact.go:125", after := #[{ on := 4, ground := Ground.data }, { on := 8, ground := Ground.data }, { on := 9, ground := Ground.data }, { on := 3, ground := Ground.chain }, { on := 3, ground := Ground.guard }], guard := some (3, true) }) (v := undef) rfl (by kernel_rfl) (by kernel_rfl) (by kernel_rfl) (fun _ _ _ h => h) (Or.inr ⟨by kernel_rfl, rfl⟩) ?_
          try simp only [Act.put, List.setIfInBounds_toArray, List.set_cons_zero, List.set_cons_succ]
          refine wpAny_take (i := 11) (oi := { dst := some 64, op := Op.unOp UnOp.not 4 (Operand.tmp 63), type := 4, pos := "exact.go:125", after := #[{ on := 10, ground := Ground.data }, { on := 3, ground := Ground.guard }], guard := some (3, true) }) (v := undef) rfl (by kernel_rfl) (by kernel_rfl) (by kernel_rfl) (fun _ _ _ h => h) (Or.inr ⟨by kernel_rfl, rfl⟩) ?_
          try simp only [Act.put, List.setIfInBounds_toArray, List.set_cons_zero, List.set_cons_succ]
          refine wpAny_take (i := 12) (oi := { dst := some 65, op := Op.move (Operand.tmp 64), type := 4, pos := "exact.go:125", after := #[{ on := 11, ground := Ground.data }, { on := 10, ground := Ground.chain }, { on := 3, ground := Ground.guard }], guard := some (3, true) }) (v := undef) rfl (by kernel_rfl) (by kernel_rfl) (by kernel_rfl) (fun _ _ _ h => h) (Or.inr ⟨by kernel_rfl, rfl⟩) ?_
          try simp only [Act.put, List.setIfInBounds_toArray, List.set_cons_zero, List.set_cons_succ]
          refine wpAny_take (i := 13) (oi := { dst := some 66, op := Op.load 26 (Operand.tmp 17), type := 26, pos := "exact.go:125", after := #[{ on := 12, ground := Ground.guard }], guard := some (12, false) }) (v := undef) rfl (by kernel_rfl) (by kernel_rfl) (by kernel_rfl) (fun _ _ _ h => h) (Or.inr ⟨by kernel_rfl, rfl⟩) ?_
          try simp only [Act.put, List.setIfInBounds_toArray, List.set_cons_zero, List.set_cons_succ]
          refine wpAny_take (i := 14) (oi := { dst := some 67, op := Op.move (Operand.tmp 4), type := 22, pos := "exact.go:125", after := #[{ on := 12, ground := Ground.guard }], guard := some (12, false) }) (v := undef) rfl (by kernel_rfl) (by kernel_rfl) (by kernel_rfl) (fun _ _ _ h => h) (Or.inr ⟨by kernel_rfl, rfl⟩) ?_
          try simp only [Act.put, List.setIfInBounds_toArray, List.set_cons_zero, List.set_cons_succ]
          refine wpAny_take (i := 15) (oi := { dst := some 68, op := Op.move (Operand.tmp 16), type := 3, pos := "exact.go:125", after := #[{ on := 12, ground := Ground.guard }], guard := some (12, false) }) (v := undef) rfl (by kernel_rfl) (by kernel_rfl) (by kernel_rfl) (fun _ _ _ h => h) (Or.inr ⟨by kernel_rfl, rfl⟩) ?_
          try simp only [Act.put, List.setIfInBounds_toArray, List.set_cons_zero, List.set_cons_succ]
          refine wpAny_take (i := 16) (oi := { dst := some 69, op := Op.indexAddr 22 (Operand.tmp 67) (Operand.tmp 68), type := 0, pos := "exact.go:125", after := #[{ on := 14, ground := Ground.data }, { on := 15, ground := Ground.data }, { on := 12, ground := Ground.guard }], guard := some (12, false) }) (v := undef) rfl (by kernel_rfl) (by kernel_rfl) (by kernel_rfl) (fun _ _ _ h => h) (Or.inr ⟨by kernel_rfl, rfl⟩) ?_
          try simp only [Act.put, List.setIfInBounds_toArray, List.set_cons_zero, List.set_cons_succ]
          refine wpAny_take (i := 17) (oi := { dst := some 70, op := Op.load 34 (Operand.tmp 69), type := 34, pos := "exact.go:125", after := #[{ on := 16, ground := Ground.data }, { on := 12, ground := Ground.guard }], guard := some (12, false) }) (v := undef) rfl (by kernel_rfl) (by kernel_rfl) (by kernel_rfl) (fun _ _ _ h => h) (Or.inr ⟨by kernel_rfl, rfl⟩) ?_
          try simp only [Act.put, List.setIfInBounds_toArray, List.set_cons_zero, List.set_cons_succ]
          refine wpAny_take (i := 18) (oi := { dst := some 71, op := Op.move (Operand.tmp 15), type := 29, pos := "exact.go:125", after := #[{ on := 12, ground := Ground.guard }], guard := some (12, false) }) (v := undef) rfl (by kernel_rfl) (by kernel_rfl) (by kernel_rfl) (fun _ _ _ h => h) (Or.inr ⟨by kernel_rfl, rfl⟩) ?_
          try simp only [Act.put, List.setIfInBounds_toArray, List.set_cons_zero, List.set_cons_succ]
          refine wpAny_take (i := 19) (oi := { dst := some 72, op := Op.call { callee := Callee.value (Operand.func 6), args := #[Operand.tmp 66, Operand.tmp 70, Operand.const (Value.bool true), Operand.tmp 71], argTypes := #[26, 34, 4, 29] }, type := 4, pos := "exact.go:125", after := #[{ on := 13, ground := Ground.data }, { on := 17, ground := Ground.data }, { on := 18, ground := Ground.data }, { on := 12, ground := Ground.chain }, { on := 12, ground := Ground.guard }], guard := some (12, false) }) (v := undef) rfl (by kernel_rfl) (by kernel_rfl) (by kernel_rfl) (fun _ _ _ h => h) (Or.inr ⟨by kernel_rfl, rfl⟩) ?_
          try simp only [Act.put, List.setIfInBounds_toArray, List.set_cons_zero, List.set_cons_succ]
          refine wpAny_take (i := 20) (oi := { dst := some 73, op := Op.unOp UnOp.not 4 (Operand.tmp 72), type := 4, pos := "exact.go:125", after := #[{ on := 19, ground := Ground.data }, { on := 12, ground := Ground.guard }], guard := some (12, false) }) (v := undef) rfl (by kernel_rfl) (by kernel_rfl) (by kernel_rfl) (fun _ _ _ h => h) (Or.inr ⟨by kernel_rfl, rfl⟩) ?_
          try simp only [Act.put, List.setIfInBounds_toArray, List.set_cons_zero, List.set_cons_succ]
          refine wpAny_take (i := 21) (oi := { dst := some 74, op := Op.pick (Operand.tmp 65) (Operand.const (Value.bool true)) (Operand.tmp 73), type := 4, pos := "exact.go:125", after := #[{ on := 12, ground := Ground.data }, { on := 20, ground := Ground.data }, { on := 3, ground := Ground.guard }], guard := some (3, true) }) (v := undef) rfl (by kernel_rfl) (by kernel_rfl) (by kernel_rfl) (fun _ _ _ h => h) (Or.inr ⟨by kernel_rfl, rfl⟩) ?_
          try simp only [Act.put, List.setIfInBounds_toArray, List.set_cons_zero, List.set_cons_succ]
          refine wpAny_take (i := 22) (oi := { dst := some 75, op := Op.pick (Operand.tmp 56) (Operand.tmp 74) (Operand.const (Value.bool false)), type := 4, pos := "exact.go:125", after := #[{ on := 3, ground := Ground.data }, { on := 21, ground := Ground.data }], guard := none }) (v := ?_) rfl (by kernel_rfl) (by kernel_rfl) (by kernel_rfl) (fun _ _ _ h => h) (Or.inl ⟨by rfl, ?_⟩) ?_
          case refine_2 => (intro w; go_simp; try with_reducible rfl)
          try simp only [Act.put, List.setIfInBounds_toArray, List.set_cons_zero, List.set_cons_succ]
          refine wpAny_done (by kernel_rfl) ?_ _
          all_goals
            go_wp2_with (go_at_call 7; refine (HY.out.holds (by omega)).mono ?_; rintro e y5 ⟨rfl, k⟩; have HX1 := hide (k.more (show 3 * i ≤ 3 * (i + 1) by omega) (Nat.le_succ i)); clear k)
            go_roundw
            case rel => exact ⟨i + 1, by omega, by go_num, HX1⟩
            case measure => simp [intOf]; omega
        · have hl : l2 = some ⟨p, 0, none⟩ := by rw [← HL2.out, hsx]; rfl
          have hr : r2 = some ⟨q, 0, none⟩ := by rw [← HR2.out, hsx]; rfl
          subst hl
          subst hr
          obtain ⟨m0, m1, m2, m3⟩ := HCE.out _ (HX.out.box (some ⟨p, 0, none⟩) (some ⟨q, 0, none⟩)).rx.xs.bel
          have HC := hide fun x (hx : RY w x g1 g2 wr.heap.size (g2 + 1) s1 s2 (some ⟨p, 0, none⟩) (some ⟨q, 0, none⟩) (3 * i) i) => hx.asks (Or.inr hsx) (by omega) (by omega) kk of oa ob
          have HD := hide fun x (hx : RY w x g1 g2 wr.heap.size (g2 + 1) s1 s2 (some ⟨p, 0, none⟩) (some ⟨q, 0, none⟩) (3 * i + 2) i) => hx.moves (Or.inr hsx) (by omega) (by omega) kk of oa ob hid true
          go_wp2_with fail
          go_region_law (first
            | (refine step_callW (by kernel_rfl) 5 #[.agg #[.pointer (some ⟨p, 0, none⟩), .pointer (some ⟨q, 0, none⟩)], .agg #[.int .i64 kk, .int .i64 of, .int .i64 oa, .int .i64 ob], .pointer (some ⟨g2 + 1, 0, none⟩)] (by kernel_rfl) (HC.out _ HY.out) (fun e w' h => ⟨_, h.1⟩) ?_; rintro u3 y3 ⟨hv, k⟩; injection hv with hv; subst hv; have HY1 := hide k; have f0 := k.c0; have f1 := k.c1; obtain ⟨x0, x1, x2, x3⟩ := HCE.out _ k.rx.xs.bel; clear k)
            | (refine step_callW (by kernel_rfl) 6 #[.agg #[.pointer (some ⟨p, 0, none⟩), .pointer (some ⟨q, 0, none⟩)], .agg #[.int .i64 kk, .int .i64 of, .int .i64 oa, .int .i64 ob], .bool true, .pointer (some ⟨g2 + 1, 0, none⟩)] (by kernel_rfl) (HD.out _ HY1.out) (fun e w' h => ⟨_, h.1⟩) ?_; rintro u4 y4 ⟨hv, k⟩; injection hv with hv; subst hv; have HY2 := hide k; clear k))
          all_goals
            go_wp2_with (go_at_call 7; refine (HY2.out.holds (by omega)).mono ?_; rintro e y5 ⟨rfl, k⟩; have HX1 := hide k; clear k)
            go_roundw
            case rel => exact ⟨i + 1, by omega, by go_num, HX1⟩
            case measure => simp [intOf]; omega
      · have hpf : (bits BinOp.and IntKind.i64 of 1 == 1) = false := by simpa using hpar
        have HY := hide ((HX.out.box l1 r1).below (below_drew0 _ 1))
        obtain hsx | ⟨p, bm, q, hsx⟩ : s1 = none ∨ ∃ p bm q, s1 = some (p, bm, q) := by
          rcases s1 with _ | ⟨p, bm, q⟩
          · exact .inl rfl
          · exact .inr ⟨p, bm, q, rfl⟩
        · have hl : l1 = none := by rw [← HL1.out, hsx]; rfl
          subst hl
          go_wp2_with fail
          refine wp_region_any (by kernel_rfl) ?_
          change wpAny _ _ _ _ _ _ _ (World.drew _)
          refine wpAny_take (i := 0) (oi := { dst := some 53, op := Op.fieldAddr 26 (Operand.tmp 17) 0, type := 0, pos := "exact.go:125", after := #[], guard := none }) (v := ?_) rfl (by kernel_rfl) (by kernel_rfl) (by kernel_rfl) (fun _ _ _ h => h) (Or.inl ⟨by rfl, ?_⟩) ?_
          case refine_2 => (intro w; go_simp; try with_reducible rfl)
          try simp only [Act.put, List.setIfInBounds_toArray, List.set_cons_zero, List.set_cons_succ]
          refine wpAny_ready (rs := [1]) (by kernel_rfl) (by simp) ?_
          refine AllReady.cons (o := { dst := some 54, op := Op.load 23 (Operand.tmp 53), type := 23, pos := "exact.go:125", after := #[{ on := 0, ground := Ground.data }], guard := none }) rfl (fun K hK => ?_) AllReady.nil
          go_simp
          refine hK _ _ ?_
          clear hK K
          refine wpAny_take (i := 2) (oi := { dst := some 55, op := Op.binOp BinOp.neq 23 (Operand.tmp 54) (Operand.const (Value.pointer none)) 23, type := 4, pos := "exact.go:125", after := #[{ on := 1, ground := Ground.data }], guard := none }) (v := ?_) rfl (by kernel_rfl) (by kernel_rfl) (by kernel_rfl) (fun _ _ _ h => h) (Or.inl ⟨by rfl, ?_⟩) ?_
          case refine_2 => (intro w; go_simp; try with_reducible rfl)
          try simp only [Act.put, List.setIfInBounds_toArray, List.set_cons_zero, List.set_cons_succ]
          refine wpAny_take (i := 3) (oi := { dst := some 56, op := Op.move (Operand.tmp 55), type := 4, pos := "exact.go:125", after := #[{ on := 2, ground := Ground.data }], guard := none }) (v := ?_) rfl (by kernel_rfl) (by kernel_rfl) (by kernel_rfl) (fun _ _ _ h => h) (Or.inl ⟨by rfl, ?_⟩) ?_
          case refine_2 => (intro w; go_simp; try with_reducible rfl)
          try simp only [Act.put, List.setIfInBounds_toArray, List.set_cons_zero, List.set_cons_succ]
          refine wpAny_take (i := 4) (oi := { dst := some 57, op := Op.load 26 (Operand.tmp 17), type := 26, pos := "exact.go:125", after := #[{ on := 3, ground := Ground.guard }], guard := some (3, true) }) (v := undef) rfl (by kernel_rfl) (by kernel_rfl) (by kernel_rfl) (fun _ _ _ h => h) (Or.inr ⟨by kernel_rfl, rfl⟩) ?_
          try simp only [Act.put, List.setIfInBounds_toArray, List.set_cons_zero, List.set_cons_succ]
          refine wpAny_take (i := 5) (oi := { dst := some 58, op := Op.move (Operand.tmp 4), type := 22, pos := "exact.go:125", after := #[{ on := 3, ground := Ground.guard }], guard := some (3, true) }) (v := undef) rfl (by kernel_rfl) (by kernel_rfl) (by kernel_rfl) (fun _ _ _ h => h) (Or.inr ⟨by kernel_rfl, rfl⟩) ?_
          try simp only [Act.put, List.setIfInBounds_toArray, List.set_cons_zero, List.set_cons_succ]
          refine wpAny_take (i := 6) (oi := { dst := some 59, op := Op.move (Operand.tmp 16), type := 3, pos := "exact.go:125", after := #[{ on := 3, ground := Ground.guard }], guard := some (3, true) }) (v := undef) rfl (by kernel_rfl) (by kernel_rfl) (by kernel_rfl) (fun _ _ _ h => h) (Or.inr ⟨by kernel_rfl, rfl⟩) ?_
          try simp only [Act.put, List.setIfInBounds_toArray, List.set_cons_zero, List.set_cons_succ]
          refine wpAny_take (i := 7) (oi := { dst := some 60, op := Op.indexAddr 22 (Operand.tmp 58) (Operand.tmp 59), type := 0, pos := "exact.go:125", after := #[{ on := 5, ground := Ground.data }, { on := 6, ground := Ground.data }, { on := 3, ground := Ground.guard }], guard := some (3, true) }) (v := undef) rfl (by kernel_rfl) (by kernel_rfl) (by kernel_rfl) (fun _ _ _ h => h) (Or.inr ⟨by kernel_rfl, rfl⟩) ?_
          try simp only [Act.put, List.setIfInBounds_toArray, List.set_cons_zero, List.set_cons_succ]
          refine wpAny_take (i := 8) (oi := { dst := some 61, op := Op.load 34 (Operand.tmp 60), type := 34, pos := "exact.go:125", after := #[{ on := 7, ground := Ground.data }, { on := 3, ground := Ground.guard }], guard := some (3, true) }) (v := undef) rfl (by kernel_rfl) (by kernel_rfl) (by kernel_rfl) (fun _ _ _ h => h) (Or.inr ⟨by kernel_rfl, rfl⟩) ?_
          try simp only [Act.put, List.setIfInBounds_toArray, List.set_cons_zero, List.set_cons_succ]
          refine wpAny_take (i := 9) (oi := { dst := some 62, op := Op.move (Operand.tmp 15), type := 29, pos := "exact.go:125", after := #[{ on := 3, ground := Ground.guard }], guard := some (3, true) }) (v := undef) rfl (by kernel_rfl) (by kernel_rfl) (by kernel_rfl) (fun _ _ _ h => h) (Or.inr ⟨by kernel_rfl, rfl⟩) ?_
          try simp only [Act.put, List.setIfInBounds_toArray, List.set_cons_zero, List.set_cons_succ]
          refine wpAny_take (i := 10) (oi := { dst := some 63, op := Op.call { callee := Callee.value (Operand.func 5), args := #[Operand.tmp 57, Operand.tmp 61, Operand.tmp 62], argTypes := #[26, 34, 29] }, type := 4, pos := "exact.go:125", after := #[{ on := 4, ground := Ground.data }, { on := 8, ground := Ground.data }, { on := 9, ground := Ground.data }, { on := 3, ground := Ground.chain }, { on := 3, ground := Ground.guard }], guard := some (3, true) }) (v := undef) rfl (by kernel_rfl) (by kernel_rfl) (by kernel_rfl) (fun _ _ _ h => h) (Or.inr ⟨by kernel_rfl, rfl⟩) ?_
          try simp only [Act.put, List.setIfInBounds_toArray, List.set_cons_zero, List.set_cons_succ]
          refine wpAny_take (i := 11) (oi := { dst := some 64, op := Op.unOp UnOp.not 4 (Operand.tmp 63), type := 4, pos := "exact.go:125", after := #[{ on := 10, ground := Ground.data }, { on := 3, ground := Ground.guard }], guard := some (3, true) }) (v := undef) rfl (by kernel_rfl) (by kernel_rfl) (by kernel_rfl) (fun _ _ _ h => h) (Or.inr ⟨by kernel_rfl, rfl⟩) ?_
          try simp only [Act.put, List.setIfInBounds_toArray, List.set_cons_zero, List.set_cons_succ]
          refine wpAny_take (i := 12) (oi := { dst := some 65, op := Op.move (Operand.tmp 64), type := 4, pos := "exact.go:125", after := #[{ on := 11, ground := Ground.data }, { on := 10, ground := Ground.chain }, { on := 3, ground := Ground.guard }], guard := some (3, true) }) (v := undef) rfl (by kernel_rfl) (by kernel_rfl) (by kernel_rfl) (fun _ _ _ h => h) (Or.inr ⟨by kernel_rfl, rfl⟩) ?_
          try simp only [Act.put, List.setIfInBounds_toArray, List.set_cons_zero, List.set_cons_succ]
          refine wpAny_take (i := 13) (oi := { dst := some 66, op := Op.load 26 (Operand.tmp 17), type := 26, pos := "exact.go:125", after := #[{ on := 12, ground := Ground.guard }], guard := some (12, false) }) (v := undef) rfl (by kernel_rfl) (by kernel_rfl) (by kernel_rfl) (fun _ _ _ h => h) (Or.inr ⟨by kernel_rfl, rfl⟩) ?_
          try simp only [Act.put, List.setIfInBounds_toArray, List.set_cons_zero, List.set_cons_succ]
          refine wpAny_take (i := 14) (oi := { dst := some 67, op := Op.move (Operand.tmp 4), type := 22, pos := "exact.go:125", after := #[{ on := 12, ground := Ground.guard }], guard := some (12, false) }) (v := undef) rfl (by kernel_rfl) (by kernel_rfl) (by kernel_rfl) (fun _ _ _ h => h) (Or.inr ⟨by kernel_rfl, rfl⟩) ?_
          try simp only [Act.put, List.setIfInBounds_toArray, List.set_cons_zero, List.set_cons_succ]
          refine wpAny_take (i := 15) (oi := { dst := some 68, op := Op.move (Operand.tmp 16), type := 3, pos := "exact.go:125", after := #[{ on := 12, ground := Ground.guard }], guard := some (12, false) }) (v := undef) rfl (by kernel_rfl) (by kernel_rfl) (by kernel_rfl) (fun _ _ _ h => h) (Or.inr ⟨by kernel_rfl, rfl⟩) ?_
          try simp only [Act.put, List.setIfInBounds_toArray, List.set_cons_zero, List.set_cons_succ]
          refine wpAny_take (i := 16) (oi := { dst := some 69, op := Op.indexAddr 22 (Operand.tmp 67) (Operand.tmp 68), type := 0, pos := "exact.go:125", after := #[{ on := 14, ground := Ground.data }, { on := 15, ground := Ground.data }, { on := 12, ground := Ground.guard }], guard := some (12, false) }) (v := undef) rfl (by kernel_rfl) (by kernel_rfl) (by kernel_rfl) (fun _ _ _ h => h) (Or.inr ⟨by kernel_rfl, rfl⟩) ?_
          try simp only [Act.put, List.setIfInBounds_toArray, List.set_cons_zero, List.set_cons_succ]
          refine wpAny_take (i := 17) (oi := { dst := some 70, op := Op.load 34 (Operand.tmp 69), type := 34, pos := "exact.go:125", after := #[{ on := 16, ground := Ground.data }, { on := 12, ground := Ground.guard }], guard := some (12, false) }) (v := undef) rfl (by kernel_rfl) (by kernel_rfl) (by kernel_rfl) (fun _ _ _ h => h) (Or.inr ⟨by kernel_rfl, rfl⟩) ?_
          try simp only [Act.put, List.setIfInBounds_toArray, List.set_cons_zero, List.set_cons_succ]
          refine wpAny_take (i := 18) (oi := { dst := some 71, op := Op.move (Operand.tmp 15), type := 29, pos := "exact.go:125", after := #[{ on := 12, ground := Ground.guard }], guard := some (12, false) }) (v := undef) rfl (by kernel_rfl) (by kernel_rfl) (by kernel_rfl) (fun _ _ _ h => h) (Or.inr ⟨by kernel_rfl, rfl⟩) ?_
          try simp only [Act.put, List.setIfInBounds_toArray, List.set_cons_zero, List.set_cons_succ]
          refine wpAny_take (i := 19) (oi := { dst := some 72, op := Op.call { callee := Callee.value (Operand.func 6), args := #[Operand.tmp 66, Operand.tmp 70, Operand.const (Value.bool true), Operand.tmp 71], argTypes := #[26, 34, 4, 29] }, type := 4, pos := "exact.go:125", after := #[{ on := 13, ground := Ground.data }, { on := 17, ground := Ground.data }, { on := 18, ground := Ground.data }, { on := 12, ground := Ground.chain }, { on := 12, ground := Ground.guard }], guard := some (12, false) }) (v := undef) rfl (by kernel_rfl) (by kernel_rfl) (by kernel_rfl) (fun _ _ _ h => h) (Or.inr ⟨by kernel_rfl, rfl⟩) ?_
          try simp only [Act.put, List.setIfInBounds_toArray, List.set_cons_zero, List.set_cons_succ]
          refine wpAny_take (i := 20) (oi := { dst := some 73, op := Op.unOp UnOp.not 4 (Operand.tmp 72), type := 4, pos := "exact.go:125", after := #[{ on := 19, ground := Ground.data }, { on := 12, ground := Ground.guard }], guard := some (12, false) }) (v := undef) rfl (by kernel_rfl) (by kernel_rfl) (by kernel_rfl) (fun _ _ _ h => h) (Or.inr ⟨by kernel_rfl, rfl⟩) ?_
          try simp only [Act.put, List.setIfInBounds_toArray, List.set_cons_zero, List.set_cons_succ]
          refine wpAny_take (i := 21) (oi := { dst := some 74, op := Op.pick (Operand.tmp 65) (Operand.const (Value.bool true)) (Operand.tmp 73), type := 4, pos := "exact.go:125", after := #[{ on := 12, ground := Ground.data }, { on := 20, ground := Ground.data }, { on := 3, ground := Ground.guard }], guard := some (3, true) }) (v := undef) rfl (by kernel_rfl) (by kernel_rfl) (by kernel_rfl) (fun _ _ _ h => h) (Or.inr ⟨by kernel_rfl, rfl⟩) ?_
          try simp only [Act.put, List.setIfInBounds_toArray, List.set_cons_zero, List.set_cons_succ]
          refine wpAny_take (i := 22) (oi := { dst := some 75, op := Op.pick (Operand.tmp 56) (Operand.tmp 74) (Operand.const (Value.bool false)), type := 4, pos := "exact.go:125", after := #[{ on := 3, ground := Ground.data }, { on := 21, ground := Ground.data }], guard := none }) (v := ?_) rfl (by kernel_rfl) (by kernel_rfl) (by kernel_rfl) (fun _ _ _ h => h) (Or.inl ⟨by rfl, ?_⟩) ?_
          case refine_2 => (intro w; go_simp; try with_reducible rfl)
          try simp only [Act.put, List.setIfInBounds_toArray, List.set_cons_zero, List.set_cons_succ]
          refine wpAny_done (by kernel_rfl) ?_ _
          all_goals
            go_wp2_with (go_at_call 7; refine (HY.out.holds (by omega)).mono ?_; rintro e y5 ⟨rfl, k⟩; have HX1 := hide (k.more (show 3 * i ≤ 3 * (i + 1) by omega) (Nat.le_succ i)); clear k)
            go_roundw
            case rel => exact ⟨i + 1, by omega, by go_num, HX1⟩
            case measure => simp [intOf]; omega
        · have hl : l1 = some ⟨p, 0, none⟩ := by rw [← HL1.out, hsx]; rfl
          have hr : r1 = some ⟨q, 0, none⟩ := by rw [← HR1.out, hsx]; rfl
          subst hl
          subst hr
          obtain ⟨m0, m1, m2, m3⟩ := HCE.out _ (HX.out.box (some ⟨p, 0, none⟩) (some ⟨q, 0, none⟩)).rx.xs.bel
          have HC := hide fun x (hx : RY w x g1 g2 wr.heap.size (g2 + 1) s1 s2 (some ⟨p, 0, none⟩) (some ⟨q, 0, none⟩) (3 * i) i) => hx.asks (Or.inl hsx) (by omega) (by omega) kk of oa ob
          have HD := hide fun x (hx : RY w x g1 g2 wr.heap.size (g2 + 1) s1 s2 (some ⟨p, 0, none⟩) (some ⟨q, 0, none⟩) (3 * i + 2) i) => hx.moves (Or.inl hsx) (by omega) (by omega) kk of oa ob hid true
          go_wp2_with fail
          go_region_law (first
            | (refine step_callW (by kernel_rfl) 5 #[.agg #[.pointer (some ⟨p, 0, none⟩), .pointer (some ⟨q, 0, none⟩)], .agg #[.int .i64 kk, .int .i64 of, .int .i64 oa, .int .i64 ob], .pointer (some ⟨g2 + 1, 0, none⟩)] (by kernel_rfl) (HC.out _ HY.out) (fun e w' h => ⟨_, h.1⟩) ?_; rintro u3 y3 ⟨hv, k⟩; injection hv with hv; subst hv; have HY1 := hide k; have f0 := k.c0; have f1 := k.c1; obtain ⟨x0, x1, x2, x3⟩ := HCE.out _ k.rx.xs.bel; clear k)
            | (refine step_callW (by kernel_rfl) 6 #[.agg #[.pointer (some ⟨p, 0, none⟩), .pointer (some ⟨q, 0, none⟩)], .agg #[.int .i64 kk, .int .i64 of, .int .i64 oa, .int .i64 ob], .bool true, .pointer (some ⟨g2 + 1, 0, none⟩)] (by kernel_rfl) (HD.out _ HY1.out) (fun e w' h => ⟨_, h.1⟩) ?_; rintro u4 y4 ⟨hv, k⟩; injection hv with hv; subst hv; have HY2 := hide k; clear k))
          all_goals
            go_wp2_with (go_at_call 7; refine (HY2.out.holds (by omega)).mono ?_; rintro e y5 ⟨rfl, k⟩; have HX1 := hide k; clear k)
            go_roundw
            case rel => exact ⟨i + 1, by omega, by go_num, HX1⟩
            case measure => simp [intOf]; omega
    · have hli : ¬ (i : Int) < (os.length : Int) := by omega
      clear HQ
      go_wp2_with fail
      go_ret
      exact ⟨rfl, HX.out.xs.bel⟩
end Go.Proofs.Ytcdmkbjibcahcab
