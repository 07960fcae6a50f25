import Derived.Test.YtcdmkbjibcahcaaTR3
import Derived.Test.YtcdmkbjibcahcaaTFl0
namespace Go.Proofs.Ytcdmkbjibcahcaa
open Go.RowKit
set_option linter.unusedVariables false
set_option linter.unusedSimpArgs false
set_option maxRecDepth 20000

/-- a list of numbers, the law's own -/
def IRow (w : World) (v : Value) (l : List Int) : Prop := w.ownsRow 0 3 1 v l.length (l.map fun z => Value.int .i64 z)
theorem IRow.kept {w w' : World} {v : Value} {l : List Int} (h : IRow w v l) (hk : ∀ g, v.ownBlock = some g → w'.heap[g]? = w.heap[g]?) : IRow w' v l := rowKept h hk
theorem IRow.lt {w : World} {v : Value} {l : List Int} (h : IRow w v l) {g : Nat} (hg : v.ownBlock = some g) : g < w.heap.size := (World.ownsRow.lt h g hg).2
theorem IRow.cell {w : World} {v : Value} {l : List Int} (h : IRow w v l) {j : Nat} (hj : j < l.length) : ∃ g cap, v = .slice (some ⟨g, 0, none⟩) l.length cap ∧ l.length ≤ cap ∧ cap ≤ maxLen ∧ w.cell? ⟨g, j, none⟩ = some (.int .i64 (l.getD j 0)) := by
  have h' : w.ownsRow 0 3 1 v l.length (l.map fun z => Value.int .i64 z) := h
  have h2 := h'
  rcases h'.2 with ⟨_, e⟩ | ⟨g, cap, cur, rfl, _, hg, q1, q2, _⟩
  · omega
  · refine ⟨g, cap, rfl, q1, q2, ?_⟩
    rw [h2.cellAt j (by simpa using hj)]
    simp [List.getD, hj]
theorem IRow.form {w : World} {v : Value} {l : List Int} (h : IRow w v l) : ∃ a cap, v = .slice a l.length cap ∧ l.length ≤ cap ∧ cap ≤ maxLen := rowForm h
theorem Try.infoIn : (Try.prog.info? 3).map (fun i => (i.zero, i.size, i.bytes)) = some (some (.int .i64 0), 1, 8) := by kernel_rfl
theorem infoI : ∃ i, Try.prog.info? 3 = some i ∧ i.zero = some (.int .i64 0) ∧ i.size = 1 ∧ i.bytes = 8 := by
  have h := Try.infoIn
  cases hi : Try.prog.info? 3 with
  | none => rw [hi] at h; simp at h
  | some i => rw [hi] at h; simp at h; exact ⟨i, rfl, h.1, h.2.1, h.2.2⟩
/-- a log and a list of numbers beside it -/
structure RS (w x : World) (p bm : Nat) (v : Value) (S : LS) (N : Nat) (sv : Value) (l : List Int) : Prop where
  al : AL w x p bm v S N
  lst : IRow x sv l
  own : ∀ g, sv.ownBlock = some g → w.heap.size ≤ g
  ap : ∀ g, sv.ownBlock = some g → ¬ LU p bm v g
section
variable {w x y z : World} {p bm : Nat} {v v' sv sv' : Value} {S S' : LS} {N N' : Nat} {l l' : List Int}
theorem RS.move (h : RS w x p bm v S N sv l) (a : AL w y p bm v' S' N') (m : Mv x y p bm v v') : RS w y p bm v' S' N' sv l :=
  ⟨a, h.lst.kept fun g e => m.chg.keep g (h.lst.lt e) (h.ap g e), h.own, fun g e hu => by
    rcases m.loc g hu with q | q
    · exact h.ap g e q
    · have := h.lst.lt e; omega⟩
theorem RS.below (h : RS w x p bm v S N sv l) (hb : Below x.heap.size x y) : RS w y p bm v S N sv l := h.move (h.al.below hb) (Mv.ofBelow hb)
theorem RS.more (h : RS w x p bm v S N sv l) (hn : N ≤ N') : RS w x p bm v S N' sv l := ⟨h.al.more hn, h.lst, h.own, h.ap⟩
theorem RS.app (h : RS w x p bm v S N sv l) (hx : Below x.heap.size x z) (hu : Upon z y sv sv') (he : IRow y sv' l') : RS w y p bm v S N sv' l' := by
  have h2 := h.below hx
  have hlt := h2.al.rep.lt
  have hc : Chg (fun g => sv.ownBlock = some g) z y := ⟨hu.same.1, hu.same.2.1, hu.same.2.2, hu.size, fun g hg hn => hu.block g hg hn⟩
  refine ⟨⟨h2.al.rep.kept fun g e => hc.keep g (hlt g e) fun q => h2.ap g q e, h2.al.bel.trans (hc.below h2.al.bel.size h2.own), h2.al.own, h2.al.ok, h2.al.nw, h2.al.tot⟩, he, fun g e => ?_, fun g e q => ?_⟩
  · rcases hu.loc g e with q | q
    · exact h2.own g q
    · rw [q]; exact h2.al.bel.size
  · rcases hu.loc g e with q2 | q2
    · exact h2.ap g q2 q
    · have := hlt g q; omega
theorem RS.one (h : AL w x p bm v S N) : RS w (x.alloc (.cells #[.int .i64 0] 3)) p bm v S N (.slice (some ⟨x.heap.size, 0, none⟩) 1 1) [0] := by
  refine ⟨h.below (below_alloc x _), ⟨rfl, .inr ⟨x.heap.size, 1, #[.int .i64 0], rfl, Nat.zero_le _, Go.heap_alloc_new x _, Nat.le_refl _, by unfold maxLen; omega, rfl, rfl⟩⟩, fun g e => ?_, fun g e q => ?_⟩
  · simp [Value.ownBlock] at e; rw [← e]; exact h.bel.size
  · simp [Value.ownBlock] at e; have := h.rep.lt g q; omega
end
/-- the law's book: which epochs have left, which are closed, how many writes each had -/
structure Sz (S : LS) (lf sh : Nat) (sz : List Int) : Prop where
  nw : S.now = sh + 1
  old : oldE S = (lf : Int) + 1
  len : sz.length = sh + 1
  le : lf ≤ sh
  cnt : ∀ e : Nat, lf < e → e ≤ sh → sz.getD e 0 = (S.eps.count (e : Int) : Int)
theorem Sz.new (lim ep : Nat) : Sz (newS lim ep) 0 0 [0] := ⟨rfl, rfl, rfl, Nat.le_refl _, fun e h1 h2 => by omega⟩
theorem Sz.fail (S : LS) : Sz (failS S) 0 0 [0] := ⟨rfl, by rw [old_nil (failS_es S)]; rfl, rfl, Nat.le_refl _, fun e h1 h2 => by omega⟩
theorem Sz.add {S : LS} {lf sh : Nat} {sz : List Int} (h : Sz S lf sh sz) (oa ob : Int) (ho : oldE (addS S oa ob) = oldE S) : Sz (addS S oa ob) lf sh sz :=
  ⟨h.nw, by rw [ho]; exact h.old, h.len, h.le, fun e h1 h2 => by
    have hz : List.count (e : Int) [((sh + 1 : Nat) : Int)] = 0 := List.count_eq_zero.2 (by simp; omega)
    rw [addS_eps, List.count_append, h.cnt e h1 h2, h.nw, hz]
    simp⟩
theorem Sz.close {S : LS} {lf sh : Nat} {sz : List Int} (h : Sz S lf sh sz) (ok : S.Ok) (hj : joinN S ≠ 0) : Sz (closeS S) lf (sh + 1) (sz ++ [(joinN S : Int)]) := by
  have he : (closeS S).eps = S.eps := by unfold LS.eps; rw [closeS_es]
  refine ⟨by rw [closeS_now, if_neg hj, h.nw], by rw [closeS_old ok]; exact h.old, by simp [h.len], Nat.le_succ_of_le h.le, fun e h1 h2 => ?_⟩
  rw [he]
  by_cases hs : e = sh + 1
  · subst hs
    rw [joinN_eq ok, h.nw]
    simp [List.getD, h.len]
  · rw [← h.cnt e h1 (by omega)]
    have : e < sz.length := by rw [h.len]; omega
    simp [List.getD, this, List.getElem?_append_left this]
theorem Sz.leave {S : LS} {lf sh : Nat} {sz : List Int} (h : Sz S lf sh sz) (ok : S.Ok) (hl : lf < sh) : Sz (leaveS S (frontN S)) (lf + 1) sh sz := by
  have hn : oldE S ≠ (S.now : Int) := by rw [h.old, h.nw]; omega
  refine ⟨h.nw, by rw [leave_old ok hn, h.old]; omega, h.len, hl, fun e h1 h2 => ?_⟩
  rw [leave_eps, count_dropWhile, h.cnt e (by omega) h2]
  rw [← oldE_eq, h.old]
  omega
theorem Sz.bar {S : LS} {lf sh : Nat} {sz : List Int} (h : Sz S lf sh sz) (ok : S.Ok) (hl : lf < sh) : barB S ((lf : Int) + 1) (sz.getD (lf + 1) 0) = true := by
  have hn : oldE S ≠ (S.now : Int) := by rw [h.old, h.nw]; omega
  have hne : S.es ≠ [] := fun e => hn (old_nil e)
  refine barB_mk hn h.old.symm ?_
  rw [h.cnt (lf + 1) (by omega) hl, front_count ok hne, h.old]
  rfl
/-- what the asks say -/
theorem Sz.nil {S : LS} {lf sh : Nat} {sz : List Int} (h : Sz S lf sh sz) (ok : S.Ok) : S.es = [] ↔ lf = sh ∧ joinN S = 0 := by
  constructor
  · intro e
    have h1 := old_nil e
    rw [h.old, h.nw] at h1
    exact ⟨by omega, by unfold joinN; rw [e]; rfl⟩
  · rintro ⟨e1, e2⟩
    apply Classical.byContradiction
    intro hne
    have ho : oldE S = (S.now : Int) := by rw [h.old, h.nw, e1]; omega
    have hp := front_pos hne
    rw [front_count ok hne, ho, ← joinN_eq ok] at hp
    omega
theorem Sz.settled {S : LS} {lf sh : Nat} {sz : List Int} (h : Sz S lf sh sz) (ok : S.Ok) (z : Int) : (decide (S.es.length = 0) || decide (z < (S.es.getD 0 e0).2.2)) = ((decide (lf = sh) && decide (joinN S = 0)) || decide (z < (lf : Int) + 1 ∧ ¬ (lf = sh ∧ joinN S = 0))) := by
  by_cases hn : S.es = []
  · have := (h.nil ok).1 hn
    rw [hn]
    simp [this]
  · have h2 : ¬ (lf = sh ∧ joinN S = 0) := fun e => hn ((h.nil ok).2 e)
    have h3 : S.es.length ≠ 0 := fun e => hn (List.length_eq_zero_iff.1 e)
    rw [← old_cons hn, h.old, decide_eq_false h3, ← Bool.decide_and, decide_eq_false h2]
    simp only [Bool.false_or, h2, not_false_eq_true, and_true]
end Go.Proofs.Ytcdmkbjibcahcaa
