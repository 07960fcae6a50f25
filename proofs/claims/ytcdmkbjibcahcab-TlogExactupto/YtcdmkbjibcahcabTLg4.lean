import Derived.Test.YtcdmkbjibcahcabTLg3
namespace Go.Proofs.Ytcdmkbjibcahcab
open Go.RowKit
set_option linter.unusedVariables false
set_option linter.unusedSimpArgs false
set_option maxRecDepth 20000

section
variable {w w' : World} {p bm : Nat} {v : Value} {S : LS}
/-- the open epoch's number turns -/
theorem LRep.setNow (h : LRep w p bm v S) (k : Nat) : LRep (w.setCell ⟨p, 2, none⟩ (.int .i64 (k : Int))) p bm v { S with now := k } :=
  ⟨Go.heap_setCell_same w _ 2 _ 69 _ h.row, h.lst.kept fun g e => Go.heap_setCell_other _ _ _ _ (by exact (h.ap.2 g e).1), h.mp.kept (Go.heap_setCell_other _ _ _ _ (by exact h.ap.1.symm))⟩
theorem chg_set {U : Nat → Prop} {w x : World} (h : Chg U w x) (g i : Nat) (v : Value) (hg : U g ∨ w.heap.size ≤ g) : Chg U w (x.setCell ⟨g, i, none⟩ v) :=
  ⟨h.os, h.tape, h.output, by rw [World.size_setCell]; exact h.size, fun b hb hn => (Go.heap_setCell_other _ _ _ _ (by
    show b ≠ g
    rintro rfl
    rcases hg with hg | hg
    · exact hn hg
    · omega)).trans (h.keep b hb hn)⟩
end
/-- a call of a log has turned it: what it is now, which blocks -/
structure Tn (w w' : World) (p bm : Nat) (v v' : Value) (S' : LS) : Prop where
  rep : LRep w' p bm v' S'
  chg : Chg (LU p bm v) w w'
  loc : ∀ g, v'.ownBlock = some g → v.ownBlock = some g ∨ w.heap.size ≤ g
  fr : Fr w w' v v'
theorem Tn.refl {w : World} {p bm : Nat} {v : Value} {S : LS} (h : LRep w p bm v S) : Tn w w p bm v v S := ⟨h, Chg.refl _ _, fun g e => .inl e, Fr.refl w v⟩
theorem Tn.below {w w' w2 : World} {p bm : Nat} {v v' : Value} {S : LS} (h : Tn w w' p bm v v' S) (hb : Below w'.heap.size w' w2) : Tn w w2 p bm v v' S := ⟨h.rep.below hb, h.chg.trans (Chg.ofBelow hb), h.loc, h.fr.below hb⟩
theorem below_drew0 (w : World) (k : Nat) : Below w.heap.size w (w.drewN k) := ⟨rfl, rfl, rfl, Nat.le_refl _, fun _ _ => rfl⟩
theorem results_tmpT {fn : Func} {t u v : Tmp} (h : fn.results = #[.tmp t, .tmp u, .tmp v]) (tmps : Array Value) (P : Program) (w : World) :
    (results fn tmps).run P w = .ok (.tuple #[tmps.getD t undef, tmps.getD u undef, tmps.getD v undef]) w := by
  simp [results, h]
def closeS (S : LS) : LS := if joinN S = 0 then S else { S with now := S.now + 1 }
set_option maxHeartbeats 1000000 in
theorem Close_any (w : World) (p bm : Nat) (v : Value) (S : LS) (h : LRep w p bm v S) (hb : S.Bd) (hn : S.now ≤ 16000000000000) : Calls Try.prog 25 #[.pointer (some ⟨p, 0, none⟩)] w fun e w' =>
    e = .returned (.tuple #[.int .i64 (S.now : Int), .int .i64 (joinN S : Int), .bool (decide (0 < joinN S))]) ∧ Tn w w' p bm v v (closeS S) := by
  have HJ : Hid (∀ k, _) := hide fun k => joined_any (w.drewN k) p bm _ S (h.drewN k) hb.es
  have c2 := h.c2
  have hjl := joinN_le S
  have hel := hb.es
  have HH := hide h
  have HT : Hid (∀ k, Tn w ((w.drewN k).setCell ⟨p, 2, none⟩ (.int .i64 ((S.now + 1 : Nat) : Int))) p bm v v { S with now := S.now + 1 }) := hide fun k => ⟨(h.drewN k).setNow _, chg_set (Chg.ofBelow (below_drew0 w k)) p 2 _ (.inl (.inl rfl)), fun g e => .inl e, (Fr.ofBelow v (below_drew0 w k)).set p 2 _ fun g e _ => (h.ap.2 g e).1⟩
  have f2 := h.f 2
  clear h
  by_cases h0 : joinN S = 0
  · have HC : Hid (closeS S = S) := hide (if_pos h0)
    generalize closeS S = S' at *
    generalize joinN S = jn at *
    generalize S.now = nw at *
    subst h0
    go_enter Try.func25, Try.ntmps25
    go_wp2_with fail
    go_quiet ((go_at_call 39; exact Calls.quiet_of (HJ.out _)))
    go_wp2_with fail
    (try simp only [Exit.inBlock, Exit.then]); refine bodyPost_ret (results_tmpT rfl _ _ _) rfl ?_
    exact ⟨rfl, by rw [HC.out]; exact (Tn.refl HH.out).below (below_drew0 w _)⟩
  · have HC : Hid (closeS S = { S with now := S.now + 1 }) := hide (if_neg h0)
    have h0' : (((joinN S : Nat) : Int) == 0) = false := by rw [beq_eq_false_iff_ne]; omega
    have HP : Hid (decide (0 < joinN S) = true) := hide (by rw [decide_eq_true_iff]; omega)
    generalize closeS S = S' at *
    generalize joinN S = jn at *
    generalize S.now = nw at *
    clear h0
    go_enter Try.func25, Try.ntmps25
    go_wp2_with fail
    go_quiet ((go_at_call 39; exact Calls.quiet_of (HJ.out _)))
    go_wp2_with fail
    (try simp only [Exit.inBlock, Exit.then]); refine bodyPost_ret (results_tmpT rfl _ _ _) rfl ?_
    exact ⟨by rw [HP.out]; rfl, by rw [HC.out]; exact HT.out _⟩
end Go.Proofs.Ytcdmkbjibcahcab
