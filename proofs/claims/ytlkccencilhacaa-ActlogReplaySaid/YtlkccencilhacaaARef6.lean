import Derived.Test.YtlkccencilhacaaARef5
namespace Go.Proofs.Ytlkccencilhacaa
open Go.RowKit Go.Sort
set_option linter.unusedVariables false
set_option linter.unusedSimpArgs false
set_option maxRecDepth 20000

/-- what the document's Keys has laid: the keys of some slots -/
def ROut (w wr : World) (v : Value) (C : List RC) (l : List Nat) : Prop := wr.ownsRow 0 3 1 v l.length (l.map (fun s => Value.int .i64 (rkey C s))) ∧ Below w.heap.size w wr ∧ ∀ b, v.ownBlock = some b → w.heap.size ≤ b
theorem ROut.form {w wr : World} {v : Value} {C : List RC} {l : List Nat} (h : ROut w wr v C l) : ∃ a cap, v = .slice a l.length cap ∧ l.length ≤ cap ∧ cap ≤ maxLen := by
  obtain ⟨a, cap, e, h1, h2⟩ := rowForm h.1
  exact ⟨a, cap, e, h1, h2⟩
theorem ROut.later {w wr w2 : World} {v : Value} {C : List RC} {l : List Nat} (h : ROut w wr v C l) (hb : Below wr.heap.size wr w2) : ROut w w2 v C l :=
  ⟨rowKept h.1 fun g e => hb.block g (h.1.lt g e).2, h.2.1.trans (hb.mono h.2.1.size), h.2.2⟩
theorem ROut.more {w wr w4 : World} {v v' : Value} {C : List RC} {l : List Nat} {s : Nat} {o : Obj} (h : ROut w wr v C l) (ho : w4.ownsRow 0 3 1 v' (l.length + 1) (l.map (fun s => Value.int .i64 (rkey C s)) ++ [.int .i64 (rkey C s)])) (hu : Upon (wr.alloc o) w4 v v') : ROut w w4 v' C (l ++ [s]) := by
  obtain ⟨h1, h2, h3⟩ := keys_step (zs := (l ++ [s]).map (fun s => Value.int .i64 (rkey C s))) ho hu h.2.1 h.2.2 (by rw [List.map_append]; rfl)
  exact ⟨by rw [List.length_append]; exact h1, h2, h3⟩
theorem rseen_yes {S : LS} {C : List RC} {t i : Nat} (h : (rcb C i).used = true ∧ (rcb C i).refs = 0 ∧ (rcb C i).given = t) : rseen S C t (i + 1) = rseen S C t i ++ [i] := by
  rw [rseen_succ, if_pos]
  unfold rcand
  simp [h.1, h.2.1, h.2.2]
theorem rseen_no {S : LS} {C : List RC} {t i : Nat} (h : ¬ ((rcb C i).used = true ∧ (rcb C i).refs = 0 ∧ (rcb C i).given = t)) : rseen S C t (i + 1) = rseen S C t i := by
  rw [rseen_succ, if_neg]
  unfold rcand
  simp only [Bool.and_eq_true, decide_eq_true_eq]
  rintro ⟨⟨e1, e2⟩, e3⟩
  exact h ⟨e1, e2, e3⟩
theorem rbusy_yes {C : List RC} {i : Nat} (h : (rcb C i).used = true ∧ 0 < (rcb C i).refs) : rbusy C (i + 1) = rbusy C i ++ [i] := by
  rw [rbusy_succ, if_pos]
  simp [h.1, h.2]
theorem rbusy_no {C : List RC} {i : Nat} (h : ¬ ((rcb C i).used = true ∧ 0 < (rcb C i).refs)) : rbusy C (i + 1) = rbusy C i := by
  rw [rbusy_succ, if_neg]
  simp only [Bool.and_eq_true, decide_eq_true_eq]
  exact h
end Go.Proofs.Ytlkccencilhacaa
