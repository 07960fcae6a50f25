import Derived.Test.YthkkinmegileaaaPLru2
namespace Go.Proofs.Ythkkinmegileaaa.Sp
open Go.RowKit Go.Sort
set_option linter.unusedVariables false
set_option linter.unusedSimpArgs false
set_option maxRecDepth 20000

set_option maxHeartbeats 1000000 in
/-- a slot's key is awake -/
theorem wake_any {w : World} {p bm : Nat} {kv rv iv : Value} {S : LS} {s : Nat} (h : LRep w p bm kv rv iv S) (hd : S.idle.Nodup) (hs : s ∈ S.idle) :
    Calls Try.prog 76 #[.pointer (some ⟨p, 0, none⟩), .int .i64 (s : Int)] w fun e w' => e = .returned (.tuple #[]) ∧ ∃ iv', LRep w' p bm kv rv iv' { S with idle := S.idle.erase s } ∧ iv'.ownBlock = iv.ownBlock ∧ Chg (fun b => b = p ∨ iv.ownBlock = some b) w w' := by
  obtain ⟨i, hi⟩ := List.getElem?_of_mem hs
  have hil : i < S.idle.length := (List.getElem?_eq_some_iff.1 hi).1
  have HI := hide (index_any h.io hd hi)
  have HD := hide (delete_any h.io hil)
  have HE := hide (erase_at hd hi)
  have HFIN : Hid (∀ w' v', w'.ownsRow 0 3 1 v' (S.idle.take i ++ S.idle.drop (i + 1)).length ((S.idle.take i ++ S.idle.drop (i + 1)).map nV) → v'.ownBlock = iv.ownBlock → Chg (fun b => iv.ownBlock = some b) w w' → LRep (w'.setCell ⟨p, 4, none⟩ v') p bm kv rv v' { S with idle := S.idle.erase s } ∧ Chg (fun b => b = p ∨ iv.ownBlock = some b) w (w'.setCell ⟨p, 4, none⟩ v') ∧ w'.cell? ⟨p, 4, none⟩ = some iv ∧ w'.frozen? ⟨p, 4, none⟩ = false) := hide fun w' v' h1 h2 h3 => by
    have hap := h.ap
    have hpk : w'.heap[p]? = w.heap[p]? := h3.keep p (h.lt p (.inl rfl)) fun e => (hap.2 p (.inr (.inr e))).1 rfl
    have hrow := hpk.trans h.row
    have hk : ∀ b, b < w.heap.size → b ≠ p → iv.ownBlock ≠ some b → (w'.setCell ⟨p, 4, none⟩ v').heap[b]? = w.heap[b]? := fun b hb e1 e2 => by
      rw [Go.heap_setCell_other _ _ _ _ (by exact e1)]
      exact h3.keep b hb e2
    rw [HE.out] at h1
    refine ⟨⟨Go.heap_setCell_same w' _ 4 _ 78 _ hrow, h.mp.kept (hk bm h.mp.lt (fun e => hap.1 e.symm) fun e => (hap.2 bm (.inr (.inr e))).2 rfl), rowKept h.ko fun g e => hk g (h.ko.lt g e).2 (hap.2 g (.inl e)).1 (h.a1 g e).2, rowKept h.ro fun g e => hk g (h.ro.lt g e).2 (hap.2 g (.inr (.inl e))).1 (h.a2 g e), rowKept h1 fun g e => Go.heap_setCell_other _ _ _ _ (by rw [h2] at e; exact (hap.2 g (.inr (.inr e))).1), fun b e => by rw [h2]; exact h.a1 b e, fun b e => by rw [h2]; exact h.a2 b e⟩, ?_, by rw [cell_of_row _ _ _ _ _ _ hrow]; rfl, frozen_of_row _ _ _ _ 78 hrow⟩
    refine ⟨h3.os, h3.tape, h3.output, by rw [World.size_setCell]; exact h3.size, fun b hb hn => hk b hb (fun e => hn (.inl e)) fun e => hn (.inr e)⟩
  have c4 := h.c 4
  obtain ⟨a, cap, rfl, h1, h2⟩ := rowForm h.io
  unfold maxLen at h2
  clear h
  generalize S.idle.length = n at *
  go_enter Try.func76, Try.ntmps76
  go_wp2_with (first
    | (go_at_call 94; refine HI.out.mono ?_; rintro e w1 ⟨rfl, rfl⟩)
    | (go_at_call 95; refine HD.out.mono ?_; rintro e w2 ⟨v', g', m', c', rfl, rfl, q1, q2, q3⟩; obtain ⟨r1, r2, r3, r4⟩ := HFIN.out _ _ q1 q2 q3; have HR := hide (And.intro r1 (And.intro q2 r2)); clear q1 q2 q3 r1 r2))
  go_end0
  exact ⟨rfl, _, HR.out.1, HR.out.2.1, HR.out.2.2⟩
end Go.Proofs.Ythkkinmegileaaa.Sp
