import Derived.Test.YtcdmkbjibcahcabTMo
import Derived.Test.YtcdmkbjibcahcabTMk
import Derived.Test.YtcdmkbjibcahcabTOps
namespace Go.Proofs.Ytcdmkbjibcahcab
open Go.RowKit
set_option linter.unusedVariables false
set_option linter.unusedSimpArgs false
set_option maxRecDepth 20000

/-- a law's run over one pair: its box, the script -/
structure RL (w x : World) (gp p bm q b c N : Nat) : Prop where
  px : ∃ v dv S, PX w x p bm v q dv S S b c N (fun _ _ => False) []
  hp : x.heap[gp]? = some (.cells #[.pointer (some ⟨p, 0, none⟩), .pointer (some ⟨q, 0, none⟩)] 26 (0, 0))
theorem bx_new {w x : World} {A : Nat → Nat → Prop} (hs : w.heap.size ≤ x.heap.size) : BX w (x.alloc (.cells #[nilV, nilV, nilV, nilV, .int .i64 0] 32)) A x.heap.size 0 := by
  have hn : ∀ g, nilV.ownBlock ≠ some g := fun g e => by simp [Value.ownBlock] at e
  exact ⟨nilV, nilV, nilV, nilV, 0, [], [], [], [], ⟨⟨Go.heap_alloc_new x _, ownsNil _, ownsNil _, ownsNil _, ownsNil _, fun g e => (hn g e).elim, fun g e => (hn g e).elim, fun g e => (hn g e).elim⟩, fun u hu => by simp at hu, fun u hu => by simp at hu, fun u hu => by simp at hu, rfl, rfl, hs, fun g e => by rcases e with e | e | e | e <;> exact (hn g e).elim, fun u hu => by simp at hu, fun u hu => by simp at hu, fun u hu => by simp at hu, fun u hu => by simp at hu, fun u hu => by simp at hu, by simp, fun u hu => by simp at hu, rfl, by simp⟩⟩
section
variable {w x y : World} {gp p bm q b c N c' N' : Nat}
theorem RL.step {v v' dv dv' : Value} {S S' : LS} (hp : x.heap[gp]? = some (.cells #[.pointer (some ⟨p, 0, none⟩), .pointer (some ⟨q, 0, none⟩)] 26 (0, 0))) (h : PX w x p bm v q dv S S b c N (fun _ _ => False) []) (k : PX w y p bm v' q dv' S' S' b c' N' (fun _ _ => False) []) (f : Ft x y p bm q v v' dv dv' (fun _ _ => False)) : RL w y gp p bm q b c' N' := by
  refine ⟨⟨v', dv', S', k⟩, (f.ob gp (Array.getElem?_eq_some_iff.1 hp).1 (neType hp h.al.rep.row (by decide)) (h.al.rep.mp.neCells hp) (neType hp h.dl.row (by decide)) (fun e => ?_) fun cs t hc hk => ?_).trans hp⟩
  · obtain ⟨ds, hd⟩ := h.dl.lineK e
    exact neType hp hd (by decide) rfl
  · rw [hp] at hc
    simp only [Option.some.injEq, Obj.cells.injEq] at hc
    rw [← hc.2.1] at hk
    revert hk
    unfold kB
    decide
theorem RL.start {y1 : World} {lim ep : Nat} (k1 : LRep y1 p bm (.slice none 0 0) (newS lim ep)) (k2 : DL y1 q (.slice none 0 0) (newS lim ep)) (k3 : Below w.heap.size w y1) (k4 : w.heap.size ≤ p) (k5 : w.heap.size ≤ bm) (k6 : w.heap.size ≤ q) (h1 : 1 ≤ lim) (h2 : lim ≤ 1024) (h3 : 1 ≤ ep) (h4 : ep ≤ 64) :
    RL w ((y1.alloc (.cells #[.pointer (some ⟨p, 0, none⟩), .pointer (some ⟨q, 0, none⟩)] 26)).alloc (.cells #[nilV, nilV, nilV, nilV, .int .i64 0] 32)) y1.heap.size p bm q (y1.heap.size + 1) 0 0 := by
  have hb := below_alloc2 y1 (.cells #[.pointer (some ⟨p, 0, none⟩), .pointer (some ⟨q, 0, none⟩)] 26) (.cells #[nilV, nilV, nilV, nilV, .int .i64 0] 32)
  have hn : ∀ g, nilV.ownBlock ≠ some g := fun g e => by simp [Value.ownBlock] at e
  have hr : ∀ g i, ¬ Rm (.slice none 0 0) g i := fun g i e => hn g e.own
  have hs : (y1.alloc (.cells #[.pointer (some ⟨p, 0, none⟩), .pointer (some ⟨q, 0, none⟩)] 26)).heap.size = y1.heap.size + 1 := by simp
  have bx := bx_new (w := w) (x := y1.alloc (.cells #[.pointer (some ⟨p, 0, none⟩), .pointer (some ⟨q, 0, none⟩)] 26)) (A := AV (fun _ _ => False) (.slice none 0 0) []) (by have := k3.size; omega)
  rw [hs] at bx
  refine ⟨⟨_, _, _, ⟨⟨k1.below hb, k3.trans (hb.mono k3.size), ?_, newS_ok h1 h2 h3 h4, Nat.le_refl _, Nat.le_refl _⟩, k2.below hb, k6, fun g e => (hn g e).elim, bx, fun g i e => e.elim, fun g i e => e.elim, fun u hu => by simp at hu, fun u hu => by simp at hu, List.Pairwise.nil, fun u hu => by simp at hu, fun u hu => by simp at hu⟩⟩, heap_alloc2 y1 _ _⟩
  rintro g (rfl | rfl | e)
  · exact k4
  · exact k5
  · exact (hn g e).elim
theorem RL.b0 (h : RL w x gp p bm q b c N) : x.cell? ⟨gp, 0, none⟩ = some (.pointer (some ⟨p, 0, none⟩)) := by rw [cell_of_row _ _ _ _ _ _ h.hp]; rfl
theorem RL.b1 (h : RL w x gp p bm q b c N) : x.cell? ⟨gp, 1, none⟩ = some (.pointer (some ⟨q, 0, none⟩)) := by rw [cell_of_row _ _ _ _ _ _ h.hp]; rfl
theorem RL.below (h : RL w x gp p bm q b c N) (hb : Below x.heap.size x y) : RL w y gp p bm q b c N := by
  obtain ⟨⟨v, dv, S, k⟩, hp⟩ := h
  exact ⟨⟨v, dv, S, k.below hb⟩, (hb.block gp (Array.getElem?_eq_some_iff.1 hp).1).trans hp⟩
theorem RL.moves (h : RL w x gp p bm q b c N) (hN : N ≤ 10000000000000) (hc : c ≤ 4400000000000) (k o1 o2 o3 : Int) (hid : i64ok o2) (told : Bool) : Calls Try.prog 6 #[.agg #[.pointer (some ⟨p, 0, none⟩), .pointer (some ⟨q, 0, none⟩)], .agg #[.int .i64 k, .int .i64 o1, .int .i64 o2, .int .i64 o3], .bool told, .pointer (some ⟨b, 0, none⟩)] x fun e y => e = .returned (.bool true) ∧ RL w y gp p bm q b (c + 1) (N + 1) := by
  obtain ⟨⟨v, dv, S, hx⟩, hp⟩ := h
  refine (moves_any hx hN hc k o1 o2 o3 hid told).mono ?_
  rintro e y ⟨v', dv', S', rfl, k, f⟩
  exact ⟨rfl, RL.step hp hx k f⟩
theorem RL.bel (h : RL w x gp p bm q b c N) : Below w.heap.size w x := by
  obtain ⟨⟨v, dv, S, k⟩, hp⟩ := h
  exact k.al.bel
end
end Go.Proofs.Ytcdmkbjibcahcab
