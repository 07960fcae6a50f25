import Derived.Test.YthkkinmegileaaaALru2
namespace Go.Proofs.Ythkkinmegileaaa
open Go.RowKit Go.Sort
set_option linter.unusedVariables false
set_option linter.unusedSimpArgs false
set_option maxRecDepth 20000

theorem erase_at : ∀ {l : List Nat} (hd : l.Nodup) {i x : Nat} (hx : l[i]? = some x), l.take i ++ l.drop (i + 1) = l.erase x
  | [], _, i, x, hx => by simp at hx
  | a :: r, hd, 0, x, hx => by
    have e : a = x := by simpa using hx
    subst e
    simp
  | a :: r, hd, i + 1, x, hx => by
    have hx' : r[i]? = some x := by simpa using hx
    have hne : a ≠ x := fun e => by
      have := List.nodup_cons.1 hd
      exact this.1 (e ▸ List.mem_of_getElem? hx')
    rw [List.erase_cons_tail (by simpa using hne), ← erase_at (List.nodup_cons.1 hd).2 hx']
    simp
theorem delete_any {w : World} {v : Value} {l : List Nat} {i : Nat} (h : w.ownsRow 0 3 1 v l.length (l.map nV)) (hi : i < l.length) :
    Calls Try.prog 95 #[v, .int .i64 (i : Int), .int .i64 ((i : Int) + 1)] w fun e w' => ∃ v' g' m' c', e = .returned v' ∧ v' = .slice (some ⟨g', 0, none⟩) m' c' ∧ w'.ownsRow 0 3 1 v' (l.take i ++ l.drop (i + 1)).length ((l.take i ++ l.drop (i + 1)).map nV) ∧ v'.ownBlock = v.ownBlock ∧ Chg (fun b => v.ownBlock = some b) w w' := by
  have h0 := h
  rcases h.2 with ⟨rfl, e⟩ | ⟨g, cap, cur, rfl, _, hg, h1, h2, h3, h4⟩
  · omega
  have hmap : l.map nV = (l.map (fun n : Nat => (n : Int))).map (Value.int .i64) := by rw [List.map_map]; rfl
  rw [hmap] at h
  have hlen : (l.map (fun n : Nat => (n : Int))).length = l.length := by simp
  obtain ⟨g2, cap2, e2, -, -, -, -, -, hH⟩ := Lib.holds_of_ownsRow h (by simp)
  simp only [Value.slice.injEq, Option.some.injEq, Addr.mk.injEq] at e2
  obtain ⟨⟨rfl, -, -⟩, -, rfl⟩ := e2
  have hc := Any.slices_Delete_int Try.deleteA g 0 cap i (i + 1) (l.map (fun n : Nat => (n : Int))) w hH (by rw [hlen]; exact h1) (by simpa [maxLen] using h2) (by omega) (by rw [hlen]; omega)
  rw [hlen] at hc
  refine (show Calls Try.prog 95 _ w _ from hc).mono ?_
  rintro e w' ⟨rfl, q, rfl⟩
  have hn : l.length - (i + 1 - i) = (l.take i ++ l.drop (i + 1)).length := by simp; omega
  rw [hn]
  have hr := Lib.ownsRow_putRow (q := q) (k := (l.take i ++ l.drop (i + 1)).length) (ys := (l.map (fun n : Nat => (n : Int))).take i ++ (l.map (fun n : Nat => (n : Int))).drop (i + 1) ++ List.replicate (i + 1 - i) 0) h (by simp; omega) (by simp; omega)
  refine ⟨_, _, _, _, rfl, rfl, ?_, rfl, ?_⟩
  · have e2 : (((l.map (fun n : Nat => (n : Int))).take i ++ (l.map (fun n : Nat => (n : Int))).drop (i + 1) ++ List.replicate (i + 1 - i) 0).take (l.take i ++ l.drop (i + 1)).length).map (Value.int .i64) = (l.take i ++ l.drop (i + 1)).map nV := by
      rw [List.take_left' (by simp)]
      rw [← List.map_take, ← List.map_drop, ← List.map_append, List.map_map]
      rfl
    rw [← e2]
    exact hr
  · refine ⟨rfl, rfl, rfl, ?_, fun b hb hn => ?_⟩
    · simp [putRow, mapBlock, Sort.ahead]
    · have hgb : g ≠ b := fun e => hn (by rw [e]; rfl)
      simp [putRow, mapBlock, Sort.ahead, Array.getElem?_modify, hgb]
set_option maxHeartbeats 1000000 in
/-- a slot's key is awake -/
theorem wake_any {w : World} {p bm : Nat} {kv rv iv : Value} {S : LS} {s : Nat} (h : LRep w p bm kv rv iv S) (hd : S.idle.Nodup) (hs : s ∈ S.idle) :
    Calls Try.prog 96 #[.pointer (some ⟨p, 0, none⟩), .int .i64 (s : Int)] w fun e w' => e = .returned (.tuple #[]) ∧ ∃ iv', LRep w' p bm kv rv iv' { S with idle := S.idle.erase s } ∧ iv'.ownBlock = iv.ownBlock ∧ Chg (fun b => b = p ∨ iv.ownBlock = some b) w w' := by
  obtain ⟨i, hi⟩ := List.getElem?_of_mem hs
  have hil : i < S.idle.length := (List.getElem?_eq_some_iff.1 hi).1
  have HI := hide (index_any h.io hd hi)
  have HD := hide (delete_any h.io hil)
  have HE := hide (erase_at hd hi)
  have HFIN : Hid (∀ w' v', w'.ownsRow 0 3 1 v' (S.idle.take i ++ S.idle.drop (i + 1)).length ((S.idle.take i ++ S.idle.drop (i + 1)).map nV) → v'.ownBlock = iv.ownBlock → Chg (fun b => iv.ownBlock = some b) w w' → LRep (w'.setCell ⟨p, 4, none⟩ v') p bm kv rv v' { S with idle := S.idle.erase s } ∧ Chg (fun b => b = p ∨ iv.ownBlock = some b) w (w'.setCell ⟨p, 4, none⟩ v') ∧ w'.cell? ⟨p, 4, none⟩ = some iv ∧ w'.frozen? ⟨p, 4, none⟩ = false) := hide fun w' v' h1 h2 h3 => by
    have hap := h.ap
    have hpk : w'.heap[p]? = w.heap[p]? := h3.keep p (h.lt p (.inl rfl)) fun e => (hap.2 p (.inr (.inr e))).1 rfl
    have hrow := hpk.trans h.row
    have hk : ∀ b, b < w.heap.size → b ≠ p → iv.ownBlock ≠ some b → (w'.setCell ⟨p, 4, none⟩ v').heap[b]? = w.heap[b]? := fun b hb e1 e2 => by
      rw [Go.heap_setCell_other _ _ _ _ (by exact e1)]
      exact h3.keep b hb e2
    rw [HE.out] at h1
    refine ⟨⟨Go.heap_setCell_same w' _ 4 _ 120 _ hrow, h.mp.kept (hk bm h.mp.lt (fun e => hap.1 e.symm) fun e => (hap.2 bm (.inr (.inr e))).2 rfl), rowKept h.ko fun g e => hk g (h.ko.lt g e).2 (hap.2 g (.inl e)).1 (h.a1 g e).2, rowKept h.ro fun g e => hk g (h.ro.lt g e).2 (hap.2 g (.inr (.inl e))).1 (h.a2 g e), rowKept h1 fun g e => Go.heap_setCell_other _ _ _ _ (by rw [h2] at e; exact (hap.2 g (.inr (.inr e))).1), fun b e => by rw [h2]; exact h.a1 b e, fun b e => by rw [h2]; exact h.a2 b e⟩, ?_, by rw [cell_of_row _ _ _ _ _ _ hrow]; rfl, frozen_of_row _ _ _ _ 120 hrow⟩
    refine ⟨h3.os, h3.tape, h3.output, by rw [World.size_setCell]; exact h3.size, fun b hb hn => hk b hb (fun e => hn (.inl e)) fun e => hn (.inr e)⟩
  have c4 := h.c 4
  obtain ⟨a, cap, rfl, h1, h2⟩ := rowForm h.io
  unfold maxLen at h2
  clear h
  generalize S.idle.length = n at *
  go_enter Try.func96, Try.ntmps96
  go_wp2_with (first
    | (go_at_call 94; refine HI.out.mono ?_; rintro e w1 ⟨rfl, rfl⟩)
    | (go_at_call 95; refine HD.out.mono ?_; rintro e w2 ⟨v', g', m', c', rfl, rfl, q1, q2, q3⟩; obtain ⟨r1, r2, r3, r4⟩ := HFIN.out _ _ q1 q2 q3; have HR := hide (And.intro r1 (And.intro q2 r2)); clear q1 q2 q3 r1 r2))
  go_end0
  exact ⟨rfl, _, HR.out.1, HR.out.2.1, HR.out.2.2⟩
end Go.Proofs.Ythkkinmegileaaa
