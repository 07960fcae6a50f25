import Derived.Test.YtcdmkbjibcahcabTOk
import Derived.Test.YtcdmkbjibcahcabTHp
namespace Go.Proofs.Ytcdmkbjibcahcab
open Go.RowKit
set_option linter.unusedVariables false
set_option linter.unusedSimpArgs false

/-- a log in a law's run: w the world at the law's begin; N bounds what was called -/
structure AL (w x : World) (p bm : Nat) (v : Value) (S : LS) (N : Nat) : Prop where
  rep : LRep x p bm v S
  bel : Below w.heap.size w x
  own : ∀ g, LU p bm v g → w.heap.size ≤ g
  ok : S.Ok
  nw : S.now ≤ N + 1
  tot : S.gone + S.ls.length ≤ N
/-- a call has turned the log alone -/
structure Mv (x y : World) (p bm : Nat) (v v' : Value) : Prop where
  chg : Chg (LU p bm v) x y
  loc : ∀ g, LU p bm v' g → LU p bm v g ∨ x.heap.size ≤ g
section
variable {w x y : World} {p bm : Nat} {v v' : Value} {S S' : LS} {N N' : Nat}
theorem Mv.refl (x : World) (p bm : Nat) (v : Value) : Mv x x p bm v v := ⟨Chg.refl _ _, fun g h => .inl h⟩
theorem Mv.ofBelow (h : Below x.heap.size x y) : Mv x y p bm v v := ⟨Chg.ofBelow h, fun g h => .inl h⟩
theorem Tn.mv (t : Tn x y p bm v v' S') : Mv x y p bm v v' := ⟨t.chg, by
  rintro g (e | e | e)
  · exact .inl (.inl e)
  · exact .inl (.inr (.inl e))
  · exact (t.loc g e).imp (fun h => .inr (.inr h)) fun h => h⟩
theorem AL.of (h : AL w x p bm v S N) (t : Tn x y p bm v v' S') (hok : S'.Ok) (hn : S'.now ≤ N' + 1) (hg : S'.gone + S'.ls.length ≤ N') : AL w y p bm v' S' N' :=
  ⟨t.rep, h.bel.trans (t.chg.below h.bel.size h.own), fun g e => by
    rcases t.mv.loc g e with e | e
    · exact h.own g e
    · exact Nat.le_trans h.bel.size e, hok, hn, hg⟩
theorem AL.below (h : AL w x p bm v S N) (hb : Below x.heap.size x y) : AL w y p bm v S N := ⟨h.rep.below hb, h.bel.trans (hb.mono h.bel.size), h.own, h.ok, h.nw, h.tot⟩
theorem AL.more (h : AL w x p bm v S N) (hn : N ≤ N') : AL w x p bm v S N' := ⟨h.rep, h.bel, h.own, h.ok, by have := h.nw; omega, by have := h.tot; omega⟩
theorem AL.add0 (h : AL w x p bm v S N) (hN : N ≤ 15000000000000) (id blk : Int) (hid : i64ok id) (hr : refE S id blk = 0) : Calls Try.prog 23 #[.pointer (some ⟨p, 0, none⟩), .int .i64 id, .int .i64 blk] x fun e y =>
    ∃ v', e = .returned (.tuple #[.int .i64 (S.now : Int), .bool (decide (joinN S + 1 = S.ep)), .int .i64 0]) ∧ AL w y p bm v' (addS S id blk) (N + 1) ∧ Mv x y p bm v v' := by
  have h1 := h.nw
  have h2 := h.tot
  refine (Add_ok x p bm v S id blk h.rep h.ok.bd hid hr (by omega) (by omega)).mono ?_
  rintro e y ⟨rfl, v', t⟩
  refine ⟨v', by rw [addS_joinN h.ok hid hr], h.of t (addS_ok h.ok hid hr) (by show S.now ≤ _; omega) ?_, t.mv⟩
  show S.gone + (S.ls ++ _).length ≤ _
  simp
  omega
theorem AL.addN (h : AL w x p bm v S N) (id blk : Int) (hid : i64ok id) (hr : refE S id blk ≠ 0) : Calls Try.prog 23 #[.pointer (some ⟨p, 0, none⟩), .int .i64 id, .int .i64 blk] x fun e y =>
    e = .returned (.tuple #[.int .i64 0, .bool false, .int .i64 (refE S id blk)]) ∧ AL w y p bm v S N ∧ Mv x y p bm v v := by
  refine (Add_no x p bm v S id blk h.rep h.ok.bd hid hr).mono ?_
  rintro e y ⟨rfl, t⟩
  exact ⟨rfl, h.of t h.ok h.nw h.tot, t.mv⟩
theorem AL.close (h : AL w x p bm v S N) (hN : N ≤ 15000000000000) : Calls Try.prog 25 #[.pointer (some ⟨p, 0, none⟩)] x fun e y =>
    e = .returned (.tuple #[.int .i64 (S.now : Int), .int .i64 (joinN S : Int), .bool (decide (0 < joinN S))]) ∧ AL w y p bm v (closeS S) (N + 1) ∧ Mv x y p bm v v := by
  have h1 := h.nw
  have h2 := h.tot
  refine (Close_any x p bm v S h.rep h.ok.bd (by omega)).mono ?_
  rintro e y ⟨rfl, t⟩
  refine ⟨rfl, h.of t (closeS_ok h.ok) ?_ ?_, t.mv⟩
  · rw [closeS_now]
    split <;> omega
  · rw [closeS_ls]
    have : (closeS S).gone = S.gone := by unfold closeS; split <;> rfl
    omega
theorem AL.barN (h : AL w x p bm v S N) (hN : N ≤ 15000000000000) (ep cnt : Int) (hb : barB S ep cnt = false) : Calls Try.prog 30 #[.pointer (some ⟨p, 0, none⟩), .int .i64 ep, .int .i64 cnt] x fun e y =>
    e = .returned (.tuple #[.slice none 0 0, .int .i64 101]) ∧ AL w y p bm v S N ∧ Mv x y p bm v v := by
  have h1 := h.nw
  have h2 := h.ok.old
  refine (Barrier_no x p bm v S ep cnt h.rep h.ok.bd (by omega) ⟨by omega, by omega⟩ hb).mono ?_
  rintro e y ⟨rfl, t⟩
  exact ⟨rfl, h.of t h.ok h.nw h.tot, t.mv⟩
theorem AL.bar0 (h : AL w x p bm v S N) (hN : N ≤ 15000000000000) (ep cnt : Int) (hb : barB S ep cnt = true) : Calls Try.prog 30 #[.pointer (some ⟨p, 0, none⟩), .int .i64 ep, .int .i64 cnt] x fun e y =>
    ∃ lv v', e = .returned (.tuple #[lv, .int .i64 0]) ∧ ERow y lv (S.es.take (frontN S)) ∧ (∀ g, lv.ownBlock = some g → v.ownBlock = some g) ∧ AL w y p bm v' (leaveS S (frontN S)) N ∧ Mv x y p bm v v' := by
  have h1 := h.nw
  have h2 := h.ok.old
  have h3 := h.tot
  refine (Barrier_ok x p bm v S ep cnt h.rep h.ok.bd (by omega) ⟨by omega, by omega⟩ (by omega) hb).mono ?_
  rintro e y ⟨lv, v', rfl, q⟩
  refine ⟨lv, v', rfl, q.out, q.own, h.of q.tn (leaveS_ok h.ok _) h.nw ?_, q.tn.mv⟩
  show S.gone + frontN S + (S.ls.drop _).length ≤ N
  have := frontN_le S
  rw [LS.es_len] at this
  rw [List.length_drop]
  omega
theorem AL.fail (h : AL w x p bm v S N) (hN : N ≤ 15000000000000) : Calls Try.prog 32 #[.pointer (some ⟨p, 0, none⟩)] x fun e y =>
    ∃ lv v', e = .returned lv ∧ ERow y lv S.es ∧ (∀ g, lv.ownBlock = some g → v.ownBlock = some g) ∧ AL w y p bm v' (failS S) N ∧ Mv x y p bm v v' := by
  have h3 := h.tot
  refine (Fail_any x p bm v S h.rep h.ok.bd (by omega)).mono ?_
  rintro e y ⟨lv, v', rfl, q⟩
  have ho := q.out
  rw [show ({ S with now := 1 } : LS).es.take S.es.length = S.es from List.take_length] at ho
  refine ⟨lv, v', rfl, ho, q.own, h.of q.tn (failS_ok h.ok) (by show 1 ≤ N + 1; omega) ?_, q.tn.mv⟩
  show S.gone + S.es.length + (S.ls.drop S.es.length).length ≤ N
  rw [LS.es_len, List.length_drop]
  omega
theorem AL.size (h : AL w x p bm v S N) : Calls Try.prog 13 #[.pointer (some ⟨p, 0, none⟩)] x fun e y => e = .returned (.int .i64 (S.es.length : Int)) ∧ ∃ m, y = x.drewN m := Size_any x p bm v S h.rep
theorem AL.opn (h : AL w x p bm v S N) : Calls Try.prog 11 #[.pointer (some ⟨p, 0, none⟩)] x fun e y => e = .returned (.int .i64 (S.now : Int)) ∧ ∃ m, y = x.drewN m := Open_any x p bm v S h.rep
theorem AL.epochs (h : AL w x p bm v S N) (hN : N ≤ 15000000000000) : Calls Try.prog 15 #[.pointer (some ⟨p, 0, none⟩)] x fun e y => e = .returned (.int .i64 ((S.now : Int) - oldE S)) ∧ ∃ m, y = x.drewN m := by
  have h1 := h.nw
  have h2 := h.ok.old
  exact Epochs_any x p bm v S h.rep h.ok.bd.es (by omega) ⟨by omega, by omega⟩
theorem AL.settled (h : AL w x p bm v S N) (z : Int) : Calls Try.prog 21 #[.pointer (some ⟨p, 0, none⟩), .int .i64 z] x fun e y => e = .returned (.bool (decide (S.es.length = 0) || decide (z < (S.es.getD 0 e0).2.2))) ∧ ∃ m, y = x.drewN m := Settled_any x p bm v S z h.rep h.ok.bd.es
/-- what Ack does to a log -/
inductive AckR (S : LS) (id : Int) : LS → En → Int → Prop
  | no (h : id ∉ ids S.ls) : AckR S id S e0 103
  | twice (i : Nat) (x : En) (h : S.ls[i]? = some (x, true)) (hx : x.1 = id) : AckR S id S e0 102
  | ok (i : Nat) (x : En) (h : S.ls[i]? = some (x, false)) (hx : x.1 = id) : AckR S id (ackS S i x) x 0
theorem AckR.es {S S' : LS} {id : Int} {x : En} {r : Int} (h : AckR S id S' x r) : S'.es = S.es ∧ S'.now = S.now ∧ S'.ep = S.ep ∧ S'.lim = S.lim := by
  cases h with
  | no h => exact ⟨rfl, rfl, rfl, rfl⟩
  | twice i x h hx => exact ⟨rfl, rfl, rfl, rfl⟩
  | ok i x h hx => exact ⟨set_es h, rfl, rfl, rfl⟩
theorem AL.ack (h : AL w x p bm v S N) (hN : N ≤ 15000000000000) (id : Int) (hid : i64ok id) : Calls Try.prog 27 #[.pointer (some ⟨p, 0, none⟩), .int .i64 id] x fun e y =>
    ∃ S' z r, AckR S id S' z r ∧ e = .returned (.tuple #[enV z, .int .i64 r]) ∧ AL w y p bm v S' N ∧ Mv x y p bm v v := by
  have h3 := h.tot
  by_cases hm : id ∈ ids S.ls
  · obtain ⟨i, hi⟩ := List.getElem?_of_mem hm
    simp only [ids, List.getElem?_map, Option.map_eq_some_iff] at hi
    obtain ⟨⟨z, b⟩, hx, rfl⟩ := hi
    cases b with
    | true =>
      refine (Ack_twice x p bm v S i z h.rep hid hx).mono ?_
      rintro e y ⟨rfl, t⟩
      exact ⟨_, _, _, .twice i z hx rfl, rfl, h.of t h.ok h.nw h.tot, t.mv⟩
    | false =>
      refine (Ack_ok x p bm v S i z h.rep h.ok.bd hx (by omega)).mono ?_
      rintro e y ⟨rfl, t⟩
      refine ⟨_, _, _, .ok i z hx rfl, rfl, h.of t (ackS_ok h.ok hx) h.nw ?_, t.mv⟩
      show S.gone + (S.ls.set i _).length ≤ N
      rw [List.length_set]
      omega
  · refine (Ack_no x p bm v S id h.rep hid hm).mono ?_
    rintro e y ⟨rfl, t⟩
    exact ⟨_, _, _, .no hm, rfl, h.of t h.ok h.nw h.tot, t.mv⟩
end
/-- a log and a list of writes beside it -/
structure R2 (w x : World) (p bm : Nat) (v : Value) (S : LS) (N : Nat) (iv : Value) (l : List En) : Prop where
  al : AL w x p bm v S N
  lst : ERow x iv l
  own : ∀ g, iv.ownBlock = some g → w.heap.size ≤ g
  ap : ∀ g, iv.ownBlock = some g → ¬ LU p bm v g
section
variable {w x y z : World} {p bm : Nat} {v v' iv iv' : Value} {S S' : LS} {N N' : Nat} {l l' : List En}
theorem R2.move (h : R2 w x p bm v S N iv l) (a : AL w y p bm v' S' N') (m : Mv x y p bm v v') : R2 w y p bm v' S' N' iv l :=
  ⟨a, h.lst.kept fun g e => m.chg.keep g (h.lst.lt e) (h.ap g e), h.own, fun g e hu => by
    rcases m.loc g hu with q | q
    · exact h.ap g e q
    · have := h.lst.lt e; omega⟩
theorem R2.below (h : R2 w x p bm v S N iv l) (hb : Below x.heap.size x y) : R2 w y p bm v S N iv l := h.move (h.al.below hb) (Mv.ofBelow hb)
theorem R2.app (h : R2 w x p bm v S N iv l) (hx : Below x.heap.size x z) (ha : App z y iv iv') (he : ERow y iv' l') : R2 w y p bm v S N iv' l' := by
  have h2 := h.below hx
  have hlt := h2.al.rep.lt
  refine ⟨⟨h2.al.rep.kept fun g e => ha.chg.keep g (hlt g e) fun q => h2.ap g q e, h2.al.bel.trans (ha.chg.below h2.al.bel.size h2.own), h2.al.own, h2.al.ok, h2.al.nw, h2.al.tot⟩, he, fun g e => ?_, fun g e q => ?_⟩
  · rcases ha.loc g e with q | q
    · exact h2.own g q
    · exact Nat.le_trans h2.al.bel.size q
  · rcases ha.loc g e with q2 | q2
    · exact h2.ap g q2 q
    · have := hlt g q; omega
theorem R2.sub (h : R2 w x p bm v S N iv l) (he : ERow x iv' l') (hs : ∀ g, iv'.ownBlock = some g → iv.ownBlock = some g) : R2 w x p bm v S N iv' l' := ⟨h.al, he, fun g e => h.own g (hs g e), fun g e => h.ap g (hs g e)⟩
theorem R2.nil (h : AL w x p bm v S N) : R2 w x p bm v S N (.slice none 0 0) [] := ⟨h, ERow.nil _, fun g e => by simp [Value.ownBlock] at e, fun g e => by simp [Value.ownBlock] at e⟩
end
end Go.Proofs.Ytcdmkbjibcahcab
