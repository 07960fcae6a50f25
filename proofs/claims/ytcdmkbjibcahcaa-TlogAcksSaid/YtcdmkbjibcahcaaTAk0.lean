import Derived.Test.YtcdmkbjibcahcaaTAkM
import Derived.Test.YtcdmkbjibcahcaaTUna
import Derived.Test.YtcdmkbjibcahcaaTR3
namespace Go.Proofs.Ytcdmkbjibcahcaa
open Go.RowKit
set_option linter.unusedVariables false
set_option linter.unusedSimpArgs false
set_option maxRecDepth 20000

theorem AL.unacked {w x : World} {p bm : Nat} {v : Value} {S : LS} {N : Nat} (h : AL w x p bm v S N) (hN : N ≤ 15000000000000) : Calls Try.prog 27 #[.pointer (some ⟨p, 0, none⟩)] x fun e y => ∃ lv, e = .returned lv ∧ ERow y lv (una S.ls) ∧ Below x.heap.size x y := by
  have h3 := h.tot
  refine (Unacked_any x p bm v S h.rep h.ok.bd.nd h.ok.bd.es (by omega)).mono ?_
  rintro e y ⟨lv, rfl, q1, -, q2⟩
  exact ⟨lv, rfl, q1, q2⟩
/-- a log and the law's two lists -/
structure W2 (w x : World) (p bm : Nat) (v : Value) (S : LS) (N : Nat) (iv : Value) (il : List En) (wv : Value) (wl : List En) : Prop where
  r2 : R2 w x p bm v S N iv il
  lst : ERow x wv wl
  own : ∀ b, wv.ownBlock = some b → w.heap.size ≤ b
  ap : ∀ b, wv.ownBlock = some b → ¬ LU p bm v b ∧ iv.ownBlock ≠ some b
/-- .. and an operation's box -/
structure W3 (w x : World) (p bm : Nat) (v : Value) (S : LS) (N : Nat) (iv : Value) (il : List En) (wv : Value) (wl : List En) (g : Nat) (s : OpV) : Prop where
  r3 : R3 w x p bm v S N iv il g s
  lst : ERow x wv wl
  own : ∀ b, wv.ownBlock = some b → w.heap.size ≤ b
  ap : ∀ b, wv.ownBlock = some b → ¬ LU p bm v b ∧ iv.ownBlock ≠ some b ∧ b ≠ g
section
variable {w x y z : World} {p bm : Nat} {v v' iv iv' wv wv' : Value} {S S' : LS} {N N' : Nat} {il il' wl wl' : List En} {g : Nat} {s : OpV}
theorem W2.nil (h : AL w x p bm v S N) : W2 w x p bm v S N (.slice none 0 0) [] (.slice none 0 0) [] := ⟨R2.nil h, ERow.nil _, fun b e => by simp [Value.ownBlock] at e, fun b e => by simp [Value.ownBlock] at e⟩
theorem W3.start (h : W2 w x p bm v S N iv il wv wl) (s : OpV) : W3 w (x.alloc (.cells s.row 29)) p bm v S N iv il wv wl x.heap.size s :=
  ⟨R3.start h.r2 s, h.lst.below (below_alloc x _), h.own, fun b e => ⟨(h.ap b e).1, (h.ap b e).2, fun e2 => by have := h.lst.lt e; omega⟩⟩
theorem W3.w2 (h : W3 w x p bm v S N iv il wv wl g s) : W2 w x p bm v S N iv il wv wl := ⟨h.r3.r2, h.lst, h.own, fun b e => ⟨(h.ap b e).1, (h.ap b e).2.1⟩⟩
theorem W3.move (h : W3 w x p bm v S N iv il wv wl g s) (a : AL w y p bm v' S' N') (m : Mv x y p bm v v') : W3 w y p bm v' S' N' iv il wv wl g s :=
  ⟨h.r3.move a m, h.lst.kept fun b e => m.chg.keep b (h.lst.lt e) (h.ap b e).1, h.own, fun b e => ⟨fun hu => by
    rcases m.loc b hu with q | q
    · exact (h.ap b e).1 q
    · have := h.lst.lt e; omega, (h.ap b e).2⟩⟩
theorem W3.below (h : W3 w x p bm v S N iv il wv wl g s) (hb : Below x.heap.size x y) : W3 w y p bm v S N iv il wv wl g s := h.move (h.r3.r2.al.below hb) (Mv.ofBelow hb)
theorem W3.more (h : W3 w x p bm v S N iv il wv wl g s) (hn : N ≤ N') : W3 w x p bm v S N' iv il wv wl g s := ⟨h.r3.more hn, h.lst, h.own, h.ap⟩
theorem W3.appI (h : W3 w x p bm v S N iv il wv wl g s) (hx : Below x.heap.size x z) (ha : App z y iv iv') (he : ERow y iv' il') : W3 w y p bm v S N iv' il' wv wl g s := by
  have h2 := h.below hx
  refine ⟨h.r3.app hx ha he, h2.lst.kept fun b e => ha.chg.keep b (h2.lst.lt e) (h2.ap b e).2.1, h.own, fun b e => ⟨(h2.ap b e).1, fun e2 => ?_, (h2.ap b e).2.2⟩⟩
  rcases ha.loc b e2 with q | q
  · exact (h2.ap b e).2.1 q
  · have := h2.lst.lt e; omega
theorem W3.appW (h : W3 w x p bm v S N iv il wv wl g s) (hx : Below x.heap.size x z) (ha : App z y wv wv') (he : ERow y wv' wl') : W3 w y p bm v S N iv il wv' wl' g s := by
  have h2 := h.below hx
  have hlt := h2.r3.r2.al.rep.lt
  have kp : ∀ b, b < z.heap.size → wv.ownBlock ≠ some b → y.heap[b]? = z.heap[b]? := fun b hb hn => ha.chg.keep b hb hn
  refine ⟨⟨⟨⟨h2.r3.r2.al.rep.kept fun b e => kp b (hlt b e) fun q => (h2.ap b q).1 e, h2.r3.r2.al.bel.trans (ha.chg.below h2.r3.r2.al.bel.size h2.own), h2.r3.r2.al.own, h2.r3.r2.al.ok, h2.r3.r2.al.nw, h2.r3.r2.al.tot⟩, h2.r3.r2.lst.kept fun b e => kp b (h2.r3.r2.lst.lt e) fun q => (h2.ap b q).2.1 e, h2.r3.r2.own, h2.r3.r2.ap⟩, (kp g h2.r3.lt fun q => (h2.ap g q).2.2 rfl).trans h2.r3.bx, h2.r3.ng, h2.r3.ni, h2.r3.og⟩, he, fun b e => ?_, fun b e => ?_⟩
  · rcases ha.loc b e with q | q
    · exact h2.own b q
    · exact Nat.le_trans h2.r3.r2.al.bel.size q
  · rcases ha.loc b e with q | q
    · exact h2.ap b q
    · exact ⟨fun e2 => by have := hlt b e2; omega, fun e2 => by have := h2.r3.r2.lst.lt e2; omega, fun e2 => by have := h2.r3.lt; omega⟩
theorem W3.subI (h : W3 w x p bm v S N iv il wv wl g s) (he : ERow x iv' il') (hs : ∀ b, iv'.ownBlock = some b → iv.ownBlock = some b) : W3 w x p bm v S N iv' il' wv wl g s :=
  ⟨h.r3.sub he hs, h.lst, h.own, fun b e => ⟨(h.ap b e).1, fun e2 => (h.ap b e).2.1 (hs b e2), (h.ap b e).2.2⟩⟩
theorem W3.cast (h : W3 w x p bm v S N iv il wv wl g s) (e1 : il = il') (e2 : wl = wl') : W3 w x p bm v S N iv il' wv wl' g s := by subst e1; subst e2; exact h
/-- a new list while nothing else turns -/
structure RI (x y : World) (rv : Value) (rl : List En) : Prop where
  bel : Below x.heap.size x y
  row : ERow y rv rl
  own : ∀ b, rv.ownBlock = some b → x.heap.size ≤ b
theorem RI.nil (x : World) : RI x x (.slice none 0 0) [] := ⟨Below.refl _ _, ERow.nil _, fun b e => by simp [Value.ownBlock] at e⟩
theorem RI.below {rv : Value} {rl : List En} (h : RI x y rv rl) (hb : Below y.heap.size y z) : RI x z rv rl := ⟨h.bel.trans (hb.mono h.bel.size), h.row.below hb, h.own⟩
theorem RI.app {y' : World} {rv rv' : Value} {rl rl' : List En} (h : RI x y rv rl) (hb : Below y.heap.size y z) (ha : App z y' rv rv') (he : ERow y' rv' rl') : RI x y' rv' rl' := by
  have h2 := h.below hb
  refine ⟨h2.bel.trans (ha.chg.below h2.bel.size h2.own), he, fun b e => ?_⟩
  rcases ha.loc b e with q | q
  · exact h2.own b q
  · exact Nat.le_trans h2.bel.size q
theorem W3.rest {rv : Value} {rl : List En} (h : W3 w x p bm v S N iv il wv wl g s) (hr : RI x y rv rl) : W3 w y p bm v S N iv il rv rl g s := by
  have h2 := h.below hr.bel
  have hlt := h.r3.r2.al.rep.lt
  refine ⟨h2.r3, hr.row, fun b e => Nat.le_trans h.r3.r2.al.bel.size (hr.own b e), fun b e => ?_⟩
  have := hr.own b e
  exact ⟨fun e2 => by have := hlt b e2; omega, fun e2 => by have := h.r3.r2.lst.lt e2; omega, fun e2 => by have := h.r3.lt; omega⟩
theorem W3.reads {wa : Option Addr} {m wc zb : Nat} {z : En} (h : W3 w x p bm v S N iv il (.slice wa m wc) wl g s) (hz : x.heap[zb]? = some (.cells #[.int .i64 z.1, .int .i64 z.2.1, .int .i64 z.2.2] 36 (0, 0))) (y : World) (hb : Below x.heap.size x y) :
    ((y.cell? ⟨zb, 0, none⟩ = some (.int .i64 z.1) ∧ y.cell? ⟨zb, 1, none⟩ = some (.int .i64 z.2.1)) ∧ y.cell? ⟨zb, 2, none⟩ = some (.int .i64 z.2.2) ∧ y.cell? ⟨g, 2, none⟩ = some (.int .i64 s.a)) ∧
    ∀ k, k < wl.length → ∃ gw ow, wa = some ⟨gw, ow, none⟩ ∧ y.cell? ⟨gw, ow + k * 3, none⟩ = some (.int .i64 (wl.getD k e0).1) ∧ y.cell? ⟨gw, ow + k * 3 + 1, none⟩ = some (.int .i64 (wl.getD k e0).2.1) ∧ y.cell? ⟨gw, ow + k * 3 + 2, none⟩ = some (.int .i64 (wl.getD k e0).2.2) := by
  have hzl : zb < x.heap.size := (Array.getElem?_eq_some_iff.1 hz).1
  have hz' : y.heap[zb]? = some (.cells #[.int .i64 z.1, .int .i64 z.2.1, .int .i64 z.2.2] 36 (0, 0)) := (hb.block zb hzl).trans hz
  refine ⟨⟨⟨?_, ?_⟩, ?_, ?_⟩, fun k hk => ?_⟩
  · rw [cell_of_row _ _ _ _ _ _ hz']; rfl
  · rw [cell_of_row _ _ _ _ _ _ hz']; rfl
  · rw [cell_of_row _ _ _ _ _ _ hz']; rfl
  · rw [World.cell?_of_block (hb.block g h.r3.lt)]; exact h.r3.c.2.1.1
  · obtain ⟨a, c, e, -, -, hc⟩ := h.lst.form
    simp only [Value.slice.injEq] at e
    obtain ⟨gw, ow, ea, hl, d0, d1, d2⟩ := hc k hk
    exact ⟨gw, ow, e.1.trans ea, by rw [World.cell?_of_block (hb.block gw hl)]; exact d0, by rw [World.cell?_of_block (hb.block gw hl)]; exact d1, by rw [World.cell?_of_block (hb.block gw hl)]; exact d2⟩
theorem W3.waits {wa : Option Addr} {m wc : Nat} (h : W3 w x p bm v S N iv il (.slice wa m wc) wl g s) (y : World) (hb : Below x.heap.size x y) (k : Nat) (hk : k < wl.length) :
    ∃ gw ow, wa = some ⟨gw, ow, none⟩ ∧ y.cell? ⟨gw, ow + k * 3, none⟩ = some (.int .i64 (wl.getD k e0).1) ∧ y.cell? ⟨gw, ow + k * 3 + 1, none⟩ = some (.int .i64 (wl.getD k e0).2.1) ∧ y.cell? ⟨gw, ow + k * 3 + 2, none⟩ = some (.int .i64 (wl.getD k e0).2.2) := by
  obtain ⟨a, c, e, -, -, hc⟩ := h.lst.form
  simp only [Value.slice.injEq] at e
  obtain ⟨gw, ow, ea, hl, d0, d1, d2⟩ := hc k hk
  exact ⟨gw, ow, e.1.trans ea, by rw [World.cell?_of_block (hb.block gw hl)]; exact d0, by rw [World.cell?_of_block (hb.block gw hl)]; exact d1, by rw [World.cell?_of_block (hb.block gw hl)]; exact d2⟩
end
theorem bar_nilA {S : LS} (h : S.es = []) (a b : Int) : barB S a b = false := by
  cases hb : barB S a b with
  | false => rfl
  | true => exact absurd (old_nil h) (barB_true hb).1
theorem ERow.isNilA {x : World} {v : Value} {l : List En} (h : ERow x v l) (e : l = []) : ERow x v [] := e ▸ h
theorem below_dr {x y : World} (q : Below x.drew.heap.size x.drew y) : Below x.heap.size x y := ⟨q.os, q.tape, q.output, q.size, q.block⟩
theorem hasB_take {l : List En} {z : Int} {k : Nat} (hk : k < l.length) : hasB (l.take (k + 1)) z = (hasB (l.take k) z || ((l.getD k e0).1 == z)) := by
  have e1 : l.take (k + 1) = l.take k ++ [l.getD k e0] := by
    rw [List.take_add_one]
    simp [List.getD, hk]
  rw [e1]
  simp [hasB]
theorem getD_mem {l : List En} {k : Nat} (hk : k < l.length) : l.getD k e0 ∈ l := by simp [List.getD, hk]
end Go.Proofs.Ytcdmkbjibcahcaa
