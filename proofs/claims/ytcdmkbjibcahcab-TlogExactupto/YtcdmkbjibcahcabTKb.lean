import Derived.Test.YtcdmkbjibcahcabTWs
namespace Go.Proofs.Ytcdmkbjibcahcab
open Go.RowKit
set_option linter.unusedVariables false
set_option linter.unusedSimpArgs false
set_option maxRecDepth 20000

/-- the book's row and its four lists of lists -/
structure B4 (x : World) (b : Nat) (fv wv kv tv : Value) (mk : Nat) (F W K T : VL) : Prop where
  row : x.heap[b]? = some (.cells #[fv, wv, kv, tv, .int .i64 (mk : Int)] 32 (0, 0))
  f : x.ownsRow 0 46 1 fv F.length (F.map Prod.fst)
  w : x.ownsRow 0 46 1 wv W.length (W.map Prod.fst)
  k : x.ownsRow 0 46 1 kv K.length (K.map Prod.fst)
  t : x.ownsRow 0 46 1 tv T.length (T.map Prod.fst)
  n1 : ∀ g, fv.ownBlock = some g → wv.ownBlock ≠ some g ∧ kv.ownBlock ≠ some g ∧ tv.ownBlock ≠ some g
  n2 : ∀ g, wv.ownBlock = some g → kv.ownBlock ≠ some g ∧ tv.ownBlock ≠ some g
  n3 : ∀ g, kv.ownBlock = some g → tv.ownBlock ≠ some g
section
variable {x y w3 : World} {b : Nat} {fv wv kv tv fv' wv' : Value} {mk : Nat} {F W K T : VL} {u : Value × List En}
theorem B4.calm (h : B4 x b fv wv kv tv mk F W K T) (hb : Below x.heap.size x y) : B4 y b fv wv kv tv mk F W K T :=
  ⟨(hb.block b (Array.getElem?_eq_some_iff.1 h.row).1).trans h.row, rowKept h.f fun g e => hb.block g (World.ownsRow.lt h.f g e).2, rowKept h.w fun g e => hb.block g (World.ownsRow.lt h.w g e).2, rowKept h.k fun g e => hb.block g (World.ownsRow.lt h.k g e).2, rowKept h.t fun g e => hb.block g (World.ownsRow.lt h.t g e).2, h.n1, h.n2, h.n3⟩
theorem B4.c0 (h : B4 x b fv wv kv tv mk F W K T) : x.cell? ⟨b, 0, none⟩ = some fv := by rw [cell_of_row _ _ _ _ _ _ h.row]; rfl
theorem B4.c1 (h : B4 x b fv wv kv tv mk F W K T) : x.cell? ⟨b, 1, none⟩ = some wv := by rw [cell_of_row _ _ _ _ _ _ h.row]; rfl
theorem B4.fz (h : B4 x b fv wv kv tv mk F W K T) (i : Nat) : x.frozen? ⟨b, i, none⟩ = false := frozen_of_row _ _ _ _ 32 h.row
theorem vrow_ne {v : Value} {n : Nat} {xs cs : List Value} {c9 : Array Value} (h : x.ownsRow 0 46 1 v n xs) (hr : x.heap[b]? = some (.cells c9 32 (0, 0))) {g : Nat} (e : v.ownBlock = some g) : g ≠ b := fun e2 => by
  subst e2
  obtain ⟨cs, hc⟩ := vrow_cells h e
  exact neType hc hr (by decide) rfl
/-- one of the lists of lists has grown, its new value goes into the row -/
theorem B4.pushF (h : B4 y b fv wv kv tv mk F W K T) (ho : w3.ownsRow 0 46 1 fv' (F ++ [u]).length ((F ++ [u]).map Prod.fst)) (ha : App y w3 fv fv') :
    B4 (w3.setCell ⟨b, 0, none⟩ fv') b fv' wv kv tv mk (F ++ [u]) W K T ∧ Chg (fun g => g = b ∨ fv.ownBlock = some g) y (w3.setCell ⟨b, 0, none⟩ fv') ∧ w3.cell? ⟨b, 0, none⟩ = some fv ∧ w3.frozen? ⟨b, 0, none⟩ = false := by
  have hbl := (Array.getElem?_eq_some_iff.1 h.row).1
  have hrow := (ha.chg.keep b hbl fun e => vrow_ne (cs := []) h.f h.row e rfl).trans h.row
  have kp : ∀ (v9 : Value) (n : Nat) (xs : List Value), y.ownsRow 0 46 1 v9 n xs → (∀ g, v9.ownBlock = some g → fv.ownBlock ≠ some g) → (w3.setCell ⟨b, 0, none⟩ fv').ownsRow 0 46 1 v9 n xs := fun v9 n xs h9 hn => rowKept h9 fun g e => (Go.heap_setCell_other _ _ _ _ (show g ≠ b from vrow_ne (cs := []) h9 h.row e)).trans (ha.chg.keep g (World.ownsRow.lt h9 g e).2 (hn g e))
  have ap : ∀ (v9 : Value) (n : Nat) (xs : List Value), y.ownsRow 0 46 1 v9 n xs → (∀ g, fv.ownBlock = some g → v9.ownBlock ≠ some g) → ∀ g, fv'.ownBlock = some g → v9.ownBlock ≠ some g := fun v9 n xs h9 hn g e e2 => by
    rcases ha.loc g e with q | q
    · exact hn g q e2
    · have := (World.ownsRow.lt h9 g e2).2; omega
  exact ⟨⟨Go.heap_setCell_same w3 b 0 _ 32 _ hrow, rowKept ho fun g e => Go.heap_setCell_other _ _ _ _ (show g ≠ b from vrow_ne (cs := []) ho hrow e), kp _ _ _ h.w fun g e e2 => (h.n1 g e2).1 e, kp _ _ _ h.k fun g e e2 => (h.n1 g e2).2.1 e, kp _ _ _ h.t fun g e e2 => (h.n1 g e2).2.2 e, fun g e => ⟨ap _ _ _ h.w (fun g e => (h.n1 g e).1) g e, ap _ _ _ h.k (fun g e => (h.n1 g e).2.1) g e, ap _ _ _ h.t (fun g e => (h.n1 g e).2.2) g e⟩, h.n2, h.n3⟩, chg_set (U := fun g => g = b ∨ fv.ownBlock = some g) ⟨ha.chg.os, ha.chg.tape, ha.chg.output, ha.chg.size, fun g hg hn => ha.chg.keep g hg fun e => hn (.inr e)⟩ b 0 _ (.inl (.inl rfl)), (cell_of_row _ _ _ _ _ _ hrow).trans rfl, frozen_of_row _ _ _ _ 32 hrow⟩
theorem B4.pushW (h : B4 y b fv wv kv tv mk F W K T) (ho : w3.ownsRow 0 46 1 wv' (W ++ [u]).length ((W ++ [u]).map Prod.fst)) (ha : App y w3 wv wv') :
    B4 (w3.setCell ⟨b, 1, none⟩ wv') b fv wv' kv tv mk F (W ++ [u]) K T ∧ Chg (fun g => g = b ∨ wv.ownBlock = some g) y (w3.setCell ⟨b, 1, none⟩ wv') ∧ w3.cell? ⟨b, 1, none⟩ = some wv ∧ w3.frozen? ⟨b, 1, none⟩ = false := by
  have hbl := (Array.getElem?_eq_some_iff.1 h.row).1
  have hrow := (ha.chg.keep b hbl fun e => vrow_ne (cs := []) h.w h.row e rfl).trans h.row
  have kp : ∀ (v9 : Value) (n : Nat) (xs : List Value), y.ownsRow 0 46 1 v9 n xs → (∀ g, v9.ownBlock = some g → wv.ownBlock ≠ some g) → (w3.setCell ⟨b, 1, none⟩ wv').ownsRow 0 46 1 v9 n xs := fun v9 n xs h9 hn => rowKept h9 fun g e => (Go.heap_setCell_other _ _ _ _ (show g ≠ b from vrow_ne (cs := []) h9 h.row e)).trans (ha.chg.keep g (World.ownsRow.lt h9 g e).2 (hn g e))
  have ap : ∀ (v9 : Value) (n : Nat) (xs : List Value), y.ownsRow 0 46 1 v9 n xs → (∀ g, wv.ownBlock = some g → v9.ownBlock ≠ some g) → ∀ g, wv'.ownBlock = some g → v9.ownBlock ≠ some g := fun v9 n xs h9 hn g e e2 => by
    rcases ha.loc g e with q | q
    · exact hn g q e2
    · have := (World.ownsRow.lt h9 g e2).2; omega
  exact ⟨⟨Go.heap_setCell_same w3 b 1 _ 32 _ hrow, kp _ _ _ h.f fun g e => (h.n1 g e).1, rowKept ho fun g e => Go.heap_setCell_other _ _ _ _ (show g ≠ b from vrow_ne (cs := []) ho hrow e), kp _ _ _ h.k fun g e e2 => (h.n2 g e2).1 e, kp _ _ _ h.t fun g e e2 => (h.n2 g e2).2 e, fun g e => ⟨fun e2 => ap _ _ _ h.f (fun g e e2 => (h.n1 g e2).1 e) g e2 e, (h.n1 g e).2⟩, fun g e => ⟨ap _ _ _ h.k (fun g e => (h.n2 g e).1) g e, ap _ _ _ h.t (fun g e => (h.n2 g e).2) g e⟩, h.n3⟩, chg_set (U := fun g => g = b ∨ wv.ownBlock = some g) ⟨ha.chg.os, ha.chg.tape, ha.chg.output, ha.chg.size, fun g hg hn => ha.chg.keep g hg fun e => hn (.inr e)⟩ b 1 _ (.inl (.inl rfl)), (cell_of_row _ _ _ _ _ _ hrow).trans rfl, frozen_of_row _ _ _ _ 32 hrow⟩
/-- lists of writes lie apart from the book's row and from lists of lists -/
theorem ERow.beside4 {v : Value} {l : List En} {vv : Value} {n : Nat} {xs : List Value} {c9 : Array Value} (h : ERow y v l) (hr : y.heap[b]? = some (.cells c9 32 (0, 0))) (hv : y.ownsRow 0 46 1 vv n xs) (hc : Chg (fun g => g = b ∨ vv.ownBlock = some g) y w3) : ERow w3 v l := h.kept fun g e => by
  obtain ⟨cs, h1⟩ := h.cells e
  refine hc.keep g (h.lt e) ?_
  rintro (e2 | e2)
  · exact neType h1 hr (by decide) e2
  · obtain ⟨ds, h2⟩ := vrow_cells hv e2
    exact neType h1 h2 (by decide) rfl
end
/-- Book.keep on its way to its question: w the world at its begin -/
structure KS (w x : World) (b : Nat) (fv0 wv0 fv wv kv tv : Value) (mk : Nat) (F W K T : VL) : Prop where
  b4 : B4 x b fv wv kv tv mk F W K T
  ck : Ck (fun _ _ => False) w x
  chg : Chg (fun g => g = b ∨ fv0.ownBlock = some g ∨ wv0.ownBlock = some g) w x
  fl : ∀ g, fv.ownBlock = some g → fv0.ownBlock = some g ∨ w.heap.size ≤ g
  wl : ∀ g, wv.ownBlock = some g → wv0.ownBlock = some g ∨ w.heap.size ≤ g
section
variable {w x y w3 : World} {b : Nat} {fv0 wv0 fv wv kv tv fv' wv' : Value} {mk : Nat} {F W K T : VL} {u : Value × List En}
theorem KS.calm (h : KS w x b fv0 wv0 fv wv kv tv mk F W K T) (hb : Below x.heap.size x y) : KS w y b fv0 wv0 fv wv kv tv mk F W K T := ⟨h.b4.calm hb, h.ck.calm hb, h.chg.trans (Chg.ofBelow hb), h.fl, h.wl⟩
theorem KS.pushF (h : KS w y b fv0 wv0 fv wv kv tv mk F W K T) (ho : w3.ownsRow 0 46 1 fv' (F ++ [u]).length ((F ++ [u]).map Prod.fst)) (ha : App y w3 fv fv') :
    KS w (w3.setCell ⟨b, 0, none⟩ fv') b fv0 wv0 fv' wv kv tv mk (F ++ [u]) W K T ∧ (∀ z m, ERow y z m → ERow (w3.setCell ⟨b, 0, none⟩ fv') z m) ∧ w3.cell? ⟨b, 0, none⟩ = some fv ∧ w3.frozen? ⟨b, 0, none⟩ = false := by
  obtain ⟨p1, p2, p3, p4⟩ := h.b4.pushF ho ha
  refine ⟨⟨p1, h.ck.trans (Ck.ofChg p2 ?_), h.chg.trans' p2 ?_, fun g e => ?_, h.wl⟩, fun z m hz => hz.beside4 h.b4.row h.b4.f p2, p3, p4⟩
  · rintro g (rfl | e) cs hc
    · exact neType hc h.b4.row (by decide) rfl
    · obtain ⟨ds, hd⟩ := vrow_cells h.b4.f e
      exact neType hc hd (by decide) rfl
  · rintro g hg (rfl | e)
    · exact .inl rfl
    · rcases h.fl g e with q | q
      · exact .inr (.inl q)
      · omega
  · rcases ha.loc g e with q | q
    · exact h.fl g q
    · exact .inr (Nat.le_trans h.chg.size q)
theorem KS.pushW (h : KS w y b fv0 wv0 fv wv kv tv mk F W K T) (ho : w3.ownsRow 0 46 1 wv' (W ++ [u]).length ((W ++ [u]).map Prod.fst)) (ha : App y w3 wv wv') :
    KS w (w3.setCell ⟨b, 1, none⟩ wv') b fv0 wv0 fv wv' kv tv mk F (W ++ [u]) K T ∧ (∀ z m, ERow y z m → ERow (w3.setCell ⟨b, 1, none⟩ wv') z m) ∧ w3.cell? ⟨b, 1, none⟩ = some wv ∧ w3.frozen? ⟨b, 1, none⟩ = false := by
  obtain ⟨p1, p2, p3, p4⟩ := h.b4.pushW ho ha
  refine ⟨⟨p1, h.ck.trans (Ck.ofChg p2 ?_), h.chg.trans' p2 ?_, h.fl, fun g e => ?_⟩, fun z m hz => hz.beside4 h.b4.row h.b4.w p2, p3, p4⟩
  · rintro g (rfl | e) cs hc
    · exact neType hc h.b4.row (by decide) rfl
    · obtain ⟨ds, hd⟩ := vrow_cells h.b4.w e
      exact neType hc hd (by decide) rfl
  · rintro g hg (rfl | e)
    · exact .inl rfl
    · rcases h.wl g e with q | q
      · exact .inr (.inr q)
      · omega
  · rcases ha.loc g e with q | q
    · exact h.wl g q
    · exact .inr (Nat.le_trans h.chg.size q)
end
end Go.Proofs.Ytcdmkbjibcahcab
