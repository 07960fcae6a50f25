import Derived.Test.YtedhohamdbplhaaDoorWBkA
namespace Go.Proofs.YtedhohamdbplhaaDoor
open Go.RowKit
set_option linter.unusedVariables false
set_option linter.unusedSimpArgs false
set_option maxRecDepth 20000

theorem info_lists : (Tryd.prog.info? 34).map (fun i => (i.zero, i.size, i.bytes)) = some (some (.slice none 0 0), 1, 24) := by kernel_rfl
/-- two lists share no block -/
def Sep (a b : Value) : Prop := ∀ g, a.ownBlock = some g → b.ownBlock ≠ some g
theorem Sep.symm {a b : Value} (h : Sep a b) : Sep b a := fun g e e2 => h g e2 e
/-- a list that is held -/
def Held (w : World) (u : Value) : Prop := ∃ l, BSl w u l ∧ ∀ g, u.ownBlock = some g → ∃ cs, w.heap[g]? = some (.cells cs 5 (0, 0))
/-- two lists read alike -/
def Alike (w : World) (u v : Value) : Prop := ∃ l, BSl w u l ∧ BSl w v l ∧ l.length ≤ 1000000000
/-- the book's four lists of lists in memory -/
structure Rows4 (w : World) (lo p : Nat) (F W K N : Value) (fs ws ks ns : List Value) (m : Int) : Prop where
  cell : w.heap[p]? = some (.cells #[F, W, K, N, .int .i64 m] 28 (0, 0))
  hp : lo ≤ p
  rF : w.ownsRow lo 34 1 F fs.length fs
  rW : w.ownsRow lo 34 1 W ws.length ws
  rK : w.ownsRow lo 34 1 K ks.length ks
  rN : w.ownsRow lo 34 1 N ns.length ns
  FW : Sep F W
  FK : Sep F K
  FN : Sep F N
  WK : Sep W K
  WN : Sep W N
  KN : Sep K N
/-- what the book holds: fresh lists and what they were, kept ones and what they must be; and the lists that are still to be handed to it -/
structure Bd (w : World) (lo : Nat) (fs ws ks ns pend : List Value) : Prop where
  fr : ∀ (i : Nat) (u v : Value), fs[i]? = some u → ws[i]? = some v → Alike w u v
  kp : ∀ (i : Nat) (u v : Value), ks[i]? = some u → ns[i]? = some v → Alike w u v
  ow : ∀ v : Value, v ∈ fs ∨ v ∈ pend → ∃ l, Own w lo v l ∧ l.length ≤ 1000000
  sep : (fs ++ pend).Pairwise Sep
  held : ∀ v : Value, v ∈ fs ∨ v ∈ pend → ∀ u : Value, u ∈ ws ∨ u ∈ ks ∨ u ∈ ns → Sep v u
  hl : ∀ u : Value, u ∈ ws ∨ u ∈ ks ∨ u ∈ ns → Held w u
theorem Alike.keep {w x : World} {u v : Value} (h : Alike w u v) (h1 : ∀ g, u.ownBlock = some g → x.heap[g]? = w.heap[g]?) (h2 : ∀ g, v.ownBlock = some g → x.heap[g]? = w.heap[g]?) : Alike x u v := by
  obtain ⟨l, a, b, c⟩ := h
  exact ⟨l, a.stay h1, b.stay h2, c⟩
theorem Held.keep {w x : World} {u : Value} (h : Held w u) (h1 : ∀ g, u.ownBlock = some g → x.heap[g]? = w.heap[g]?) : Held x u := by
  obtain ⟨l, a, b⟩ := h
  refine ⟨l, a.stay h1, fun g e => ?_⟩
  obtain ⟨cs, hc⟩ := b g e
  exact ⟨cs, (h1 g e).trans hc⟩
theorem Own.keepIf {w x : World} {lo : Nat} {v : Value} {l : List Nat} (h : Own w lo v l) (h1 : ∀ g, v.ownBlock = some g → x.heap[g]? = w.heap[g]?) : Own x lo v l := ⟨rowKept h.1 h1, h.2⟩
theorem Own.u8 {w : World} {lo : Nat} {v : Value} {l : List Nat} (h : Own w lo v l) {g : Nat} (e : v.ownBlock = some g) : ∃ cs, w.heap[g]? = some (.cells cs 5 (0, 0)) := rowCells h.1 e
theorem Own.ltO {w : World} {lo : Nat} {v : Value} {l : List Nat} (h : Own w lo v l) {g : Nat} (e : v.ownBlock = some g) : lo ≤ g ∧ g < w.heap.size := h.1.lt g e
theorem Own.held {w : World} {lo : Nat} {v : Value} {l : List Nat} (h : Own w lo v l) : Held w v := ⟨l, h.bsl, fun g e => h.u8 e⟩
/-- blocks of bytes stay, but those of U -/
def Stay8 (U : Nat → Prop) (w x : World) : Prop := ∀ (g : Nat) (cs : Array Value), w.heap[g]? = some (.cells cs 5 (0, 0)) → ¬ U g → x.heap[g]? = w.heap[g]?
theorem Bd.keep {w x : World} {lo : Nat} {fs ws ks ns pend : List Value} (h : Bd w lo fs ws ks ns pend) (U : Nat → Prop) (hk : Stay8 U w x) (hU : ∀ g : Nat, U g → (∀ v : Value, v ∈ fs ∨ v ∈ pend → v.ownBlock ≠ some g) ∧ ∀ u : Value, u ∈ ws ∨ u ∈ ks ∨ u ∈ ns → u.ownBlock ≠ some g) : Bd x lo fs ws ks ns pend := by
  have kf : ∀ v : Value, v ∈ fs ∨ v ∈ pend → ∀ g, v.ownBlock = some g → x.heap[g]? = w.heap[g]? := fun v hv g e => by
    obtain ⟨l, ho, -⟩ := h.ow v hv
    obtain ⟨cs, hc⟩ := ho.u8 e
    exact hk g cs hc fun hu => (hU g hu).1 v hv e
  have kh : ∀ u : Value, u ∈ ws ∨ u ∈ ks ∨ u ∈ ns → ∀ g, u.ownBlock = some g → x.heap[g]? = w.heap[g]? := fun u hu g e => by
    obtain ⟨l, -, hc⟩ := h.hl u hu
    obtain ⟨cs, hc⟩ := hc g e
    exact hk g cs hc fun hv => (hU g hv).2 u hu e
  refine ⟨fun i u v hu hv => (h.fr i u v hu hv).keep (kf u (.inl (List.mem_of_getElem? hu))) (kh v (.inl (List.mem_of_getElem? hv))), fun i u v hu hv => (h.kp i u v hu hv).keep (kh u (.inr (.inl (List.mem_of_getElem? hu)))) (kh v (.inr (.inr (List.mem_of_getElem? hv)))), fun v hv => ?_, h.sep, h.held, fun u hu => (h.hl u hu).keep (kh u hu)⟩
  obtain ⟨l, ho, hl⟩ := h.ow v hv
  exact ⟨l, ho.keepIf (kf v hv), hl⟩
theorem Bd.below {w x : World} {lo : Nat} {fs ws ks ns pend : List Value} (h : Bd w lo fs ws ks ns pend) (hb : Below w.heap.size w x) : Bd x lo fs ws ks ns pend := h.keep (fun _ => False) (fun g cs hc _ => hb.block g (Array.getElem?_eq_some_iff.1 hc).1) fun g e => e.elim
theorem rowLow {w : World} {lo b c n : Nat} {e : TypeId} {v : Value} {xs : List Value} (h : w.ownsRow b e c v n xs) (hl : ∀ g, v.ownBlock = some g → lo ≤ g) : w.ownsRow lo e c v n xs := by
  refine ⟨h.1, ?_⟩
  rcases h.2 with h0 | ⟨g, cap, cur, rfl, h1, r⟩
  · exact .inl h0
  · exact .inr ⟨g, cap, cur, rfl, hl g rfl, r⟩
theorem row0 {w : World} {lo c n : Nat} {e : TypeId} {v : Value} {xs : List Value} (h : w.ownsRow lo e c v n xs) : w.ownsRow 0 e c v n xs := rowLow h fun _ _ => Nat.zero_le _
theorem UponC.chg {w w' : World} {v v' : Value} (h : UponC w w' v v') : Chg (fun g => v.ownBlock = some g) w w' := ⟨h.same.1, h.same.2.1, h.same.2.2, h.size, fun b hb hn => h.block b hb hn⟩
theorem chg_set (w : World) (k i : Nat) (v : Value) : Chg (fun g => g = k) w (w.setCell ⟨k, i, none⟩ v) := ⟨rfl, rfl, rfl, by rw [World.size_setCell]; exact Nat.le_refl _, fun g hg hn => Go.heap_setCell_other _ _ _ _ hn⟩
theorem chg_push {U : Nat → Prop} {w w' : World} (h : Chg U w w') (k i : Nat) (v : Value) : Chg (fun g => g = k ∨ U g) w (w'.setCell ⟨k, i, none⟩ v) := ⟨h.os, h.tape, h.output, by rw [World.size_setCell]; exact h.size, fun g hg hn => (Go.heap_setCell_other _ _ _ _ fun e => hn (.inl e)).trans (h.keep g hg fun hu => hn (.inr hu))⟩
section
variable {w x y w3 : World} {lo p : Nat} {F W K N : Value} {fs ws ks ns : List Value} {m : Int}
theorem Rows4.c (h : Rows4 w lo p F W K N fs ws ks ns m) (i : Nat) : w.cell? ⟨p, i, none⟩ = (#[F, W, K, N, .int .i64 m] : Array Value)[i]? := cell_of_row _ _ _ _ _ _ h.cell
theorem Rows4.lt (h : Rows4 w lo p F W K N fs ws ks ns m) : p < w.heap.size := (Array.getElem?_eq_some_iff.1 h.cell).1
theorem Rows4.keep (h : Rows4 w lo p F W K N fs ws ks ns m) (hk : ∀ (g : Nat) (cs : Array Value) (t : TypeId), w.heap[g]? = some (.cells cs t (0, 0)) → t = 28 ∨ t = 34 → x.heap[g]? = w.heap[g]?) : Rows4 x lo p F W K N fs ws ks ns m := by
  have rr : ∀ {v : Value} {n : Nat} {xs : List Value}, w.ownsRow lo 34 1 v n xs → x.ownsRow lo 34 1 v n xs := fun hr => rowKept hr fun g e => by
    obtain ⟨cs, hc⟩ := rowCells hr e
    exact hk g _ _ hc (.inr rfl)
  exact ⟨(hk p _ _ h.cell (.inl rfl)).trans h.cell, h.hp, rr h.rF, rr h.rW, rr h.rK, rr h.rN, h.FW, h.FK, h.FN, h.WK, h.WN, h.KN⟩
theorem Rows4.below (h : Rows4 w lo p F W K N fs ws ks ns m) (hb : Below w.heap.size w x) : Rows4 x lo p F W K N fs ws ks ns m := h.keep fun g cs t hc _ => hb.block g (Array.getElem?_eq_some_iff.1 hc).1
/-- only bytes turn -/
theorem Rows4.chg8 {U : Nat → Prop} (h : Rows4 w lo p F W K N fs ws ks ns m) (hc : Chg U w x) (hU : ∀ g : Nat, g < w.heap.size → U g → ∃ cs : Array Value, w.heap[g]? = some (.cells cs 5 (0, 0))) : Rows4 x lo p F W K N fs ws ks ns m := h.keep fun g cs t hg ht => hc.keep g (Array.getElem?_eq_some_iff.1 hg).1 fun hu => by
  obtain ⟨ds, hd⟩ := hU g (Array.getElem?_eq_some_iff.1 hg).1 hu
  refine neType hg hd ?_ rfl
  rcases ht with rfl | rfl <;> decide
theorem row_ne {n : Nat} {v : Value} {xs : List Value} (hr : w.ownsRow lo 34 1 v n xs) {c9 : Array Value} (hb : w.heap[p]? = some (.cells c9 28 (0, 0))) {g : Nat} (e : v.ownBlock = some g) : g ≠ p := fun e2 => by
  subst e2
  obtain ⟨cs, hc⟩ := rowCells hr e
  exact neType hc hb (by decide) rfl
/-- the mark turns -/
theorem Rows4.mark (h : Rows4 w lo p F W K N fs ws ks ns m) (m' : Int) : Rows4 (w.setCell ⟨p, 4, none⟩ (.int .i64 m')) lo p F W K N fs ws ks ns m' ∧ Chg (fun g => g = p) w (w.setCell ⟨p, 4, none⟩ (.int .i64 m')) ∧ w.cell? ⟨p, 4, none⟩ = some (.int .i64 m) ∧ w.frozen? ⟨p, 4, none⟩ = false := by
  have rr : ∀ {v : Value} {n : Nat} {xs : List Value}, w.ownsRow lo 34 1 v n xs → (w.setCell ⟨p, 4, none⟩ (.int .i64 m')).ownsRow lo 34 1 v n xs := fun hr => rowKept hr fun g e => Go.heap_setCell_other _ _ _ _ (show g ≠ p from row_ne hr h.cell e)
  exact ⟨⟨Go.heap_setCell_same w p 4 _ 28 _ h.cell, h.hp, rr h.rF, rr h.rW, rr h.rK, rr h.rN, h.FW, h.FK, h.FN, h.WK, h.WN, h.KN⟩, chg_set w p 4 _, (h.c 4).trans rfl, frozen_of_row _ _ _ _ 28 h.cell⟩
theorem Rows4.pushF {F' u : Value} (h : Rows4 y lo p F W K N fs ws ks ns m) (ho : w3.ownsRow 0 34 1 F' (fs.length + 1) (fs ++ [u])) (ha : UponC y w3 F F') :
    Rows4 (w3.setCell ⟨p, 0, none⟩ F') lo p F' W K N (fs ++ [u]) ws ks ns m ∧ Chg (fun g => g = p ∨ F.ownBlock = some g) y (w3.setCell ⟨p, 0, none⟩ F') ∧ w3.cell? ⟨p, 0, none⟩ = some F ∧ w3.frozen? ⟨p, 0, none⟩ = false := by
  have hrow := (ha.chg.keep p h.lt fun e => row_ne h.rF h.cell e rfl).trans h.cell
  have hlo : ∀ g, F'.ownBlock = some g → lo ≤ g := fun g e => (ha.loc g e).elim (fun e => (h.rF.lt g e).1) fun e => by have := h.lt; have := h.hp; omega
  have hsep : ∀ {v : Value} {n : Nat} {xs : List Value}, y.ownsRow lo 34 1 v n xs → Sep F v → Sep F' v := fun hr hs g e e2 => (ha.loc g e).elim (fun e3 => hs g e3 e2) fun e3 => by have := (hr.lt g e2).2; omega
  have rr : ∀ {v : Value} {n : Nat} {xs : List Value}, y.ownsRow lo 34 1 v n xs → Sep F v → (w3.setCell ⟨p, 0, none⟩ F').ownsRow lo 34 1 v n xs := fun hr hs => rowKept hr fun g e => (Go.heap_setCell_other _ _ _ _ (show g ≠ p from row_ne hr h.cell e)).trans (ha.chg.keep g (hr.lt g e).2 fun e2 => hs g e2 e)
  exact ⟨⟨Go.heap_setCell_same w3 p 0 _ 28 _ hrow, h.hp, (by rw [List.length_append, List.length_singleton]; exact rowLow (rowKept ho fun g e => Go.heap_setCell_other _ _ _ _ (show g ≠ p from row_ne ho hrow e)) hlo), (rr h.rW h.FW), (rr h.rK h.FK), (rr h.rN h.FN), (hsep h.rW h.FW), (hsep h.rK h.FK), (hsep h.rN h.FN), h.WK, h.WN, h.KN⟩, chg_push ha.chg p 0 _, (cell_of_row _ _ _ _ _ _ hrow).trans rfl, frozen_of_row _ _ _ _ 28 hrow⟩
theorem Rows4.pushW {W' u : Value} (h : Rows4 y lo p F W K N fs ws ks ns m) (ho : w3.ownsRow 0 34 1 W' (ws.length + 1) (ws ++ [u])) (ha : UponC y w3 W W') :
    Rows4 (w3.setCell ⟨p, 1, none⟩ W') lo p F W' K N fs (ws ++ [u]) ks ns m ∧ Chg (fun g => g = p ∨ W.ownBlock = some g) y (w3.setCell ⟨p, 1, none⟩ W') ∧ w3.cell? ⟨p, 1, none⟩ = some W ∧ w3.frozen? ⟨p, 1, none⟩ = false := by
  have hrow := (ha.chg.keep p h.lt fun e => row_ne h.rW h.cell e rfl).trans h.cell
  have hlo : ∀ g, W'.ownBlock = some g → lo ≤ g := fun g e => (ha.loc g e).elim (fun e => (h.rW.lt g e).1) fun e => by have := h.lt; have := h.hp; omega
  have hsep : ∀ {v : Value} {n : Nat} {xs : List Value}, y.ownsRow lo 34 1 v n xs → Sep W v → Sep W' v := fun hr hs g e e2 => (ha.loc g e).elim (fun e3 => hs g e3 e2) fun e3 => by have := (hr.lt g e2).2; omega
  have rr : ∀ {v : Value} {n : Nat} {xs : List Value}, y.ownsRow lo 34 1 v n xs → Sep W v → (w3.setCell ⟨p, 1, none⟩ W').ownsRow lo 34 1 v n xs := fun hr hs => rowKept hr fun g e => (Go.heap_setCell_other _ _ _ _ (show g ≠ p from row_ne hr h.cell e)).trans (ha.chg.keep g (hr.lt g e).2 fun e2 => hs g e2 e)
  exact ⟨⟨Go.heap_setCell_same w3 p 1 _ 28 _ hrow, h.hp, (rr h.rF h.FW.symm), (by rw [List.length_append, List.length_singleton]; exact rowLow (rowKept ho fun g e => Go.heap_setCell_other _ _ _ _ (show g ≠ p from row_ne ho hrow e)) hlo), (rr h.rK h.WK), (rr h.rN h.WN), (hsep h.rF h.FW.symm).symm, h.FK, h.FN, (hsep h.rK h.WK), (hsep h.rN h.WN), h.KN⟩, chg_push ha.chg p 1 _, (cell_of_row _ _ _ _ _ _ hrow).trans rfl, frozen_of_row _ _ _ _ 28 hrow⟩
theorem Rows4.pushK {K' u : Value} (h : Rows4 y lo p F W K N fs ws ks ns m) (ho : w3.ownsRow 0 34 1 K' (ks.length + 1) (ks ++ [u])) (ha : UponC y w3 K K') :
    Rows4 (w3.setCell ⟨p, 2, none⟩ K') lo p F W K' N fs ws (ks ++ [u]) ns m ∧ Chg (fun g => g = p ∨ K.ownBlock = some g) y (w3.setCell ⟨p, 2, none⟩ K') ∧ w3.cell? ⟨p, 2, none⟩ = some K ∧ w3.frozen? ⟨p, 2, none⟩ = false := by
  have hrow := (ha.chg.keep p h.lt fun e => row_ne h.rK h.cell e rfl).trans h.cell
  have hlo : ∀ g, K'.ownBlock = some g → lo ≤ g := fun g e => (ha.loc g e).elim (fun e => (h.rK.lt g e).1) fun e => by have := h.lt; have := h.hp; omega
  have hsep : ∀ {v : Value} {n : Nat} {xs : List Value}, y.ownsRow lo 34 1 v n xs → Sep K v → Sep K' v := fun hr hs g e e2 => (ha.loc g e).elim (fun e3 => hs g e3 e2) fun e3 => by have := (hr.lt g e2).2; omega
  have rr : ∀ {v : Value} {n : Nat} {xs : List Value}, y.ownsRow lo 34 1 v n xs → Sep K v → (w3.setCell ⟨p, 2, none⟩ K').ownsRow lo 34 1 v n xs := fun hr hs => rowKept hr fun g e => (Go.heap_setCell_other _ _ _ _ (show g ≠ p from row_ne hr h.cell e)).trans (ha.chg.keep g (hr.lt g e).2 fun e2 => hs g e2 e)
  exact ⟨⟨Go.heap_setCell_same w3 p 2 _ 28 _ hrow, h.hp, (rr h.rF h.FK.symm), (rr h.rW h.WK.symm), (by rw [List.length_append, List.length_singleton]; exact rowLow (rowKept ho fun g e => Go.heap_setCell_other _ _ _ _ (show g ≠ p from row_ne ho hrow e)) hlo), (rr h.rN h.KN), h.FW, (hsep h.rF h.FK.symm).symm, h.FN, (hsep h.rW h.WK.symm).symm, h.WN, (hsep h.rN h.KN)⟩, chg_push ha.chg p 2 _, (cell_of_row _ _ _ _ _ _ hrow).trans rfl, frozen_of_row _ _ _ _ 28 hrow⟩
theorem Rows4.pushN {N' u : Value} (h : Rows4 y lo p F W K N fs ws ks ns m) (ho : w3.ownsRow 0 34 1 N' (ns.length + 1) (ns ++ [u])) (ha : UponC y w3 N N') :
    Rows4 (w3.setCell ⟨p, 3, none⟩ N') lo p F W K N' fs ws ks (ns ++ [u]) m ∧ Chg (fun g => g = p ∨ N.ownBlock = some g) y (w3.setCell ⟨p, 3, none⟩ N') ∧ w3.cell? ⟨p, 3, none⟩ = some N ∧ w3.frozen? ⟨p, 3, none⟩ = false := by
  have hrow := (ha.chg.keep p h.lt fun e => row_ne h.rN h.cell e rfl).trans h.cell
  have hlo : ∀ g, N'.ownBlock = some g → lo ≤ g := fun g e => (ha.loc g e).elim (fun e => (h.rN.lt g e).1) fun e => by have := h.lt; have := h.hp; omega
  have hsep : ∀ {v : Value} {n : Nat} {xs : List Value}, y.ownsRow lo 34 1 v n xs → Sep N v → Sep N' v := fun hr hs g e e2 => (ha.loc g e).elim (fun e3 => hs g e3 e2) fun e3 => by have := (hr.lt g e2).2; omega
  have rr : ∀ {v : Value} {n : Nat} {xs : List Value}, y.ownsRow lo 34 1 v n xs → Sep N v → (w3.setCell ⟨p, 3, none⟩ N').ownsRow lo 34 1 v n xs := fun hr hs => rowKept hr fun g e => (Go.heap_setCell_other _ _ _ _ (show g ≠ p from row_ne hr h.cell e)).trans (ha.chg.keep g (hr.lt g e).2 fun e2 => hs g e2 e)
  exact ⟨⟨Go.heap_setCell_same w3 p 3 _ 28 _ hrow, h.hp, (rr h.rF h.FN.symm), (rr h.rW h.WN.symm), (rr h.rK h.KN.symm), (by rw [List.length_append, List.length_singleton]; exact rowLow (rowKept ho fun g e => Go.heap_setCell_other _ _ _ _ (show g ≠ p from row_ne ho hrow e)) hlo), h.FW, h.FK, (hsep h.rF h.FN.symm).symm, h.WK, (hsep h.rW h.WN.symm).symm, (hsep h.rK h.KN.symm).symm⟩, chg_push ha.chg p 3 _, (cell_of_row _ _ _ _ _ _ hrow).trans rfl, frozen_of_row _ _ _ _ 28 hrow⟩
end
end Go.Proofs.YtedhohamdbplhaaDoor
