import Derived.Test.YtcdmkbjibcahcabTBw
namespace Go.Proofs.Ytcdmkbjibcahcab
open Go.RowKit
set_option linter.unusedVariables false
set_option linter.unusedSimpArgs false
set_option maxRecDepth 20000

/-- a list's own cells -/
def Cl (v : Value) (g i : Nat) : Prop := ∃ o n c, v = .slice (some ⟨g, o, none⟩) n c ∧ o ≤ i ∧ i < o + n * 3
def Ds (A B : Nat → Nat → Prop) : Prop := ∀ g i, A g i → B g i → False
/-- of rows of writes only cells of A have changed -/
def Ck (A : Nat → Nat → Prop) (w w' : World) : Prop := ∀ g cur, w.heap[g]? = some (.cells cur 56 (0, 0)) → ∃ cur', w'.heap[g]? = some (.cells cur' 56 (0, 0)) ∧ cur'.size = cur.size ∧ ∀ i, ¬ A g i → cur'[i]? = cur[i]?
section
variable {A B : Nat → Nat → Prop} {w x y : World} {v v' : Value} {l : List En}
theorem Ck.refl (A : Nat → Nat → Prop) (w : World) : Ck A w w := fun g cur h => ⟨cur, h, rfl, fun _ _ => rfl⟩
theorem Ck.trans (h : Ck A w x) (k : Ck A x y) : Ck A w y := fun g cur e => by
  obtain ⟨c1, h1, h2, h3⟩ := h g cur e
  obtain ⟨c2, k1, k2, k3⟩ := k g c1 h1
  exact ⟨c2, k1, k2.trans h2, fun i hi => (k3 i hi).trans (h3 i hi)⟩
theorem Ck.mono (h : Ck A w x) (hA : ∀ g i, g < w.heap.size → A g i → B g i) : Ck B w x := fun g cur e => by
  obtain ⟨c1, h1, h2, h3⟩ := h g cur e
  exact ⟨c1, h1, h2, fun i hi => h3 i fun q => hi (hA g i (Array.getElem?_eq_some_iff.1 e).1 q)⟩
theorem Ck.ofChg {U : Nat → Prop} (h : Chg U w x) (hU : ∀ g, U g → ∀ cs, w.heap[g]? ≠ some (.cells cs 56 (0, 0))) : Ck A w x := fun g cur e => ⟨cur, (h.keep g (Array.getElem?_eq_some_iff.1 e).1 fun q => hU g q cur e).trans e, rfl, fun _ _ => rfl⟩
theorem Ck.ofBelow (h : Below w.heap.size w x) : Ck A w x := Ck.ofChg (U := fun _ => False) (Chg.ofBelow h) fun _ q => q.elim
theorem Ck.calm (h : Ck A w x) (hb : Below x.heap.size x y) : Ck A w y := h.trans (Ck.ofBelow hb)
theorem ERow.ck (h : ERow w v l) (k : Ck A w x) (hd : Ds (Cl v) A) : ERow x v l := by
  rcases h with ⟨rfl, rfl⟩ | ⟨g, off, cap, cur, rfl, hg, h1, h2, h3, h4⟩
  · exact .inl ⟨rfl, rfl⟩
  · obtain ⟨c1, k1, k2, k3⟩ := k g cur hg
    refine .inr ⟨g, off, cap, c1, rfl, k1, by omega, h2, h3, ?_⟩
    rw [← h4]
    apply List.ext_getElem?
    intro i
    rw [List.getElem?_take, List.getElem?_take]
    by_cases hi : i < l.length * 3
    · rw [if_pos hi, if_pos hi, List.getElem?_drop, List.getElem?_drop, Array.getElem?_toList, Array.getElem?_toList]
      exact k3 (off + i) fun q => hd g (off + i) ⟨off, _, cap, rfl, by omega, by omega⟩ q
    · rw [if_neg hi, if_neg hi]
theorem ERow.clrm (h : ERow w v l) {g i : Nat} (hc : Cl v g i) : Rm v g i := by
  obtain ⟨o, n, c, rfl, h1, h2⟩ := hc
  obtain ⟨a', c', e, b1, b2, -⟩ := h.form
  simp only [Value.slice.injEq] at e
  obtain ⟨-, rfl, rfl⟩ := e
  exact ⟨o, _, _, rfl, h1, by omega⟩
theorem Rm.own {g i : Nat} (h : Rm v g i) : v.ownBlock = some g := by
  obtain ⟨o, n, c, rfl, _⟩ := h
  rfl
theorem Cl.own {g i : Nat} (h : Cl v g i) : v.ownBlock = some g := by
  obtain ⟨o, n, c, rfl, _⟩ := h
  rfl
theorem Tr.ck (h : Tr w x v) (hr : ERow w v l) : Ck (Rm v) w x := fun g cur e => by
  by_cases e2 : v.ownBlock = some g
  · obtain ⟨o, c, e3⟩ := hr.slc e2
    obtain ⟨c1, h1, h2, h3⟩ := h.inn g o _ c cur e3 e
    refine ⟨c1, h1, h2, fun i hi => h3 i ?_⟩
    refine Decidable.byContradiction fun q => hi ⟨o, _, c, e3, by omega, by omega⟩
  · exact ⟨cur, (h.keep g (Array.getElem?_eq_some_iff.1 e).1 e2).trans e, rfl, fun _ _ => rfl⟩
theorem Tn.ck {p bm : Nat} {S S' : LS} (t : Tn w x p bm v v' S') (h : LRep w p bm v S) : Ck (Rm v) w x := fun g cur e => by
  by_cases e2 : v.ownBlock = some g
  · obtain ⟨o, c, e3⟩ := h.lst.slc e2
    obtain ⟨c1, h1, h2, h3⟩ := t.fr.kp g o _ c cur e3 e
    refine ⟨c1, h1, h2, fun i hi => h3 i ?_⟩
    refine Decidable.byContradiction fun q => hi ⟨o, _, c, e3, by omega, by omega⟩
  · refine ⟨cur, (t.chg.keep g (Array.getElem?_eq_some_iff.1 e).1 ?_).trans e, rfl, fun _ _ => rfl⟩
    rintro (rfl | rfl | q)
    · exact neType e h.row (by decide) rfl
    · exact h.mp.neCells e rfl
    · exact e2 q
theorem Tn.rm {p bm : Nat} {S S' : LS} (t : Tn w x p bm v v' S') (h : LRep w p bm v S) {g i : Nat} (hr : Rm v' g i) : Rm v g i ∨ w.heap.size ≤ g := by
  rcases t.loc g hr.own with e | e
  · obtain ⟨o, c, e3⟩ := h.lst.slc e
    obtain ⟨o', n', c', e4, q1, q2⟩ := hr
    have := t.fr.fw g o _ c o' n' c' e3 e4
    exact .inl ⟨o, _, c, e3, by omega, by omega⟩
  · exact .inr e
theorem GI.cl {w1 : World} {lv gv : Value} {M : List En} {e : En} {j : Nat} (h : GI w1 x lv gv M e j) {g i : Nat} (hr : Cl gv g i) : Rm lv g i ∨ w1.heap.size ≤ g := by
  have hr2 := h.r.clrm hr
  rcases h.own g hr.own with q | q
  · obtain ⟨o, c, e3⟩ := h.l.slc q
    obtain ⟨o', n', c', e4, q1, q2⟩ := hr2
    have := h.loc g o _ c o' n' c' e3 e4
    exact .inl ⟨o, _, c, e3, by omega, by omega⟩
  · exact .inr q
end
theorem Chg.trans' {U V : Nat → Prop} {w x y : World} (h : Chg U w x) (k : Chg V x y) (hV : ∀ g, g < w.heap.size → V g → U g) : Chg U w y := ⟨k.os.trans h.os, k.tape.trans h.tape, k.output.trans h.output, Nat.le_trans h.size k.size, fun g hg hn => (k.keep g (by have := h.size; omega) fun q => hn (hV g hg q)).trans (h.keep g hg hn)⟩
def UB (b : Nat) (kv tv l : Value) (g : Nat) : Prop := g = b ∨ kv.ownBlock = some g ∨ tv.ownBlock = some g ∨ l.ownBlock = some g
/-- Book.write on its way: w the world at its begin -/
structure WS (w x : World) (b : Nat) (fv wv kv0 tv0 l kv tv : Value) (mk : Nat) (K T : VL) : Prop where
  bw : BW x b fv wv kv tv mk K T
  ck : Ck (Rm l) w x
  chg : Chg (UB b kv0 tv0 l) w x
  kl : ∀ g, kv.ownBlock = some g → kv0.ownBlock = some g ∨ w.heap.size ≤ g
  tl : ∀ g, tv.ownBlock = some g → tv0.ownBlock = some g ∨ w.heap.size ≤ g
section
variable {w x y w3 : World} {b : Nat} {fv wv kv0 tv0 l kv tv kv' tv' : Value} {mk : Nat} {K T : VL} {u : Value × List En}
theorem WS.calm (h : WS w x b fv wv kv0 tv0 l kv tv mk K T) (hb : Below x.heap.size x y) : WS w y b fv wv kv0 tv0 l kv tv mk K T := ⟨h.bw.calm hb, h.ck.calm hb, h.chg.trans (Chg.ofBelow hb), h.kl, h.tl⟩
theorem WS.pushK (h : WS w y b fv wv kv0 tv0 l kv tv mk K T) (ho : w3.ownsRow 0 46 1 kv' (K ++ [u]).length ((K ++ [u]).map Prod.fst)) (ha : App y w3 kv kv') :
    WS w (w3.setCell ⟨b, 2, none⟩ kv') b fv wv kv0 tv0 l kv' tv mk (K ++ [u]) T ∧ (∀ z m, ERow y z m → ERow (w3.setCell ⟨b, 2, none⟩ kv') z m) ∧ w3.cell? ⟨b, 2, none⟩ = some kv ∧ w3.frozen? ⟨b, 2, none⟩ = false := by
  obtain ⟨p1, p2, p3, p4⟩ := h.bw.pushK ho ha
  refine ⟨⟨p1, h.ck.trans (Ck.ofChg p2 ?_), h.chg.trans' p2 ?_, fun g e => ?_, h.tl⟩, fun z m hz => hz.beside h.bw h.bw.k p2, p3, p4⟩
  · rintro g (rfl | e) cs hc
    · exact neType hc h.bw.row (by decide) rfl
    · obtain ⟨ds, hd⟩ := vrow_cells h.bw.k e
      exact neType hc hd (by decide) rfl
  · rintro g hg (rfl | e)
    · exact .inl rfl
    · rcases h.kl g e with q | q
      · exact .inr (.inl q)
      · omega
  · rcases ha.loc g e with q | q
    · exact h.kl g q
    · exact .inr (Nat.le_trans h.chg.size q)
theorem WS.pushT (h : WS w y b fv wv kv0 tv0 l kv tv mk K T) (ho : w3.ownsRow 0 46 1 tv' (T ++ [u]).length ((T ++ [u]).map Prod.fst)) (ha : App y w3 tv tv') :
    WS w (w3.setCell ⟨b, 3, none⟩ tv') b fv wv kv0 tv0 l kv tv' mk K (T ++ [u]) ∧ (∀ z m, ERow y z m → ERow (w3.setCell ⟨b, 3, none⟩ tv') z m) ∧ w3.cell? ⟨b, 3, none⟩ = some tv ∧ w3.frozen? ⟨b, 3, none⟩ = false := by
  obtain ⟨p1, p2, p3, p4⟩ := h.bw.pushT ho ha
  refine ⟨⟨p1, h.ck.trans (Ck.ofChg p2 ?_), h.chg.trans' p2 ?_, h.kl, fun g e => ?_⟩, fun z m hz => hz.beside h.bw h.bw.t p2, p3, p4⟩
  · rintro g (rfl | e) cs hc
    · exact neType hc h.bw.row (by decide) rfl
    · obtain ⟨ds, hd⟩ := vrow_cells h.bw.t e
      exact neType hc hd (by decide) rfl
  · rintro g hg (rfl | e)
    · exact .inl rfl
    · rcases h.tl g e with q | q
      · exact .inr (.inr (.inl q))
      · omega
  · rcases ha.loc g e with q | q
    · exact h.tl g q
    · exact .inr (Nat.le_trans h.chg.size q)
end
/-- Book.write is through -/
structure WrP (w w' : World) (b : Nat) (fv wv kv tv l kv' tv' : Value) (mk : Nat) (K T : VL) (n : Nat) (M : List En) (g t1 t2 : Value) (G : List En) : Prop where
  ws : WS w w' b fv wv kv tv l kv' tv' mk (K ++ [(l, M)] ++ [(g, G)]) (T ++ [(t1, M)] ++ [(t2, G)])
  el : ERow w' l M
  eg : ERow w' g G
  e1 : ERow w' t1 M
  e2 : ERow w' t2 G
  cg : ∀ h i, Cl g h i → Rm l h i ∨ w.heap.size ≤ h
  n1 : ∀ h, t1.ownBlock = some h → w.heap.size ≤ h
  n2 : ∀ h, t2.ownBlock = some h → w.heap.size ≤ h
  len : M.length = n
end Go.Proofs.Ytcdmkbjibcahcab
