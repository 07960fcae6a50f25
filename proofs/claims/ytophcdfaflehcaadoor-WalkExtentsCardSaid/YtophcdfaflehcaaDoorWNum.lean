import Derived.Test.YtophcdfaflehcaaDoorWInt
namespace Go.Proofs.YtophcdfaflehcaaDoor
open Go.RowKit
set_option linter.unusedVariables false
set_option linter.unusedSimpArgs false
set_option maxRecDepth 20000

/-- the set bits below s of which p -/
def sel (p : Nat → Bool) (s : Nat) : List Int := ((List.range s).filter p).map fun i : Nat => (i : Int)
theorem sel_zero (p : Nat → Bool) : sel p 0 = [] := rfl
theorem sel_succ (p : Nat → Bool) (s : Nat) : sel p (s + 1) = sel p s ++ (if p s then [(s : Int)] else []) := by
  unfold sel
  rw [List.range_succ, List.filter_append, List.map_append]
  congr 1
  by_cases h : p s = true
  · simp [h]
  · simp [h]
theorem sel_len (p : Nat → Bool) (s : Nat) : (sel p s).length ≤ s := by
  unfold sel
  rw [List.length_map]
  exact Nat.le_trans (List.length_filter_le _ _) (by simp)
theorem sel_gap {p : Nat → Bool} {s i : Nat} (h : s ≤ i) (hz : ∀ j, s ≤ j → j < i → p j = false) : sel p i = sel p s := by
  induction i with
  | zero => rw [show s = 0 by omega]
  | succ i ih =>
    by_cases e : s = i + 1
    · rw [e]
    · rw [sel_succ, hz i (by omega) (by omega), ih (by omega) fun j h1 h2 => hz j h1 (by omega)]
      simp
/-- the bits from st on; those ahead of it -/
def aP (B st : Nat) (i : Nat) : Bool := B.testBit i && decide (st ≤ i)
def bP (B st : Nat) (i : Nat) : Bool := B.testBit i && decide (i < st)
theorem aL_step {B n st s i : Nat} (h : nx B n s = some i) (hs : s ≤ n) (hi : st ≤ i) : sel (aP B st) (i + 1) = sel (aP B st) s ++ [(i : Int)] ∧ sel (bP B st) (i + 1) = sel (bP B st) s := by
  obtain ⟨h1, h2, h3, h4⟩ := nx_facts h hs
  rw [sel_succ, sel_succ, sel_gap h1 fun j g1 g2 => by simp [aP, h4 j g1 g2], sel_gap (p := bP B st) h1 fun j g1 g2 => by simp [bP, h4 j g1 g2]]
  have e1 : aP B st i = true := by simp [aP, h3, hi]
  have e2 : bP B st i = false := by simp [bP]; omega
  rw [e1, e2]
  simp
theorem bL_step {B n st s i : Nat} (h : nx B n s = some i) (hs : s ≤ n) (hi : i < st) : sel (aP B st) (i + 1) = sel (aP B st) s ∧ sel (bP B st) (i + 1) = sel (bP B st) s ++ [(i : Int)] := by
  obtain ⟨h1, h2, h3, h4⟩ := nx_facts h hs
  rw [sel_succ, sel_succ, sel_gap h1 fun j g1 g2 => by simp [aP, h4 j g1 g2], sel_gap (p := bP B st) h1 fun j g1 g2 => by simp [bP, h4 j g1 g2]]
  have e1 : aP B st i = false := by simp [aP]; omega
  have e2 : bP B st i = true := by simp [bP, h3, hi]
  rw [e1, e2]
  simp
theorem L_end {B n st s : Nat} (h : nx B n s = none) (hs : s ≤ n) : sel (aP B st) n = sel (aP B st) s ∧ sel (bP B st) n = sel (bP B st) s := by
  have h4 := nx_no h
  exact ⟨sel_gap hs fun j g1 g2 => by simp [aP, h4 j g1 g2], sel_gap hs fun j g1 g2 => by simp [bP, h4 j g1 g2]⟩
/-- the walk's list -/
def wlk (B n st : Nat) : List Int := sel (aP B st) n ++ sel (bP B st) n

/-- between two rounds of New -/
structure NInv (w W : World) (N M : Nat) (L : BL) (n B st s : Nat) (va vb : Value) : Prop where
  rep : BRep W L n B
  tab : TabAt W
  bel : Below N w W
  b0 : W.heap[N]? = some (.cells #[.int .i64 (st : Int)] 3 (0, 0))
  m0 : W.heap[M]? = some (.cells #[va] 59 (0, 0))
  m1 : W.heap[M + 1]? = some (.cells #[vb] 59 (0, 0))
  m2 : W.heap[M + 1 + 1]? = some (.cells #[PB L] 56 (0, 0))
  ra : IRow W va (sel (aP B st) s)
  rb : IRow W vb (sel (bP B st) s)
  na : ∀ g, va.ownBlock = some g → M ≤ g
  nb : ∀ g, vb.ownBlock = some g → M ≤ g
  ne : ∀ g, va.ownBlock = some g → vb.ownBlock ≠ some g
  za : sel (aP B st) s = [] → va = .slice none 0 0
  zb : sel (bP B st) s = [] → vb = .slice none 0 0
theorem IRow.own {W W' : World} {row : Option Nat} {N : Nat} {v : Value} {l : List Int} (h : IRow W v l) (hg : W.grownBy W' row) (hr : ∀ r, row = some r → N ≤ r ∧ ∃ o : Obj, W.heap[r]? = some o ∧ o.isCells = false) : IRow W' v l :=
  h.kept fun g e => by
    obtain ⟨cs, hc⟩ := h.cells e
    rw [own_blk hc hg hr, hc]
theorem NInv.own {w W W' : World} {row : Option Nat} {N M K : Nat} {L : BL} {n B st s : Nat} {va vb : Value} (h : NInv w W N M L n B st s va vb) (hN : N ≤ K) (h0 : 0 < K) (hg : W.grownBy W' row) (hr : ∀ r, row = some r → K ≤ r ∧ ∃ o : Obj, W.heap[r]? = some o ∧ o.isCells = false) : NInv w W' N M L n B st s va vb :=
  ⟨own_rep h.rep hg hr, h.tab.of (hg.block _ h.tab.lt (fun e => by have := (hr _ e.symm).1; omega)), h.bel.grown hg (Nat.le_of_lt (Array.getElem?_eq_some_iff.1 h.b0).1) (fun k e => by have := (hr k e).1; omega),
    own_blk h.b0 hg hr, own_blk h.m0 hg hr, own_blk h.m1 hg hr, own_blk h.m2 hg hr, h.ra.own hg hr, h.rb.own hg hr, h.na, h.nb, h.ne, h.za, h.zb⟩
/-- the first list is grown, and laid into its box -/
theorem NInv.pushA {w W W2 : World} {N M : Nat} {L : BL} {n B st s i : Nat} {va vb v' : Value} (h : NInv w W N M L n B st s va vb) (hNM : N < M) (hU : ∀ b, L.U b → b < M) (htab : 0 < N) (o : Obj)
    (hr : IRow W2 v' (sel (aP B st) s ++ [(i : Int)])) (ha : App (W.alloc o) W2 va v') (hx : nx B n s = some i) (hs : s ≤ n) (hi : st ≤ i) :
    NInv w (W2.setCell ⟨M, 0, none⟩ v') N M L n B st (i + 1) v' vb ∧ ∀ K, KeepsFrom K W (W2.setCell ⟨M, 0, none⟩ v') := by
  have hst := aL_step hx hs hi
  have hbox : ∀ b cs t, W.heap[b]? = some (.cells cs t (0, 0)) → va.ownBlock ≠ some b → W2.heap[b]? = some (.cells cs t (0, 0)) := fun b cs t hb hne => by
    have hlt := (Array.getElem?_eq_some_iff.1 hb).1
    exact (ha.chg.keep b (by simp; omega) hne).trans ((Below.heap_alloc W o b hlt).trans hb)
  have hty : ∀ b cs t, W.heap[b]? = some (.cells cs t (0, 0)) → t ≠ 3 → va.ownBlock ≠ some b := fun b cs t hb ht e => by
    obtain ⟨cs', hc'⟩ := h.ra.cells e
    rw [hb] at hc'
    simp only [Option.some.injEq, Obj.cells.injEq] at hc'
    exact ht hc'.2.1
  have hlow : ∀ b, b < M → va.ownBlock ≠ some b := fun b hb e => by have := h.na b e; omega
  have oth : ∀ b, b ≠ M → (W2.setCell ⟨M, 0, none⟩ v').heap[b]? = W2.heap[b]? := fun b hb => Go.heap_setCell_other _ _ _ _ hb
  have kp : ∀ b cs t, W.heap[b]? = some (.cells cs t (0, 0)) → va.ownBlock ≠ some b → b ≠ M → (W2.setCell ⟨M, 0, none⟩ v').heap[b]? = some (.cells cs t (0, 0)) := fun b cs t hb h1 h2 => (oth b h2).trans (hbox b cs t hb h1)
  have e3 : ∀ g, v'.ownBlock = some g → M ≤ g := fun g e => by
    rcases ha.loc g e with h1 | h1
    · exact h.na g h1
    · have := (Array.getElem?_eq_some_iff.1 h.m0).1
      simp at h1
      omega
  have hNW : N ≤ W.heap.size := Nat.le_of_lt (Array.getElem?_eq_some_iff.1 h.b0).1
  have hbel : Below N w W2 := h.bel.trans (((Below.refl W.heap.size W).alloc (Nat.le_refl _) o).mono hNW |>.trans (ha.chg.below (N := N) (by simp; omega) fun b hb => by have := h.na b hb; omega))
  have hv'M : v'.ownBlock ≠ some (M) := fun e => by
    obtain ⟨cs', hc'⟩ := hr.cells e
    rw [hbox (M) _ _ h.m0 (hty _ _ _ h.m0 (by decide))] at hc'
    simp only [Option.some.injEq, Obj.cells.injEq] at hc'
    exact absurd hc'.2.1 (by decide)
  have hoM : vb.ownBlock ≠ some (M) := fun e => by
    obtain ⟨cs', hc'⟩ := h.rb.cells e
    rw [h.m0] at hc'
    simp only [Option.some.injEq, Obj.cells.injEq] at hc'
    exact absurd hc'.2.1 (by decide)
  have hro : IRow W2 vb (sel (bP B st) s) := h.rb.kept fun g e => (ha.chg.keep g (by have := h.rb.lt e; simp; omega) (fun e2 => h.ne g e2 e)).trans (Below.heap_alloc W o g (h.rb.lt e))
  refine ⟨⟨h.rep.kept fun b hu => ?_, h.tab.of ?_, hbel.setCell (p := ⟨M, 0, none⟩) (by show N ≤ M; omega) _, ?_, ?_, ?_, ?_, ?_, ?_, e3, h.nb, fun g e e2 => (ha.loc g e).elim (fun h1 => h.ne g h1 e2) (fun h1 => by have := h.rb.lt e2; simp at h1; omega), fun e => by rw [hst.1] at e; simp at e, fun e => h.zb (by rw [hst.2] at e; exact e)⟩, fun K => ⟨?_, fun b ob hb ho hc => ?_⟩⟩
  · have hbM := hU b hu
    have hlt := h.rep.uLt b hu
    rw [oth b (by omega), ha.chg.keep b (by simp; omega) (hlow b hbM), Below.heap_alloc W o b hlt]
  · have hlt := h.tab.lt
    rw [oth _ (by omega), ha.chg.keep _ (by rw [World.size_alloc]; omega) (hlow _ (by omega)), Below.heap_alloc W o _ hlt]
  · exact kp _ _ _ h.b0 (hlow N hNM) (by omega)
  · rw [Go.heap_setCell_same _ _ 0 _ 59 _ (hbox _ _ _ h.m0 (hty _ _ _ h.m0 (by decide)))]; rfl
  · exact kp _ _ _ h.m1 (hty _ _ _ h.m1 (by decide)) (by omega)
  · exact kp _ _ _ h.m2 (hty _ _ _ h.m2 (by decide)) (by omega)
  · rw [hst.1]; exact hr.kept fun g e => oth g fun e2 => hv'M (by rw [← e2]; exact e)
  · rw [hst.2]; exact hro.kept fun g e => oth g fun e2 => hoM (by rw [← e2]; exact e)
  · simp [World.setCell]
    have := ha.chg.size
    simp at this
    omega
  · have hlt := (Array.getElem?_eq_some_iff.1 ho).1
    have hnc : ∀ g cs t, W.heap[g]? = some (.cells cs t (0, 0)) → b ≠ g := fun g cs t hg e => by rw [e, hg] at ho; cases ho; simp [Obj.isCells] at hc
    rw [oth b (hnc _ _ _ h.m0), ha.chg.keep b (by simp; omega) (fun e => by
      obtain ⟨cs', hc'⟩ := h.ra.cells e
      exact hnc _ _ _ hc' rfl), Below.heap_alloc W o b hlt]
    exact ho
/-- the second list is grown, and laid into its box -/
theorem NInv.pushB {w W W2 : World} {N M : Nat} {L : BL} {n B st s i : Nat} {va vb v' : Value} (h : NInv w W N M L n B st s va vb) (hNM : N < M) (hU : ∀ b, L.U b → b < M) (htab : 0 < N) (o : Obj)
    (hr : IRow W2 v' (sel (bP B st) s ++ [(i : Int)])) (ha : App (W.alloc o) W2 vb v') (hx : nx B n s = some i) (hs : s ≤ n) (hi : i < st) :
    NInv w (W2.setCell ⟨M + 1, 0, none⟩ v') N M L n B st (i + 1) va v' ∧ ∀ K, KeepsFrom K W (W2.setCell ⟨M + 1, 0, none⟩ v') := by
  have hst := bL_step hx hs hi
  have hbox : ∀ b cs t, W.heap[b]? = some (.cells cs t (0, 0)) → vb.ownBlock ≠ some b → W2.heap[b]? = some (.cells cs t (0, 0)) := fun b cs t hb hne => by
    have hlt := (Array.getElem?_eq_some_iff.1 hb).1
    exact (ha.chg.keep b (by simp; omega) hne).trans ((Below.heap_alloc W o b hlt).trans hb)
  have hty : ∀ b cs t, W.heap[b]? = some (.cells cs t (0, 0)) → t ≠ 3 → vb.ownBlock ≠ some b := fun b cs t hb ht e => by
    obtain ⟨cs', hc'⟩ := h.rb.cells e
    rw [hb] at hc'
    simp only [Option.some.injEq, Obj.cells.injEq] at hc'
    exact ht hc'.2.1
  have hlow : ∀ b, b < M → vb.ownBlock ≠ some b := fun b hb e => by have := h.nb b e; omega
  have oth : ∀ b, b ≠ M + 1 → (W2.setCell ⟨M + 1, 0, none⟩ v').heap[b]? = W2.heap[b]? := fun b hb => Go.heap_setCell_other _ _ _ _ hb
  have kp : ∀ b cs t, W.heap[b]? = some (.cells cs t (0, 0)) → vb.ownBlock ≠ some b → b ≠ M + 1 → (W2.setCell ⟨M + 1, 0, none⟩ v').heap[b]? = some (.cells cs t (0, 0)) := fun b cs t hb h1 h2 => (oth b h2).trans (hbox b cs t hb h1)
  have e3 : ∀ g, v'.ownBlock = some g → M ≤ g := fun g e => by
    rcases ha.loc g e with h1 | h1
    · exact h.nb g h1
    · have := (Array.getElem?_eq_some_iff.1 h.m0).1
      simp at h1
      omega
  have hNW : N ≤ W.heap.size := Nat.le_of_lt (Array.getElem?_eq_some_iff.1 h.b0).1
  have hbel : Below N w W2 := h.bel.trans (((Below.refl W.heap.size W).alloc (Nat.le_refl _) o).mono hNW |>.trans (ha.chg.below (N := N) (by simp; omega) fun b hb => by have := h.nb b hb; omega))
  have hv'M : v'.ownBlock ≠ some (M + 1) := fun e => by
    obtain ⟨cs', hc'⟩ := hr.cells e
    rw [hbox (M + 1) _ _ h.m1 (hty _ _ _ h.m1 (by decide))] at hc'
    simp only [Option.some.injEq, Obj.cells.injEq] at hc'
    exact absurd hc'.2.1 (by decide)
  have hoM : va.ownBlock ≠ some (M + 1) := fun e => by
    obtain ⟨cs', hc'⟩ := h.ra.cells e
    rw [h.m1] at hc'
    simp only [Option.some.injEq, Obj.cells.injEq] at hc'
    exact absurd hc'.2.1 (by decide)
  have hro : IRow W2 va (sel (aP B st) s) := h.ra.kept fun g e => (ha.chg.keep g (by have := h.ra.lt e; simp; omega) (fun e2 => h.ne g e e2)).trans (Below.heap_alloc W o g (h.ra.lt e))
  refine ⟨⟨h.rep.kept fun b hu => ?_, h.tab.of ?_, hbel.setCell (p := ⟨M + 1, 0, none⟩) (by show N ≤ M + 1; omega) _, ?_, ?_, ?_, ?_, ?_, ?_, h.na, e3, fun g e e2 => (ha.loc g e2).elim (fun h1 => h.ne g e h1) (fun h1 => by have := h.ra.lt e; simp at h1; omega), fun e => h.za (by rw [hst.1] at e; exact e), fun e => by rw [hst.2] at e; simp at e⟩, fun K => ⟨?_, fun b ob hb ho hc => ?_⟩⟩
  · have hbM := hU b hu
    have hlt := h.rep.uLt b hu
    rw [oth b (by omega), ha.chg.keep b (by simp; omega) (hlow b hbM), Below.heap_alloc W o b hlt]
  · have hlt := h.tab.lt
    rw [oth _ (by omega), ha.chg.keep _ (by rw [World.size_alloc]; omega) (hlow _ (by omega)), Below.heap_alloc W o _ hlt]
  · exact kp _ _ _ h.b0 (hlow N hNM) (by omega)
  · exact kp _ _ _ h.m0 (hty _ _ _ h.m0 (by decide)) (by omega)
  · rw [Go.heap_setCell_same _ _ 0 _ 59 _ (hbox _ _ _ h.m1 (hty _ _ _ h.m1 (by decide)))]; rfl
  · exact kp _ _ _ h.m2 (hty _ _ _ h.m2 (by decide)) (by omega)
  · rw [hst.1]; exact hro.kept fun g e => oth g fun e2 => hoM (by rw [← e2]; exact e)
  · rw [hst.2]; exact hr.kept fun g e => oth g fun e2 => hv'M (by rw [← e2]; exact e)
  · simp [World.setCell]
    have := ha.chg.size
    simp at this
    omega
  · have hlt := (Array.getElem?_eq_some_iff.1 ho).1
    have hnc : ∀ g cs t, W.heap[g]? = some (.cells cs t (0, 0)) → b ≠ g := fun g cs t hg e => by rw [e, hg] at ho; cases ho; simp [Obj.isCells] at hc
    rw [oth b (hnc _ _ _ h.m1), ha.chg.keep b (by simp; omega) (fun e => by
      obtain ⟨cs', hc'⟩ := h.rb.cells e
      exact hnc _ _ _ hc' rfl), Below.heap_alloc W o b hlt]
    exact ho
end Go.Proofs.YtophcdfaflehcaaDoor
