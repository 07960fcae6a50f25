import Derived.Test.YtijfnacplikibaaKTwo
namespace Go.Proofs.Ytijfnacplikibaa
open Go.RowKit
set_option linter.unusedVariables false
set_option linter.unusedSimpArgs false
set_option maxRecDepth 20000

def noP (L : LL) (o : Int) (e : Nat) : Prop := (has (L (e * 2)) o || has (L (e * 2 + 1)) o) = false
/-- while the second table gives back extent by extent: xv what Drop told, yv what the Releases told, sm whether there was any -/
def DI (w1 : World) (n : Nat) (b : Int) (B p bb q cc : Nat) (L1 : LL) (wt1 o : Int) (X0 : Nat) (xv yv : Value) (sm : Bool) (j : Nat) (x : World) : Prop :=
  ∃ Va Vb, A2 w1 x n b B p bb Va (drp n L1 wt1 o n).L (drp n L1 wt1 o n).wt q cc Vb (drp n L1 wt1 o j).L (drp n L1 wt1 o j).wt ∧ IRow x xv (drp n L1 wt1 o n).inn ∧ IRow x yv (drp n L1 wt1 o j).inn ∧ (∀ g, yv.ownBlock = some g → X0 ≤ g) ∧ (∀ g, xv.ownBlock = some g → g < X0) ∧ w1.heap.size ≤ X0 ∧ X0 ≤ x.heap.size ∧ (sm = false → (∀ e, e < j → noP L1 o e) ∧ (drp n L1 wt1 o j).wt = wt1)
section
variable {w1 : World} {n : Nat} {b : Int} {B p bb q cc : Nat} {L1 : LL} {wt1 o : Int} {X0 : Nat} {xv yv : Value} {sm : Bool} {j : Nat} {x : World}
theorem DI.bel (h : DI w1 n b B p bb q cc L1 wt1 o X0 xv yv sm j x) : Below w1.heap.size w1 x := by
  obtain ⟨Va, Vb, hA, -⟩ := h
  exact hA.a.bel
theorem IRow.tr {x y : World} {p b n : Nat} {V V' : Nat → Value} {m : Int} {L : LL} {ws wt : Int} {v : Value} {l : List Int} (hv : IRow x v l) (ht : TRep x p b m n V L ws wt) (htr : Tr (fun _ => False) x y (TU p b n V) (TU p b n V')) : IRow y v l := ht.irow hv htr
/-- the second table gives one back; the owner has a place there -/
theorem DI.relY (h : DI w1 n b B p bb q cc L1 wt1 o X0 xv yv sm j x) (hj : j < n) (hB : B ≤ 3900000000000) (hw512 : wt1 ≤ 512) (hp : (has (L1 (j * 2)) o || has (L1 (j * 2 + 1)) o) = true) :
    Calls Try.prog 16 #[.pointer (some ⟨q, 0, none⟩), .int .i64 (j : Int), .int .i64 o] x fun e' y => ∃ iv il, e' = .returned (.tuple #[iv, .int .i64 0]) ∧ IRow y iv il ∧ IRow y yv (drp n L1 wt1 o j).inn ∧ (drp n L1 wt1 o j).inn.length + il.length ≤ 16000000000000 ∧ Below w1.heap.size w1 y ∧ ∀ z yv', IRow z yv' ((drp n L1 wt1 o j).inn ++ il) → App y z yv yv' → DI w1 n b B p bb q cc L1 wt1 o X0 xv yv' true (j + 1) z := by
  obtain ⟨Va, Vb, hA, hX, hY, hy0, hx0, h0, h1, hs⟩ := h
  have e0 : (drp n L1 wt1 o j).L (j * 2) = L1 (j * 2) := drp_at j _ (Nat.le_refl _)
  have e1 : (drp n L1 wt1 o j).L (j * 2 + 1) = L1 (j * 2 + 1) := drp_at j _ (by omega)
  have er : (rls n (drp n L1 wt1 o j).L (drp n L1 wt1 o j).wt j o).err = 0 := by rw [rls_err hj, e0, e1, if_pos hp]
  refine (hA.b.release hB (j : Int) o).mono ?_
  rintro e' y ⟨iv, V', rfl, hB', hTr, hI, hN⟩
  have hA2 := (hA.symm.stepF hB' (Nat.le_refl _) hTr).symm
  have hlen := drp_len (n := n) (L := L1) (wt := wt1) (o := o) j
  have hlen2 := rls_len (n := n) (L := (drp n L1 wt1 o j).L) (wt := (drp n L1 wt1 o j).wt) (e := j) (o := o)
  have hsum := hB'.wf.sum
  have hw0 : (0 : Int) ≤ (rls n (drp n L1 wt1 o j).L (drp n L1 wt1 o j).wt j o).wt := by rw [hsum]; omega
  have hwb := hA.b.wf.le
  have hws := hA.b.wf.ws0
  have hlast := drp_len (n := n) (L := L1) (wt := wt1) (o := o) j
  refine ⟨iv, _, by rw [er], hI, hA.b.t.irow hY hTr, ?_, hA2.a.bel, fun z yv' hz ha => ?_⟩
  · have h9 := hA.a.wf.sum
    have h10 := drp_len (n := n) (L := L1) (wt := wt1) (o := o) n
    omega
  · have hY2 := hA.b.t.irow hY hTr
    have hX2 := hA.b.t.irow hX hTr
    have hsz := hTr.chg.size
    refine ⟨Va, V', hA2.app hY2 ha (fun g hg => by have := hy0 g hg; omega), hX2.app ha (fun g hg e => by have := hy0 g e; have := hx0 g hg; omega), hz, fun g hg => ?_, hx0, h0, by have := ha.chg.size; omega, fun e => by cases e⟩
    rcases ha.loc g hg with h | h
    · exact hy0 g h
    · omega
/-- it has none there -/
theorem DI.relN (h : DI w1 n b B p bb q cc L1 wt1 o X0 xv yv sm j x) (hj : j < n) (hB : B ≤ 3900000000000) (hp : noP L1 o j) :
    Calls Try.prog 16 #[.pointer (some ⟨q, 0, none⟩), .int .i64 (j : Int), .int .i64 o] x fun e' y => ∃ iv, e' = .returned (.tuple #[iv, .int .i64 92]) ∧ DI w1 n b B p bb q cc L1 wt1 o X0 xv yv sm (j + 1) y := by
  obtain ⟨Va, Vb, hA, hX, hY, hy0, hx0, h0, h1, hs⟩ := h
  have e0 : (drp n L1 wt1 o j).L (j * 2) = L1 (j * 2) := drp_at j _ (Nat.le_refl _)
  have e1 : (drp n L1 wt1 o j).L (j * 2 + 1) = L1 (j * 2 + 1) := drp_at j _ (by omega)
  have er : rls n (drp n L1 wt1 o j).L (drp n L1 wt1 o j).wt j o = ⟨92, [], (drp n L1 wt1 o j).L, (drp n L1 wt1 o j).wt⟩ := rls_not hj (by rw [e0, e1]; exact hp)
  have ed : drp n L1 wt1 o (j + 1) = ⟨0, (drp n L1 wt1 o j).inn, (drp n L1 wt1 o j).L, (drp n L1 wt1 o j).wt⟩ := by
    show RR.mk _ _ _ _ = _
    rw [er]
    simp
  have hcall := hA.b.release hB (j : Int) o
  rw [er] at hcall
  refine hcall.mono ?_
  rintro e' y ⟨iv, V', rfl, hB', hTr, hI, hN⟩
  have hA2 := (hA.symm.stepF hB' (Nat.le_refl _) hTr).symm
  refine ⟨iv, rfl, Va, V', ?_, hA.b.t.irow hX hTr, ?_, hy0, hx0, h0, by have := hTr.chg.size; omega, fun e => ?_⟩
  · rw [ed]; exact hA2
  · rw [ed]; exact hA.b.t.irow hY hTr
  · obtain ⟨k1, k2⟩ := hs e
    refine ⟨fun e he => ?_, by rw [ed]; exact k2⟩
    by_cases hej : e = j
    · rw [hej]; exact hp
    · exact k1 e (by omega)
/-- all is given back: both stand alike, and the owner is gone -/
theorem DI.fin (h : DI w1 n b B p bb q cc L1 wt1 o X0 xv yv sm n x) (hok : Ok n L1) : IRow x xv (drp n L1 wt1 o n).inn ∧ IRow x yv (drp n L1 wt1 o n).inn ∧ (drp n L1 wt1 o n).inn.contains o = false ∧ (∃ Va Vb, A2 w1 x n b B p bb Va (drp n L1 wt1 o n).L (drp n L1 wt1 o n).wt q cc Vb (drp n L1 wt1 o n).L (drp n L1 wt1 o n).wt) ∧ (sm = false → (∀ e, e < n → noP L1 o e) ∧ (drp n L1 wt1 o n).wt = wt1) ∧ ∀ e, e < n → (((drp n L1 wt1 o n).L (e * 2)).map Prod.fst).contains o = false ∧ (((drp n L1 wt1 o n).L (e * 2 + 1)).map Prod.fst).contains o = false := by
  obtain ⟨Va, Vb, hA, hX, hY, hy0, hx0, h0, h1, hs⟩ := h
  obtain ⟨g1, g2⟩ := drp_gone hok (wt := wt1) (o := o) n (Nat.le_refl _)
  have hc : ∀ l : List Int, o ∉ l → l.contains o = false := fun l hl => by
    rw [← Bool.not_eq_true, List.contains_iff_mem]
    exact hl
  exact ⟨hX, hY, hc _ g1, ⟨Va, Vb, hA⟩, hs, fun e he => ⟨hc _ (g2 e he).1, hc _ (g2 e he).2⟩⟩
end
end Go.Proofs.Ytijfnacplikibaa
