import Derived.Test.YtijfnacplikibaaKAS2
namespace Go.Proofs.Ytijfnacplikibaa
open Go.RowKit
set_option linter.unusedVariables false
set_option linter.unusedSimpArgs false
set_option maxRecDepth 20000

/-- while all give back in turn: hv who holds, cv who has come, wv all who waited, k how many are left -/
def CI (w1 : World) (p bb n ex : Nat) (b : Int) (B X0 : Nat) (wv : Value) (wl : List Int) (hv cv : Value) (k : Nat) (x : World) : Prop :=
  ∃ V L wt cl, AS w1 x p bb n V L b wt B ∧ IRow x hv ((L (ex * 2)).map Prod.fst) ∧ IRow x cv cl ∧ IRow x wv wl ∧ (L (ex * 2)).length + (L (ex * 2 + 1)).length = k ∧ cl ++ (L (ex * 2 + 1)).map Prod.fst = wl ∧ (∀ g, cv.ownBlock = some g → X0 ≤ g) ∧ (∀ g, wv.ownBlock = some g → g < X0) ∧ w1.heap.size ≤ X0 ∧ X0 ≤ x.heap.size ∧ wl.length ≤ 1000
section
variable {w1 : World} {p bb n ex : Nat} {b : Int} {B X0 : Nat} {wv : Value} {wl : List Int} {hv cv : Value} {k : Nat} {x : World}
/-- one gives back -/
theorem CI.rel (h : CI w1 p bb n ex b B X0 wv wl hv cv (k + 1) x) (hex : ex < n) (hB : B ≤ 3900000000000) : ∃ (g0 kh q : Nat) (o : Int), hv = .slice (some ⟨g0, 0, none⟩) (q + 1) kh ∧ q + 1 ≤ kh ∧ kh ≤ maxLen ∧ x.cell? ⟨g0, 0, none⟩ = some (.int .i64 o) ∧
    Calls Try.prog 16 #[.pointer (some ⟨p, 0, none⟩), .int .i64 (ex : Int), .int .i64 o] x fun e' y => ∃ iv il cl V L wt, e' = .returned (.tuple #[iv, .int .i64 0]) ∧ AS w1 y p bb n V L b wt B ∧ IRow y cv cl ∧ IRow y iv il ∧ IRow y wv wl ∧ cl.length + il.length ≤ 16000000000000 ∧ (L (ex * 2)).length + (L (ex * 2 + 1)).length = k ∧ cl ++ il ++ (L (ex * 2 + 1)).map Prod.fst = wl ∧ x.heap.size ≤ y.heap.size := by
  obtain ⟨V, L, wt, cl, hA, hH, hC, hW, hk, hl, hc0, hw0, h0, h1, hwl⟩ := h
  have hok := hA.ok ex hex
  cases hc : L (ex * 2) with
  | nil =>
    have hr : L (ex * 2 + 1) = [] := Classical.byContradiction fun hr => hok.ne hr hc
    rw [hc, hr] at hk
    simp at hk
  | cons c hs =>
    rw [hc] at hH hk
    obtain ⟨g0, kh, e1, e2, e3⟩ := hH.cell (j := 0) (z := c.1) rfl
    obtain ⟨a', c', e4, e5, e6⟩ := rowForm hH
    rw [e1] at e4
    simp only [Value.slice.injEq] at e4
    obtain ⟨-, -, rfl⟩ := e4
    obtain ⟨r1, r2, r3, r4⟩ := rls_first (wt := wt) hex hc
    refine ⟨g0, kh, hs.length, c.1, by rw [e1]; simp, by simpa using e5, e6, e3, (hA.release hB (ex : Int) c.1).mono ?_⟩
    rintro e' y ⟨iv, V', rfl, hA', hTr, hI, hN⟩
    have hll := congrArg List.length hl
    refine ⟨iv, _, cl, V', _, _, by rw [r1], hA', hA.irow hC hTr, hI, hA.irow hW hTr, ?_, ?_, ?_, hTr.chg.size⟩
    · have h9 : (cl ++ ((rls n L wt (ex : Int) c.1).inn ++ ((rls n L wt (ex : Int) c.1).L (ex * 2 + 1)).map Prod.fst)).length = wl.length := by
        rw [r2, r4, ← List.map_append, List.take_append_drop, hl]
      rw [List.length_append, List.length_append] at h9
      omega
    · rw [r3, r4, List.length_append, List.length_take, List.length_drop]
      simp at hk
      omega
    · rw [r2, r4, List.append_assoc, ← List.map_append, List.take_append_drop]
      exact hl
/-- behind the release, the list grown, the holders asked -/
theorem CI.mk {y z : World} {V : Nat → Value} {L : LL} {wt : Int} {cv' : Value} {il cl : List Int} (hX : X0 ≤ y.heap.size) (h0 : w1.heap.size ≤ X0) (hwl : wl.length ≤ 1000) (hcv : ∀ g, cv.ownBlock = some g → X0 ≤ g) (hwv : ∀ g, wv.ownBlock = some g → g < X0)
    (hA : AS w1 y p bb n V L b wt B) (hC : IRow y cv cl) (hW : IRow y wv wl) (hk : (L (ex * 2)).length + (L (ex * 2 + 1)).length = k) (hl : cl ++ il ++ (L (ex * 2 + 1)).map Prod.fst = wl) (hC2 : IRow z cv' (cl ++ il)) (ha : App y z cv cv') :
    AS w1 z p bb n V L b wt B ∧ ∀ u hv', AS w1 u p bb n V L b wt B → Chg (· = p) z u → IRow u hv' ((L (ex * 2)).map Prod.fst) → CI w1 p bb n ex b B X0 wv wl hv' cv' k u := by
  have hAz := hA.app hC ha fun g hg => by have := hcv g hg; omega
  have hWz := hW.app ha fun g hg e => by have := hcv g e; have := hwv g hg; omega
  refine ⟨hAz, fun u hv' hU hc hI => ⟨V, L, wt, cl ++ il, hU, hI, hAz.irowA hC2 hc, hAz.irowA hWz hc, hk, hl, fun g hg => ?_, hwv, h0, ?_, hwl⟩⟩
  · rcases ha.loc g hg with h | h
    · exact hcv g h
    · omega
  · have := hc.size
    have := ha.chg.size
    omega
theorem CI.base (h : CI w1 p bb n ex b B X0 wv wl hv cv k x) : X0 ≤ x.heap.size ∧ w1.heap.size ≤ X0 ∧ wl.length ≤ 1000 ∧ (∀ g, cv.ownBlock = some g → X0 ≤ g) ∧ (∀ g, wv.ownBlock = some g → g < X0) := by
  obtain ⟨V, L, wt, cl, hA, hH, hC, hW, hk, hl, hc0, hw0, h0, h1, hwl⟩ := h
  exact ⟨h1, h0, hwl, hc0, hw0⟩
/-- all have given back -/
theorem CI.zero (h : CI w1 p bb n ex b B X0 wv wl hv cv 0 x) : ∃ V L wt, AS w1 x p bb n V L b wt B ∧ IRow x hv [] ∧ IRow x cv wl ∧ IRow x wv wl ∧ L (ex * 2 + 1) = [] := by
  obtain ⟨V, L, wt, cl, hA, hH, hC, hW, hk, hl, hc0, hw0, h0, h1, hwl⟩ := h
  have e0 : L (ex * 2) = [] := List.length_eq_zero_iff.1 (by omega)
  have e1 : L (ex * 2 + 1) = [] := List.length_eq_zero_iff.1 (by omega)
  rw [e1, List.map_nil, List.append_nil] at hl
  rw [e0] at hH
  subst hl
  exact ⟨V, L, wt, hA, hH, hC, hW, e1⟩
end
end Go.Proofs.Ytijfnacplikibaa
