import Derived.Test.YtlpmpicmpklaoabGreatKLawB
namespace Go.Proofs.YtlpmpicmpklaoabGreat.K
open Go.Proofs.YtlpmpicmpklaoabGreat Go.RowKit Go.Maps Go.Sort
set_option linter.unusedVariables false
set_option linter.unusedSimpArgs false
set_option maxRecDepth 20000

/-- the blocks of a pair -/
def own (L : Lay) (RL : RLay) (pp : Nat) (bv : Value) (x : Nat) : Prop := L.U x ∨ RL.U x ∨ x = pp ∨ bv.ownBlock = some x
def noB (w : World) : Bs := ⟨w, fun _ => False, w⟩
theorem PSt.lt {b : Bs} {w : World} {pp nx k : Nat} {L : Lay} {S T : St} {RL : RLay} {wh : Int} {bv : Value} (h : PSt b w pp L S RL T wh nx k bv) (x : Nat) (hx : own L RL pp bv x) : x < w.heap.size := by
  rcases hx with hx | hx | rfl | hx
  · exact h.d.uLt x hx
  · exact h.r.uLt x hx
  · exact h.b.lt
  · exact h.b.own hx
theorem PSt.rebase {w0 w : World} {pp nx k : Nat} {L : Lay} {S T : St} {RL : RLay} {wh : Int} {bv : Value} (h : PSt (noB w0) w pp L S RL T wh nx k bv) (K : Nat → Prop) (h1 : ∀ x, K x → x < w.heap.size) (h2 : ∀ x, K x → ¬ own L RL pp bv x) : PSt ⟨w0, K, w⟩ w pp L S RL T wh nx k bv :=
  ⟨h.d, h.r, h.b, h.be, Nat.le_refl _, fun x hx => ⟨h1 x hx, rfl⟩, fun x hx hu => h2 x hx (.inl hu), fun x hx hu => h2 x hx (.inr (.inl hu)), fun hx => h2 _ hx (.inr (.inr (.inl rfl))), fun x hb hx => h2 x hx (.inr (.inr (.inr hb))), h.uD, h.uR, h.uP, h.uB, h.ap, h.pD, h.pR, h.bD⟩
theorem PSt.unbase {w0 w : World} {K : Nat → Prop} {kw : World} {pp nx k : Nat} {L : Lay} {S T : St} {RL : RLay} {wh : Int} {bv : Value} (h : PSt ⟨w0, K, kw⟩ w pp L S RL T wh nx k bv) : PSt (noB w0) w pp L S RL T wh nx k bv :=
  ⟨h.d, h.r, h.b, h.be, h.be.size, fun x hx => hx.elim, fun x hx => hx.elim, fun x hx => hx.elim, fun hx => hx.elim, fun x hb hx => hx.elim, h.uD, h.uR, h.uP, h.uB, h.ap, h.pD, h.pR, h.bD⟩
theorem PSt.keptAll {w0 w w' : World} {pp nx k : Nat} {L : Lay} {S T : St} {RL : RLay} {wh : Int} {bv : Value} (h : PSt (noB w0) w pp L S RL T wh nx k bv) (hk : ∀ x, own L RL pp bv x → w'.heap[x]? = w.heap[x]?) (hs : w.heap.size ≤ w'.heap.size) (be : Below w0.heap.size w0 w') : PSt (noB w0) w' pp L S RL T wh nx k bv :=
  ⟨h.d.kept (fun x hx => hk x (.inl hx)) hs, h.r.kept (fun x hx => hk x (.inr (.inl hx))) hs, h.b.kept (hk _ (.inr (.inr (.inl rfl)))) (fun x hx => hk x (.inr (.inr (.inr hx)))), be, be.size, fun x hx => hx.elim, fun x hx => hx.elim, fun x hx => hx.elim, fun hx => hx.elim, fun x hb hx => hx.elim, h.uD, h.uR, h.uP, h.uB, h.ap, h.pD, h.pR, h.bD⟩
theorem PSt.ofE {w0 w : World} {pp nx k : Nat} {L : Lay} {S T : St} {RL : RLay} {wh : Int} {bv : Value} (h : Go.Proofs.YtlpmpicmpklaoabGreat.PSt w0 w pp L S RL T wh nx k bv) : PSt (noB w0) w pp L S RL T wh nx k bv :=
  ⟨h.d, h.r, h.b, h.be, h.be.size, fun x hx => hx.elim, fun x hx => hx.elim, fun x hx => hx.elim, fun hx => hx.elim, fun x hb hx => hx.elim, h.uD, h.uR, h.uP, h.uB, h.ap, h.pD, h.pR, h.bD⟩
/-- two pairs beside each other -/
def Two (w0 w : World) (pp qq : Nat) (S T : St) (nx k my j : Nat) : Prop :=
  ∃ L RL wh bv M RM vh cv, PSt (noB w0) w pp L S RL S wh nx k bv ∧ PSt (noB w0) w qq M T RM T vh my j cv ∧ ∀ x, own L RL pp bv x → ¬ own M RM qq cv x
theorem Two.be {w0 w : World} {pp qq nx k my j : Nat} {S T : St} (h : Two w0 w pp qq S T nx k my j) : Below w0.heap.size w0 w := by
  obtain ⟨L, RL, wh, bv, M, RM, vh, cv, h1, h2, h3⟩ := h
  exact h1.be
theorem Two.swap {w0 w : World} {pp qq nx k my j : Nat} {S T : St} (h : Two w0 w pp qq S T nx k my j) : Two w0 w qq pp T S my j nx k := by
  obtain ⟨L, RL, wh, bv, M, RM, vh, cv, h1, h2, h3⟩ := h
  exact ⟨M, RM, vh, cv, L, RL, wh, bv, h2, h1, fun x hx hy => h3 x hy hx⟩
def TwoPost (w0 : World) (pp qq : Nat) (S T : St) (nx k my j : Nat) (e : Ending) (w' : World) : Prop := e = .returned (.bool true) ∧ ∃ nx' k', Two w0 w' pp qq S T nx' k' my j ∧ nx' ≤ nx + 1 ∧ k' ≤ k + 2
theorem two_step {w0 w : World} {pp qq nx k my j : Nat} {S T : St} (h : Two w0 w pp qq S T nx k my j) (o : OpV) (hbl : i64ok o.block) (hct : i64ok o.count) (hdat : Dat w0 o.dv o.dl) (hb : ∀ k, (S.cache k).length + 2 ≤ 268435456) (hnx : nx ≤ 1152921504606846976) (hk : k ≤ 1152921504606) :
    Calls Tryz.prog 9 #[.pointer (some ⟨pp, 0, none⟩), o.val] w fun e w' => TwoPost w0 pp qq (S.call o) T nx k my j e w' := by
  obtain ⟨L, RL, wh, bv, M, RM, vh, cv, h1, h2, h3⟩ := h
  have hP : PAll ⟨w0, own M RM qq cv, w⟩ w pp S nx k := ⟨L, RL, wh, bv, h1.rebase _ (fun x hx => h2.lt x hx) (fun x hx hy => h3 x hy hx)⟩
  refine (pstep_any hP o hbl hct hdat hb hnx hk).mono ?_
  rintro e w' ⟨rfl, nx', k', ⟨L', RL', wh', bv', p⟩, e1, e2⟩
  refine ⟨rfl, nx', k', ⟨L', RL', wh', bv', M, RM, vh, cv, p.unbase, h2.keptAll (fun x hx => (p.kp x hx).2) p.ks p.be, fun x hx hy => ?_⟩, e1, e2⟩
  rcases hx with hx | hx | rfl | hx
  · exact p.kD x hy hx
  · exact p.kR x hy hx
  · exact p.kP hy
  · exact p.kB x hx hy
end Go.Proofs.YtlpmpicmpklaoabGreat.K
