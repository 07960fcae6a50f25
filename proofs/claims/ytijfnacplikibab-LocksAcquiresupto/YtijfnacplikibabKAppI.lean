import Derived.Test.YtijfnacplikibabKOwn
namespace Go.Proofs.Ytijfnacplikibab
open Go.RowKit
set_option linter.unusedVariables false
set_option linter.unusedSimpArgs false
set_option maxRecDepth 20000

/-- an append of any list -/
structure App (w w' : World) (v v' : Value) : Prop where
  chg : Chg (fun g => v.ownBlock = some g) w w'
  loc : ∀ g, v'.ownBlock = some g → v.ownBlock = some g ∨ w.heap.size ≤ g
theorem App.refl (w : World) (v : Value) : App w w v v := ⟨Chg.refl _ _, fun g h => .inl h⟩
theorem Upon.app {w w' : World} {v v' : Value} (h : Upon w w' v v') : App w w' v v' :=
  ⟨⟨h.same.1, h.same.2.1, h.same.2.2, h.size, fun g hg hn => h.block g hg hn⟩, fun g e => (h.loc g e).elim .inl fun e => .inr (by omega)⟩
theorem run_appendI (w : World) (ty : TypeId) (tv v : Value) (tl l : List Int) (ht : IRow w tv tl) (hv : IRow w v l) (hb : tl.length + l.length ≤ 16000000000000) :
    ∃ v' w', (Builtin.append_ #[50, 50] ty #[tv, v]).run Try.prog w = .ok v' w' ∧ IRow w' v' (tl ++ l) ∧ App w w' tv v' := by
  obtain ⟨i, hi, hz0, hz1, hz2⟩ := infoIs
  have hv' : w.ownsRow 0 3 1 v l.length (l.map iV) := hv
  have ht' : w.ownsRow 0 3 1 tv tl.length (tl.map iV) := ht
  rcases hv'.2 with ⟨rfl, e0⟩ | ⟨g, cap, cur, rfl, h1, hg, h2, h3, h4, h5⟩
  · have hl : l = [] := List.length_eq_zero_iff.1 e0
    subst hl
    have hr := run_append_owned_none (P := Try.prog) (w := w) 0 50 ty 3 i 1 Try.underlying50 hi tv tl.length (tl.map iV) ht'
    exact ⟨tv, w, hr, by rw [List.append_nil]; exact ht, App.refl _ _⟩
  · have hnews : ∀ j u, (l.map iV)[j]? = some u → w.cell? ((⟨g, 0, none⟩ : Addr).add j) = some u := hv'.cells (g := g) rfl
    have hone : ∀ u ∈ l.map iV, u.oneCell' = true := fun u hu => by
      obtain ⟨z, _, rfl⟩ := List.mem_map.1 hu
      rfl
    have hir : ∀ {w' : World} {v' : Value}, w'.ownsRow 0 3 1 v' (tl.length + l.length) (tl.map iV ++ l.map iV) → IRow w' v' (tl ++ l) := fun h => by
      unfold IRow
      rw [List.length_append, List.map_append]
      exact h
    by_cases hm : 0 < l.length
    · obtain ⟨v', w', hr, ho, hu⟩ := run_appendC (P := Try.prog) w 50 ty 3 i (.int .i64 0) 1 8 Try.underlying50 hi hz0 hz1 hz2 rfl (by decide) tv tl.length (tl.map iV) ht' ⟨g, 0, none⟩ l.length cap (l.map iV) (by simp) hm hnews hone (by unfold maxLen; omega) (by omega)
      exact ⟨v', w', hr, hir ho, hu.app⟩
    · obtain ⟨v', w', hr, ho, hgr, hnn⟩ := run_append_own_wide (P := Try.prog) w 0 50 ty 3 i (.int .i64 0) 1 8 Try.underlying50 hi hz0 hz1 hz2 rfl (by decide) tv tl.length (tl.map iV) ht' ⟨g, 0, none⟩ l.length cap (l.map iV) (by simp) hnews hone (by unfold maxLen; omega) (by omega) (Nat.zero_le _)
      have hl0 : l.length = 0 := by omega
      have hown : v'.ownBlock = tv.ownBlock := by
        rcases ht'.2 with ⟨rfl, e1⟩ | ⟨g2, cap2, cur2, rfl, k1, kg, k2, k3, k4, k5⟩
        · rw [hnn.2 ⟨rfl, hl0⟩]
        · have hr2 := run_append_room (P := Try.prog) w 50 ty 3 i Try.underlying50 hi g2 tl.length cap2 cur2 kg ⟨g, 0, none⟩ l.length cap (l.map iV) (by rw [hz1]; simp) hnews hone (by omega) (by rw [hz1]; simp; omega)
          rw [hr] at hr2
          injection hr2 with e1 e2
          rw [e1]
          rfl
      exact ⟨v', w', hr, hir ho, ⟨⟨hgr.os, hgr.tape, hgr.output, hgr.size, fun b hb hn => hgr.block b hb (fun e => hn e.symm)⟩, fun b e => .inl (hown ▸ e)⟩⟩
theorem step_appendI {w : World} {ops : Array Oper} {o : Oper} {a : Act} {K : Act → World → Prop} {Q : Exit → Act → World → Prop} {E : Prop} (hgd : o.guard = none) (s x : Operand)
    (ho : o.op = .call { callee := .builtin .append, args := #[s, x], argTypes := #[50, 50] })
    (tv v : Value) (tl l : List Int) (hs : a.eval s = tv) (hx : a.eval x = v) (ht : IRow w tv tl) (hv : IRow w v l) (hb : tl.length + l.length ≤ 16000000000000)
    (h : ∀ v' w', IRow w' v' (tl ++ l) → App w w' tv v' → K (a.put o.dst v') w') :
    if Region.wanted o (yielded ops a.tmps) = true then Oper.wp Try.prog o a w K Q else E := by
  have hw : Region.wanted o (yielded ops a.tmps) = true := by simp [Region.wanted, hgd]
  rw [if_pos hw]
  obtain ⟨v', w', hr, h2, h3⟩ := run_appendI w o.type tv v tl l ht hv hb
  unfold Oper.wp execOp
  simp only [ho, resolve, invoke, builtin, Sem.run_bind, Sem.run_pure, Result.andThen_ok, List.map_toArray, List.map_cons, List.map_nil, hs, hx, hr]
  exact h v' w' h2 h3
theorem wpList_appendI (w : World) {ops : Array Oper} {rest : List Oper} {o : Oper} {a : Act} {Q : Exit → Act → World → Prop} (hgd : o.guard = none) (s x : Operand)
    (ho : o.op = .call { callee := .builtin .append, args := #[s, x], argTypes := #[50, 50] })
    (tv v : Value) (tl l : List Int) (hs : a.eval s = tv) (hx : a.eval x = v) (ht : IRow w tv tl) (hv : IRow w v l) (hb : tl.length + l.length ≤ 16000000000000)
    (h : ∀ v' w', IRow w' v' (tl ++ l) → App w w' tv v' → wpList Try.prog ops Q rest (a.put o.dst v') w') :
    wpList Try.prog ops Q (o :: rest) a w := by
  refine wpList_plain hgd fun K hK => ?_
  obtain ⟨v', w', hr, h2, h3⟩ := run_appendI w o.type tv v tl l ht hv hb
  unfold Oper.wp execOp
  simp only [ho, resolve, invoke, builtin, Sem.run_bind, Sem.run_pure, Result.andThen_ok, List.map_toArray, List.map_cons, List.map_nil, hs, hx, hr]
  exact hK _ _ (h v' w' h2 h3)
end Go.Proofs.Ytijfnacplikibab
