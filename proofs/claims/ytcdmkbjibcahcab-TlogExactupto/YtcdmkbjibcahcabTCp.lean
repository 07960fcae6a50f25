import Derived.Test.YtcdmkbjibcahcabTWr
namespace Go.Proofs.Ytcdmkbjibcahcab
open Go.RowKit
set_option linter.unusedVariables false
set_option linter.unusedSimpArgs false
set_option maxRecDepth 20000

/-- 'append([]Entry{}, l...)', any list -/
theorem run_copyE (w : World) (ty : TypeId) (g : Nat) (hg : w.heap[g]? = some (.cells #[] 56 (0, 0))) (u : Value) (l : List En) (hu : ERow w u l) (hb : l.length ≤ 4000000000000) :
    ∃ v' w', (Builtin.append_ #[46, 46] ty #[.slice (some ⟨g, 0, none⟩) 0 0, u]).run Try.prog w = .ok v' w' ∧ ERow w' v' l ∧ App w w' (.slice (some ⟨g, 0, none⟩) 0 0) v' := by
  have h0 : ERow w (.slice (some ⟨g, 0, none⟩) 0 0) [] := .inr ⟨g, 0, 0, #[], rfl, hg, by simp, Nat.le_refl _, by unfold maxLen; omega, rfl⟩
  obtain ⟨i, hi, hz0, hz1, hz2⟩ := infoE
  have hul : Try.prog.underlying 46 = some (.slice 56) := Try.underlying46
  have ho : w.ownsRow 0 56 3 (.slice (some ⟨g, 0, none⟩) 0 0) 0 [] := ⟨rfl, .inr ⟨g, 0, #[], rfl, Nat.zero_le _, hg, Nat.le_refl _, by unfold maxLen; omega, rfl, rfl⟩⟩
  rcases hu with ⟨rfl, rfl⟩ | ⟨g', off, cap, cur, rfl, h1, h2, h3, h4, h5⟩
  · exact ⟨_, w, run_append_owned_none (P := Try.prog) (w := w) 0 46 ty 56 i 3 hul hi _ 0 [] ho, h0, App.refl _ _⟩
  · by_cases hl : l = []
    · subst hl
      have hr := run_append_off (P := Try.prog) w 46 ty 56 i hul hi g 0 0 0 #[] hg ⟨g', off, none⟩ 0 cap [] (by simp) (by simp) (by simp) (Nat.le_refl _) (by simp)
      refine ⟨_, _, hr, .inr ⟨g, 0, 0, _, by simp, setRow_heap w g #[] _ 56 _ hg, by simp, Nat.le_refl _, by unfold maxLen; omega, by simp [evs]⟩, ⟨⟨rfl, rfl, rfl, by simp, fun k _ hk => setRow_other w g k _ fun e => hk (by simp [Value.ownBlock, e])⟩, fun g' e => .inl e⟩⟩
    · have hx : ∀ j u, (evs l)[j]? = some u → w.cell? ((⟨g', off, none⟩ : Addr).add j) = some u := fun j u hj => by
        rw [Addr.add_lit, cell_of_row _ _ _ _ _ _ h1]
        rw [← h5, List.getElem?_take] at hj
        split at hj
        · rw [List.getElem?_drop] at hj
          simpa using hj
        · cases hj
      obtain ⟨v', w', hr, q1, q2, -⟩ := run_appendE w ty _ [] h0 ⟨g', off, none⟩ cap l (List.length_pos_iff.2 hl) hx (by simpa using hb)
      exact ⟨v', w', hr, q1, q2⟩
theorem step_copyE {w : World} {ops : Array Oper} {o : Oper} {a : Act} {K : Act → World → Prop} {Q : Exit → Act → World → Prop} {E : Prop} (hgd : o.guard = none) (s x : Operand)
    (ho : o.op = .call { callee := .builtin .append, args := #[s, x], argTypes := #[46, 46] })
    (g : Nat) (hs : a.eval s = .slice (some ⟨g, 0, none⟩) 0 0) (hg : w.heap[g]? = some (.cells #[] 56 (0, 0))) (u : Value) (l : List En) (hx : a.eval x = u) (hu : ERow w u l) (hb : l.length ≤ 4000000000000)
    (h : ∀ v' w', ERow w' v' l → App w w' (.slice (some ⟨g, 0, none⟩) 0 0) v' → K (a.put o.dst v') w') :
    if Region.wanted o (yielded ops a.tmps) = true then Oper.wp Try.prog o a w K Q else E := by
  have hw : Region.wanted o (yielded ops a.tmps) = true := by simp [Region.wanted, hgd]
  rw [if_pos hw]
  obtain ⟨v', w', hr, h2, h3⟩ := run_copyE w o.type g hg u l hu hb
  unfold Oper.wp execOp
  simp only [ho, resolve, invoke, builtin, Sem.run_bind, Sem.run_pure, Result.andThen_ok, List.map_toArray, List.map_cons, List.map_nil, hs, hx, hr]
  exact h v' w' h2 h3
theorem Try.infoEs : (Try.prog.info? 46).map (fun i => (i.zero, i.size, i.bytes)) = some (some (.slice none 0 0), 1, 24) := by kernel_rfl
theorem infoEs : ∃ i, Try.prog.info? 46 = some i ∧ i.zero = some (.slice none 0 0) ∧ i.size = 1 ∧ i.bytes = 24 := by
  have h := Try.infoEs
  cases hi : Try.prog.info? 46 with
  | none => rw [hi] at h; simp at h
  | some i => rw [hi] at h; simp at h; exact ⟨i, rfl, h.1, h.2.1, h.2.2⟩
/-- a list goes into a list of lists -/
theorem run_appendV (w : World) (ty : TypeId) (tv : Value) (F : VL) (ht : w.ownsRow 0 46 1 tv F.length (F.map Prod.fst)) (a : Addr) (c : Nat) (u : Value × List En) (ho : u.1.oneCell' = true) (hx : w.cell? a = some u.1) (hb : F.length ≤ 9382499223000) :
    ∃ v' w', (Builtin.append_ #[30, 30] ty #[tv, .slice (some a) 1 c]).run Try.prog w = .ok v' w' ∧ w'.ownsRow 0 46 1 v' (F ++ [u]).length ((F ++ [u]).map Prod.fst) ∧ App w w' tv v' := by
  obtain ⟨i, hi, hz0, hz1, hz2⟩ := infoEs
  have hul : Try.prog.underlying 30 = some (.slice 46) := Try.underlying30
  obtain ⟨v', w', hr, ho, hu⟩ := run_appendC (P := Try.prog) w 30 ty 46 i (.slice none 0 0) 1 24 hul hi hz0 hz1 hz2 rfl (by decide) tv F.length (F.map Prod.fst) ht a 1 c [u.1] rfl (by decide) (fun j y hj => by
    cases j with
    | zero => simp at hj; subst hj; simpa [Addr.add] using hx
    | succ j => simp at hj) (by simpa using ho) (by unfold maxLen; omega) (by omega)
  refine ⟨v', w', hr, ?_, ⟨⟨hu.same.1, hu.same.2.1, hu.same.2.2, hu.size, fun g hg hn => hu.block g hg hn⟩, fun g e => (hu.loc g e).elim .inl fun e => .inr (by omega)⟩⟩
  rw [List.length_append, List.map_append]
  exact ho
theorem wpList_appendV (w : World) {ops : Array Oper} {rest : List Oper} {o : Oper} {a : Act} {Q : Exit → Act → World → Prop} (hgd : o.guard = none) (s x : Operand)
    (hop : o.op = .call { callee := .builtin .append, args := #[s, x], argTypes := #[30, 30] })
    (tv : Value) (F : VL) (hs : a.eval s = tv) (ht : w.ownsRow 0 46 1 tv F.length (F.map Prod.fst)) (ad : Addr) (c : Nat) (u : Value × List En) (hx : a.eval x = .slice (some ad) 1 c) (ho : u.1.oneCell' = true) (hc : w.cell? ad = some u.1) (hb : F.length ≤ 9382499223000)
    (h : ∀ v' w', w'.ownsRow 0 46 1 v' (F ++ [u]).length ((F ++ [u]).map Prod.fst) → App w w' tv v' → wpList Try.prog ops Q rest (a.put o.dst v') w') :
    wpList Try.prog ops Q (o :: rest) a w := by
  refine wpList_plain hgd fun K hK => ?_
  obtain ⟨v', w', hr, h2, h3⟩ := run_appendV w o.type tv F ht ad c u ho hc hb
  unfold Oper.wp execOp
  simp only [hop, resolve, invoke, builtin, Sem.run_bind, Sem.run_pure, Result.andThen_ok, List.map_toArray, List.map_cons, List.map_nil, hs, hx, hr]
  exact hK _ _ (h v' w' h2 h3)
theorem step_appendV {w : World} {ops : Array Oper} {o : Oper} {a : Act} {K : Act → World → Prop} {Q : Exit → Act → World → Prop} {E : Prop} (hgd : o.guard = none) (s x : Operand)
    (hop : o.op = .call { callee := .builtin .append, args := #[s, x], argTypes := #[30, 30] })
    (tv : Value) (F : VL) (hs : a.eval s = tv) (ht : w.ownsRow 0 46 1 tv F.length (F.map Prod.fst)) (ad : Addr) (c : Nat) (u : Value × List En) (hx : a.eval x = .slice (some ad) 1 c) (ho : u.1.oneCell' = true) (hc : w.cell? ad = some u.1) (hb : F.length ≤ 9382499223000)
    (h : ∀ v' w', w'.ownsRow 0 46 1 v' (F ++ [u]).length ((F ++ [u]).map Prod.fst) → App w w' tv v' → K (a.put o.dst v') w') :
    if Region.wanted o (yielded ops a.tmps) = true then Oper.wp Try.prog o a w K Q else E := by
  have hw : Region.wanted o (yielded ops a.tmps) = true := by simp [Region.wanted, hgd]
  rw [if_pos hw]
  obtain ⟨v', w', hr, h2, h3⟩ := run_appendV w o.type tv F ht ad c u ho hc hb
  unfold Oper.wp execOp
  simp only [hop, resolve, invoke, builtin, Sem.run_bind, Sem.run_pure, Result.andThen_ok, List.map_toArray, List.map_cons, List.map_nil, hs, hx, hr]
  exact h v' w' h2 h3
theorem ERow.oneCell {w : World} {v : Value} {l : List En} (h : ERow w v l) : v.oneCell' = true := by
  obtain ⟨a, c, rfl, -⟩ := h.form
  rfl
end Go.Proofs.Ytcdmkbjibcahcab
