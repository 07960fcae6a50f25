import Derived.Test.YtcdmkbjibcahcabTE
namespace Go.Proofs.Ytcdmkbjibcahcab
open Go.RowKit
set_option linter.unusedVariables false
set_option linter.unusedSimpArgs false
set_option maxRecDepth 20000

/-- an append of any list -/
structure App (w w' : World) (v v' : Value) : Prop where
  chg : Chg (fun g => v.ownBlock = some g) w w'
  loc : ∀ g, v'.ownBlock = some g → v.ownBlock = some g ∨ w.heap.size ≤ g
theorem App.refl (w : World) (v : Value) : App w w v v := ⟨Chg.refl _ _, fun g h => .inl h⟩
/-- what lies in the list's block ahead of the list stays -/
structure Fr (w w' : World) (v v' : Value) : Prop where
  kp : ∀ g o n c cur, v = .slice (some ⟨g, o, none⟩) n c → w.heap[g]? = some (.cells cur 56 (0, 0)) → ∃ cur', w'.heap[g]? = some (.cells cur' 56 (0, 0)) ∧ cur'.size = cur.size ∧ ∀ i, i < o + n * 3 ∨ o + c * 3 ≤ i ∨ c = 0 → cur'[i]? = cur[i]?
  fw : ∀ g o n c o' n' c', v = .slice (some ⟨g, o, none⟩) n c → v' = .slice (some ⟨g, o', none⟩) n' c' → o ≤ o' ∧ o' + c' * 3 ≤ o + c * 3 ∧ (c = 0 → c' = 0)
theorem Fr.rfl1 (v : Value) : ∀ g o n c o' n' c', v = .slice (some ⟨g, o, none⟩) n c → v = .slice (some ⟨g, o', none⟩) n' c' → o ≤ o' ∧ o' + c' * 3 ≤ o + c * 3 ∧ (c = 0 → c' = 0) := fun g o n c o' n' c' e e2 => by
  rw [e] at e2
  simp only [Value.slice.injEq, Option.some.injEq, Addr.mk.injEq, true_and, and_true] at e2
  omega
theorem Fr.same {w w' : World} {v v' : Value} (h : ∀ g, v.ownBlock = some g → g < w.heap.size → w'.heap[g]? = w.heap[g]?) (hf : ∀ g o n c o' n' c', v = .slice (some ⟨g, o, none⟩) n c → v' = .slice (some ⟨g, o', none⟩) n' c' → o ≤ o' ∧ o' + c' * 3 ≤ o + c * 3 ∧ (c = 0 → c' = 0)) : Fr w w' v v' :=
  ⟨fun g o n c cur e hg => ⟨cur, (h g (by rw [e]; rfl) (Array.getElem?_eq_some_iff.1 hg).1).trans hg, rfl, fun _ _ => rfl⟩, hf⟩
theorem Fr.refl (w : World) (v : Value) : Fr w w v v := Fr.same (fun _ _ _ => rfl) (Fr.rfl1 v)
theorem Fr.ofBelow {w w' : World} (v : Value) (h : Below w.heap.size w w') : Fr w w' v v := Fr.same (fun g _ hg => h.block g hg) (Fr.rfl1 v)
theorem Fr.below {w w' w2 : World} {v v' : Value} (h : Fr w w' v v') (hb : Below w'.heap.size w' w2) : Fr w w2 v v' := ⟨fun g o n c cur e hg => by
  obtain ⟨cur', h1, h2, h3⟩ := h.kp g o n c cur e hg
  exact ⟨cur', (hb.block g (Array.getElem?_eq_some_iff.1 h1).1).trans h1, h2, h3⟩, h.fw⟩
theorem Fr.pre {w x w' : World} {v v' : Value} (h0 : Fr w x v v) (h : Fr x w' v v') : Fr w w' v v' := ⟨fun g o n c cur e hg => by
  obtain ⟨c1, h1, h2, h3⟩ := h0.kp g o n c cur e hg
  obtain ⟨c2, i1, i2, i3⟩ := h.kp g o n c c1 e h1
  exact ⟨c2, i1, i2.trans h2, fun i hi => (i3 i hi).trans (h3 i hi)⟩, h.fw⟩
theorem Fr.set {w w' : World} {v v' : Value} (h : Fr w w' v v') (b i : Nat) (x : Value) (hb : ∀ g, v.ownBlock = some g → g < w.heap.size → g ≠ b) : Fr w (w'.setCell ⟨b, i, none⟩ x) v v' := ⟨fun g o n c cur e hg => by
  obtain ⟨cur', h1, h2, h3⟩ := h.kp g o n c cur e hg
  exact ⟨cur', (Go.heap_setCell_other _ _ _ _ (show g ≠ b from hb g (by rw [e]; rfl) (Array.getElem?_eq_some_iff.1 hg).1)).trans h1, h2, h3⟩, h.fw⟩
theorem Try.infoEn : (Try.prog.info? 56).map (fun i => (i.zero, i.size, i.bytes)) = some (some (.agg #[.int .i64 0, .int .i64 0, .int .i64 0]), 3, 24) := by kernel_rfl
theorem infoE : ∃ i, Try.prog.info? 56 = some i ∧ i.zero = some (.agg #[.int .i64 0, .int .i64 0, .int .i64 0]) ∧ i.size = 3 ∧ i.bytes = 24 := by
  have h := Try.infoEn
  cases hi : Try.prog.info? 56 with
  | none => rw [hi] at h; simp at h
  | some i => rw [hi] at h; simp at h; exact ⟨i, rfl, h.1, h.2.1, h.2.2⟩
theorem run_appendE (w : World) (ty : TypeId) (tv : Value) (tl : List En) (ht : ERow w tv tl) (a : Addr) (c : Nat) (k : List En) (hk : 0 < k.length) (hx : ∀ j u, (evs k)[j]? = some u → w.cell? (a.add j) = some u) (hb : tl.length + k.length ≤ 4000000000000) :
    ∃ v' w', (Builtin.append_ #[46, 46] ty #[tv, .slice (some a) k.length c]).run Try.prog w = .ok v' w' ∧ ERow w' v' (tl ++ k) ∧ App w w' tv v' ∧ Fr w w' tv v' := by
  obtain ⟨i, hi, hz0, hz1, hz2⟩ := infoE
  have hone : ∀ u ∈ evs k, u.oneCell' = true := evs_one
  have hel := evs_length k
  have hul : Try.prog.underlying 46 = some (.slice 56) := Try.underlying46
  rcases ht with ⟨rfl, rfl⟩ | ⟨g, off, cap, cur, rfl, hg, h1, h2, h3, h4⟩
  · obtain ⟨v', w', hr, ho, hu⟩ := run_appendC (P := Try.prog) w 46 ty 56 i (.agg #[.int .i64 0, .int .i64 0, .int .i64 0]) 3 24 hul hi hz0 hz1 hz2 rfl (by decide) (.slice none 0 0) 0 [] ⟨rfl, .inl ⟨rfl, rfl⟩⟩ a k.length c (evs k) hel hk hx hone (by unfold maxLen; simp at hb; omega) (by simp at hb; omega)
    refine ⟨v', w', hr, ?_, ⟨⟨hu.same.1, hu.same.2.1, hu.same.2.2, hu.size, fun g hg hn => hu.block g hg hn⟩, fun g e => (hu.loc g e).elim .inl fun e => .inr (by omega)⟩, ⟨fun g o n c cur e => by simp at e, fun g o n c o' n' c' e => by simp at e⟩⟩
    rcases ho.2 with ⟨_, e⟩ | ⟨g, cap, cur, rfl, _, hg, q1, q2, q3, q4⟩
    · omega
    · refine .inr ⟨g, 0, cap, cur, by simp, hg, by omega, by simpa using q1, q2, ?_⟩
      simp at q4
      simpa using q4
  · by_cases hroom : tl.length + k.length ≤ cap
    · have hr := run_append_off (P := Try.prog) w 46 ty 56 i hul hi g off tl.length cap cur hg a k.length c (evs k) (by rw [hz1]; exact hel) hx hone hroom (by rw [hz1, hel]; omega)
      refine ⟨_, _, hr, .inr ⟨g, off, cap, _, by simp, setRow_heap w g cur _ 56 _ hg, ?_, by simpa using hroom, h3, ?_⟩, ⟨⟨rfl, rfl, rfl, by simp, fun k _ hk => setRow_other w g k _ fun e => hk (by simp [Value.ownBlock, e])⟩, fun g' e => .inl e⟩, ⟨?_, ?_⟩⟩
      · simp only [List.size_toArray, List.length_append, List.length_take, List.length_drop, Array.length_toList, hz1, hel]
        omega
      · simp only [hz1]
        have e1 : (cur.toList.take (off + tl.length * 3)).drop off = evs tl := by
          rw [List.drop_take, ← h4]
          congr 1
          omega
        have hl1 : (cur.toList.take (off + tl.length * 3)).length = off + tl.length * 3 := by
          have hcl : cur.toList.length = cur.size := by simp
          rw [List.length_take]; omega
        rw [List.append_assoc, List.drop_append_of_le_length (l₁ := cur.toList.take (off + tl.length * 3)) (by rw [hl1]; omega), e1, ← List.append_assoc, evs_append]
        rw [show (tl ++ k).length * 3 = (evs tl ++ evs k).length by rw [List.length_append, List.length_append, evs_length, evs_length]; omega]
        exact List.take_left
      · intro g' o n c' cur' e hg'
        simp only [Value.slice.injEq, Option.some.injEq, Addr.mk.injEq, and_true] at e
        obtain ⟨⟨rfl, rfl⟩, rfl, rfl⟩ := e
        rw [hg] at hg'
        simp only [Option.some.injEq, Obj.cells.injEq, and_true] at hg'
        subst hg'
        refine ⟨_, setRow_heap w g cur _ 56 _ hg, ?_, fun i hi => ?_⟩
        · simp only [List.size_toArray, List.length_append, List.length_take, List.length_drop, Array.length_toList, hz1, hel]
          omega
        · have hcl : cur.toList.length = cur.size := by simp
          by_cases hi2 : i < off + tl.length * 3
          · rw [List.getElem?_toArray, hz1, List.append_assoc, List.getElem?_append_left (by rw [List.length_take]; omega), List.getElem?_take, if_pos (by omega), Array.getElem?_toList]
          · have hi3 : off + cap * 3 ≤ i := by omega
            rw [List.getElem?_toArray, hz1, List.getElem?_append_right (by rw [List.length_append, List.length_take, hel]; omega), List.getElem?_drop, List.length_append, List.length_take, hel, ← Array.getElem?_toList]
            congr 1
            omega
      · intro g' o n c' o' n' c9 e e2
        simp only [Value.slice.injEq, Option.some.injEq, Addr.mk.injEq, and_true] at e e2
        omega
    · have holds : ∀ j u, (evs tl)[j]? = some u → w.cell? ((⟨g, off, none⟩ : Addr).add j) = some u := fun j u hj => by
        rw [Addr.add_lit, cell_of_row _ _ _ _ _ _ hg]
        rw [← h4, List.getElem?_take] at hj
        split at hj
        · rw [List.getElem?_drop] at hj
          simpa using hj
        · cases hj
      have hr := run_append_grow (P := Try.prog) w 46 ty 56 i (.agg #[.int .i64 0, .int .i64 0, .int .i64 0]) hul hi hz0 ⟨g, off, none⟩ tl.length cap (evs tl) (by rw [hz1, evs_length]) holds a k.length c (evs k) (by rw [hz1]; exact hel) hx (by omega) (by omega) (by rw [hz2]; exact growslice_fits_wide (by omega) (by omega))
      have hge := grownCap_ge w (tl.length + k.length) cap 56
      refine ⟨_, _, hr, .inr ⟨w.heap.size, 0, _, _, by rw [List.length_append], Go.heap_alloc_new w.drew _, ?_, by simpa using hge, grownCap_le_maxLen w _ cap 56 (by unfold maxLen; omega), ?_⟩, ⟨⟨rfl, rfl, rfl, by simp, fun k hk _ => Go.heap_alloc_old w.drew _ hk⟩, fun g' e => .inr ?_⟩, Fr.same (fun g' _ hg' => Go.heap_alloc_old w.drew _ hg') fun g' o n c' o' n' c9 e e2 => ?_⟩
      · simp only [Array.size_append, List.size_toArray, size_zeroCells, evs_length]
        have : (Value.agg #[.int .i64 0, .int .i64 0, .int .i64 0]).cells.size = 3 := rfl
        rw [this]
        omega
      · simp only [Array.toList_append, List.drop_zero]
        rw [show (tl ++ k).length * 3 = (evs tl ++ evs k).length by rw [List.length_append, List.length_append, evs_length, evs_length]; omega, evs_append]
        exact List.take_left
      · simp only [Value.ownBlock, Option.some.injEq] at e
        omega
      · have hgl := (Array.getElem?_eq_some_iff.1 hg).1
        simp only [Value.slice.injEq, Option.some.injEq, Addr.mk.injEq, and_true] at e e2
        omega
theorem wpList_appendE (w : World) {ops : Array Oper} {rest : List Oper} {o : Oper} {a : Act} {Q : Exit → Act → World → Prop} (hgd : o.guard = none) (s x : Operand)
    (ho : o.op = .call { callee := .builtin .append, args := #[s, x], argTypes := #[46, 46] })
    (tv : Value) (tl : List En) (hs : a.eval s = tv) (ht : ERow w tv tl) (ad : Addr) (c : Nat) (k : List En) (hk : 0 < k.length) (hx : a.eval x = .slice (some ad) k.length c) (hz : ∀ j u, (evs k)[j]? = some u → w.cell? (ad.add j) = some u) (hb : tl.length + k.length ≤ 4000000000000)
    (h : ∀ v' w', ERow w' v' (tl ++ k) → App w w' tv v' → wpList Try.prog ops Q rest (a.put o.dst v') w') :
    wpList Try.prog ops Q (o :: rest) a w := by
  refine wpList_plain hgd fun K hK => ?_
  obtain ⟨v', w', hr, h2, h3, -⟩ := run_appendE w o.type tv tl ht ad c k hk hz hb
  unfold Oper.wp execOp
  simp only [ho, resolve, invoke, builtin, Sem.run_bind, Sem.run_pure, Result.andThen_ok, List.map_toArray, List.map_cons, List.map_nil, hs, hx, hr]
  exact hK _ _ (h v' w' h2 h3)
theorem wpList_appendF (w : World) {ops : Array Oper} {rest : List Oper} {o : Oper} {a : Act} {Q : Exit → Act → World → Prop} (hgd : o.guard = none) (s x : Operand)
    (ho : o.op = .call { callee := .builtin .append, args := #[s, x], argTypes := #[46, 46] })
    (tv : Value) (tl : List En) (hs : a.eval s = tv) (ht : ERow w tv tl) (ad : Addr) (c : Nat) (k : List En) (hk : 0 < k.length) (hx : a.eval x = .slice (some ad) k.length c) (hz : ∀ j u, (evs k)[j]? = some u → w.cell? (ad.add j) = some u) (hb : tl.length + k.length ≤ 4000000000000)
    (h : ∀ v' w', ERow w' v' (tl ++ k) → App w w' tv v' → Fr w w' tv v' → wpList Try.prog ops Q rest (a.put o.dst v') w') :
    wpList Try.prog ops Q (o :: rest) a w := by
  refine wpList_plain hgd fun K hK => ?_
  obtain ⟨v', w', hr, h2, h3, h4⟩ := run_appendE w o.type tv tl ht ad c k hk hz hb
  unfold Oper.wp execOp
  simp only [ho, resolve, invoke, builtin, Sem.run_bind, Sem.run_pure, Result.andThen_ok, List.map_toArray, List.map_cons, List.map_nil, hs, hx, hr]
  exact hK _ _ (h v' w' h2 h3 h4)
theorem step_appendE {w : World} {ops : Array Oper} {o : Oper} {a : Act} {K : Act → World → Prop} {Q : Exit → Act → World → Prop} {E : Prop} (hgd : o.guard = none) (s x : Operand)
    (ho : o.op = .call { callee := .builtin .append, args := #[s, x], argTypes := #[46, 46] })
    (tv : Value) (tl : List En) (hs : a.eval s = tv) (ht : ERow w tv tl) (ad : Addr) (c : Nat) (k : List En) (hk : 0 < k.length) (hx : a.eval x = .slice (some ad) k.length c) (hz : ∀ j u, (evs k)[j]? = some u → w.cell? (ad.add j) = some u) (hb : tl.length + k.length ≤ 4000000000000)
    (h : ∀ v' w', ERow w' v' (tl ++ k) → App w w' tv v' → K (a.put o.dst v') w') :
    if Region.wanted o (yielded ops a.tmps) = true then Oper.wp Try.prog o a w K Q else E := by
  have hw : Region.wanted o (yielded ops a.tmps) = true := by simp [Region.wanted, hgd]
  rw [if_pos hw]
  obtain ⟨v', w', hr, h2, h3, -⟩ := run_appendE w o.type tv tl ht ad c k hk hz hb
  unfold Oper.wp execOp
  simp only [ho, resolve, invoke, builtin, Sem.run_bind, Sem.run_pure, Result.andThen_ok, List.map_toArray, List.map_cons, List.map_nil, hs, hx, hr]
  exact h v' w' h2 h3
theorem step_appendF {w : World} {ops : Array Oper} {o : Oper} {a : Act} {K : Act → World → Prop} {Q : Exit → Act → World → Prop} {E : Prop} (hgd : o.guard = none) (s x : Operand)
    (ho : o.op = .call { callee := .builtin .append, args := #[s, x], argTypes := #[46, 46] })
    (tv : Value) (tl : List En) (hs : a.eval s = tv) (ht : ERow w tv tl) (ad : Addr) (c : Nat) (k : List En) (hk : 0 < k.length) (hx : a.eval x = .slice (some ad) k.length c) (hz : ∀ j u, (evs k)[j]? = some u → w.cell? (ad.add j) = some u) (hb : tl.length + k.length ≤ 4000000000000)
    (h : ∀ v' w', ERow w' v' (tl ++ k) → App w w' tv v' → Fr w w' tv v' → K (a.put o.dst v') w') :
    if Region.wanted o (yielded ops a.tmps) = true then Oper.wp Try.prog o a w K Q else E := by
  have hw : Region.wanted o (yielded ops a.tmps) = true := by simp [Region.wanted, hgd]
  rw [if_pos hw]
  obtain ⟨v', w', hr, h2, h3, h4⟩ := run_appendE w o.type tv tl ht ad c k hk hz hb
  unfold Oper.wp execOp
  simp only [ho, resolve, invoke, builtin, Sem.run_bind, Sem.run_pure, Result.andThen_ok, List.map_toArray, List.map_cons, List.map_nil, hs, hx, hr]
  exact h v' w' h2 h3 h4
theorem wp_still_tail {P : Program} {id : Nat} {Q : Exit → Act → World → Prop} {a : Act} {w : World} {l : List Oper} (n : Nat) (hm : P.follows .mixedOrders = true) (hB : Region.lexTailB .any l.toArray n = true)
    (h : wpStill P l.toArray w.drew (fun a' => wpList P l.toArray Q (l.drop n) a' w.drew) (l.take n) a) : (Code.region id l.toArray true).wp P Q a w :=
  wp_region_still_tail n hm hB h
end Go.Proofs.Ytcdmkbjibcahcab
