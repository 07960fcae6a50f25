import Derived.Test.YtijfnacplikibaaKOff
namespace Go.Proofs.Ytijfnacplikibaa
open Go.RowKit
set_option linter.unusedVariables false
set_option linter.unusedSimpArgs false
set_option maxRecDepth 20000

/-- append of one number to a list at an offset -/
theorem run_appendO (w : World) (ty : TypeId) (tv : Value) (tl : List Int) (ht : ORow w tv tl) (a : Addr) (c : Nat) (x : Int) (hx : ∀ j u, [Value.int .i64 x][j]? = some u → w.cell? (a.add j) = some u) (hb : tl.length + 1 ≤ 16000000000000) :
    ∃ v' w', (Builtin.append_ #[34, 34] ty #[tv, .slice (some a) 1 c]).run Try.prog w = .ok v' w' ∧ ORow w' v' (tl ++ [x]) ∧ App w w' tv v' := by
  obtain ⟨i, hi, hz0, hz1, hz2⟩ := infoIs
  have hone : ∀ u ∈ [Value.int .i64 x], u.oneCell' = true := fun u hu => by
    obtain rfl := List.mem_singleton.1 hu
    rfl
  rcases ht with ⟨rfl, rfl⟩ | ⟨g, off, cap, cur, rfl, hg, h1, h2, h3, h4⟩
  · obtain ⟨v', w', hr, ho, hu⟩ := run_appendC (P := Try.prog) w 34 ty 3 i (.int .i64 0) 1 8 Try.underlying34 hi hz0 hz1 hz2 rfl (by decide) (.slice none 0 0) 0 [] (IRow.nil w) a 1 c [.int .i64 x] rfl (by omega) hx hone (by unfold maxLen; omega) (by omega)
    exact ⟨v', w', hr, ORow.ofI ho, hu.app⟩
  · by_cases hroom : tl.length + 1 ≤ cap
    · have hr := run_append_off (P := Try.prog) w 34 ty 3 i Try.underlying34 hi g off tl.length cap cur hg a 1 c [.int .i64 x] (by rw [hz1]; rfl) hx hone hroom (by rw [hz1]; simp; omega)
      refine ⟨_, _, hr, .inr ⟨g, off, cap, _, by simp, setRow_heap w g cur _ 3 _ hg, ?_, by simpa using hroom, h3, ?_⟩, ⟨⟨rfl, rfl, rfl, by simp, fun k _ hk => setRow_other w g k _ fun e => hk (by simp [Value.ownBlock, e])⟩, fun g' e => .inl e⟩⟩
      · simp only [List.size_toArray, List.length_append, List.length_take, List.length_drop, Array.length_toList, hz1, List.length_singleton]
        omega
      · simp only [hz1, Nat.mul_one, List.length_singleton, List.length_append, List.map_append, List.map_cons, List.map_nil]
        have e1 : (cur.toList.take (off + tl.length)).drop off = tl.map iV := by
          rw [List.drop_take, ← h4]
          congr 1
          omega
        have hl1 : (cur.toList.take (off + tl.length)).length = off + tl.length := by
          have hcl : cur.toList.length = cur.size := by simp
          rw [List.length_take]; omega
        rw [List.append_assoc, List.drop_append_of_le_length (l₁ := cur.toList.take (off + tl.length)) (by rw [hl1]; omega), e1, List.cons_append, List.nil_append]
        rw [show tl.length + 1 = (tl.map iV).length + 1 by rw [List.length_map], List.take_length_add_append]
        rfl
    · have holds : ∀ j u, (tl.map iV)[j]? = some u → w.cell? ((⟨g, off, none⟩ : Addr).add j) = some u := fun j u hj => by
        rw [Addr.add_lit, cell_of_row _ _ _ _ _ _ hg]
        rw [← h4, List.getElem?_take] at hj
        split at hj
        · rw [List.getElem?_drop] at hj
          simpa using hj
        · cases hj
      have hr := run_append_grow (P := Try.prog) w 34 ty 3 i (.int .i64 0) Try.underlying34 hi hz0 ⟨g, off, none⟩ tl.length cap (tl.map iV) (by rw [hz1, List.length_map, Nat.mul_one]) holds a 1 c [.int .i64 x] (by rw [hz1]; rfl) hx (by omega) (by omega) (by rw [hz2]; exact growslice_fits_wide (by omega) (by omega))
      have hge := grownCap_ge w (tl.length + 1) cap 3
      refine ⟨_, _, hr, .inr ⟨w.heap.size, 0, _, _, by rw [List.length_append]; rfl, Go.heap_alloc_new w.drew _, ?_, by simpa using hge, grownCap_le_maxLen w _ cap 3 (by unfold maxLen; omega), ?_⟩, ⟨⟨rfl, rfl, rfl, by simp, fun k hk _ => Go.heap_alloc_old w.drew _ hk⟩, fun g' e => .inr ?_⟩⟩
      · simp only [Array.size_append, List.size_toArray, size_zeroCells, List.length_map, List.length_singleton]
        have : (Value.int .i64 0).cells.size = 1 := rfl
        rw [this]
        omega
      · simp only [Array.toList_append, List.drop_zero, List.map_append, List.map_cons, List.map_nil]
        rw [show (tl ++ [x]).length = (tl.map iV ++ [Value.int .i64 x]).length by simp]
        exact List.take_left
      · simp only [Value.ownBlock, Option.some.injEq] at e
        omega
end Go.Proofs.Ytijfnacplikibaa
