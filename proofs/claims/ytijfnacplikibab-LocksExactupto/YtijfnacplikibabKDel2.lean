import Derived.Test.YtijfnacplikibabKDel
namespace Go.Proofs.Ytijfnacplikibab
open Go.RowKit
set_option linter.unusedVariables false
set_option linter.unusedSimpArgs false
set_option maxRecDepth 20000

theorem delete_none (w : World) (v : Value) (l : List (Int × Int)) (i : Nat) (h : CRow w v l) (hi : i ≤ l.length) : Calls Try.prog 56 #[v, .int .i64 (i : Int), .int .i64 (i : Int)] w fun e w' => e = .returned v ∧ Below w.heap.size w w' := by
  obtain ⟨a, cap, rfl, h1, h2⟩ := rowForm h
  unfold maxLen at h2
  have hic : i ≤ cap := by omega
  generalize l.length = n at *
  clear h
  cases a with
  | none =>
    go_enter Try.func56, Try.ntmps56
    go_wp2_with fail
    all_goals (go_ret; exact ⟨rfl, Below.refl _ _⟩)
  | some a =>
    go_enter Try.func56, Try.ntmps56
    go_wp2_with fail
    all_goals (go_ret; exact ⟨rfl, Below.refl _ _⟩)
set_option maxHeartbeats 2000000 in
theorem delete_any (w : World) (v : Value) (l : List (Int × Int)) (i j : Nat) (h : CRow w v l) (hij : i < j) (hj : j ≤ l.length) : Calls Try.prog 56 #[v, .int .i64 (i : Int), .int .i64 (j : Int)] w fun e w' => ∃ v', e = .returned v' ∧ CRow w' v' (l.take i ++ l.drop j) ∧ Chg (fun b => v.ownBlock = some b) w w' ∧ v'.ownBlock = v.ownBlock := by
  obtain ⟨i0, hi0, hz0, hz1, hz2⟩ := infoCl
  obtain ⟨g, cap, rfl, hlt, -, -⟩ := CRow.cell h (j := 0) (c := l.getD 0 (0, 0)) (by simp [List.getD, show 0 < l.length by omega])
  obtain ⟨cur, hg, hcs, hnc, hcm, c1, hg1, hc1s, hrow, hchg⟩ := del_row h rfl hij hj
  have hH : ∀ t u, (cvs (l.drop j))[t]? = some u → w.cell? ⟨g, j * 2 + t, none⟩ = some u := fun t u hu => by
    have h' : w.ownsRow 0 75 2 (.slice (some ⟨g, 0, none⟩) l.length cap) l.length (cvs l) := h
    have ht : t < (l.length - j) * 2 := by
      have := (List.getElem?_eq_some_iff.1 hu).1
      rwa [cvs_length, List.length_drop] at this
    rw [h'.cellAt (j * 2 + t) (by omega), ← hu, ← cvs_drop, List.getElem?_drop]
  have hlen : (cvs (l.drop j)).length = (l.length - j) * 2 := by rw [cvs_length, List.length_drop]
  obtain ⟨A, hA, hsrc⟩ : ∃ A : Addr, (if cap = j then some (⟨g, 0, none⟩ : Addr) else some ⟨g, j * 2, none⟩) = some A ∧ Hid (∀ t u, (cvs (l.drop j))[t]? = some u → w.drew.cell? (A.add t) = some u) := by
    by_cases hcj : cap = j
    · refine ⟨⟨g, 0, none⟩, by simp [hcj], fun t u hu => ?_⟩
      have h0 : (cvs (l.drop j)).length = 0 := by rw [hlen]; omega
      rw [List.length_eq_zero_iff.1 h0] at hu
      simp at hu
    · refine ⟨⟨g, j * 2, none⟩, by simp [hcj], fun t u hu => ?_⟩
      rw [Addr.add_lit]
      exact hH t u hu
  have s2 : Hid (∀ u ∈ cvs (l.drop j), u.oneCell' = true) := fun u hu => by
    simp only [cvs, List.mem_flatMap, cV] at hu
    obtain ⟨c, _, hu⟩ := hu
    simp at hu
    rcases hu with rfl | rfl <;> rfl
  have s3 : Hid (∀ t, t < (cvs (l.drop j)).length → (w.drew.cell? ⟨g, 0 + i * 2 + t, none⟩).isSome = true ∧ w.drew.frozen? ⟨g, 0 + i * 2 + t, none⟩ = false) := fun t ht => by
    rw [hlen] at ht
    have hgd : w.drew.heap[g]? = some (.cells cur 75 (0, 0)) := hg
    refine ⟨?_, frozen_of_row _ _ _ _ 75 hgd⟩
    rw [cell_of_row _ _ _ _ _ _ hgd, Array.getElem?_eq_getElem (by omega)]
    rfl
  have s1 : Hid ((cvs (l.drop j)).length = (l.length - j) * 2) := hlen
  obtain ⟨W1, hW1⟩ : ∃ W1, W1 = w.drew.setCells g (i * 2) (cvs (l.drop j)) := ⟨_, rfl⟩
  rw [← hW1] at hg1 hrow hchg
  have hcl : ∀ ty, (Builtin.clear_ #[87] ty #[.slice (some ⟨g, (i + (l.length - j)) * 2, none⟩) (l.length - (i + (l.length - j))) (cap - (i + (l.length - j)))]).run Try.prog W1 = .ok (.tuple #[]) (W1.setCells g ((i + (l.length - j)) * 2) (zs2 (l.length - (i + (l.length - j))))) := fun ty => run_clear2 W1 ty g _ _ _ (by omega) c1 hg1 (by omega)
  rw [show j - i = l.length - (i + (l.length - j)) by omega] at hrow hchg
  have HR := hide hrow
  have HC := hide hchg
  have hW : Hid (W1 = w.drew.setCells g (0 + i * 2) (cvs (l.drop j))) := by rw [Nat.zero_add]; exact hW1
  have hic : i ≤ cap := by omega
  have hjc : j ≤ cap := by omega
  unfold maxLen at hcm
  generalize zs2 (l.length - (i + (l.length - j))) = Z at *
  generalize l.take i ++ l.drop j = L2 at *
  generalize cvs (l.drop j) = news at *
  generalize l.length = n at *
  clear hW1 hH hlen hrow hchg hg hg1 h
  go_enter Try.func56, Try.ntmps56
  go_wp2_with fail
  go_region_law (refine step_append_room rfl (.tmp 22) (.tmp 25) 87 rfl 75 i0 2 Try.underlying87 hi0 hz1 g 0 i cap (by simp [Act.eval, Act.put]) A (n - j) (cap - j) news (by simp [Act.eval, Act.put]) s1.out hsrc.out s2.out (by omega) s3.out ?_; rw [← hW.out])
  all_goals
    go_wp2_with fail
    go_ret
    exact ⟨_, rfl, HR.out, HC.out.mono fun b _ e => by rw [e]; rfl, rfl⟩
/-- the first i taken out -/
theorem delete_front (w : World) (v : Value) (l : List (Int × Int)) (i : Nat) (h : CRow w v l) (hi : i ≤ l.length) : Calls Try.prog 56 #[v, .int .i64 0, .int .i64 (i : Int)] w fun e w' => ∃ v', e = .returned v' ∧ CRow w' v' (l.drop i) ∧ Chg (fun b => v.ownBlock = some b) w w' ∧ v'.ownBlock = v.ownBlock := by
  by_cases h0 : i = 0
  · subst h0
    refine (delete_none w v l 0 h hi).mono ?_
    rintro e w' ⟨rfl, hb⟩
    exact ⟨v, rfl, by rw [List.drop_zero]; exact h.kept fun g hg => hb.block g (h.lt hg), Chg.ofBelow hb, rfl⟩
  · refine (delete_any w v l 0 i h (by omega) hi).mono ?_
    rintro e w' ⟨v', rfl, h1, h2, h3⟩
    exact ⟨v', rfl, by simpa using h1, h2, h3⟩
/-- the first i of a list -/
theorem CRow.cut {w : World} {a : Option Addr} {n cap i : Nat} {l : List (Int × Int)} (h : CRow w (.slice a n cap) l) (hi : i ≤ l.length) : CRow w (.slice a i cap) (l.take i) := by
  have h' : w.ownsRow 0 75 2 (.slice a n cap) l.length (cvs l) := h
  have hlt : (l.take i).length = i := by rw [List.length_take]; omega
  unfold CRow
  rw [hlt]
  refine ⟨by rw [cvs_length, hlt], ?_⟩
  rcases h'.2 with ⟨e, e0⟩ | ⟨g, cap', cur, e, h1, hg, h2, h3, h4, h5⟩
  · simp only [Value.slice.injEq] at e
    obtain ⟨rfl, -, rfl⟩ := e
    have : i = 0 := by omega
    subst this
    exact .inl ⟨rfl, rfl⟩
  · simp only [Value.slice.injEq] at e
    obtain ⟨rfl, -, rfl⟩ := e
    refine .inr ⟨g, cap, cur, rfl, h1, hg, by omega, h3, h4, ?_⟩
    rw [← cvs_take, ← h5, List.take_take]
    congr 1
    omega
end Go.Proofs.Ytijfnacplikibab
