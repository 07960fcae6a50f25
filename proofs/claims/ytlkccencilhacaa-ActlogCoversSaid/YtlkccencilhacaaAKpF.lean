import Derived.Test.YtlkccencilhacaaAKpM
import Derived.Test.YtlkccencilhacaaABook2
namespace Go.Proofs.Ytlkccencilhacaa
open Go.RowKit Go.Sort
set_option linter.unusedVariables false
set_option linter.unusedSimpArgs false
set_option maxRecDepth 20000

theorem findK_any {base : Nat} {w : World} {v : Value} {L : List Us} (h : BkR base w v L) (hl : L.length ≤ 2000) (key : Int) :
    Calls Try.prog 28 #[v, .int .i64 key] w fun e w' => ∃ r, e = .returned (.int .i64 r) ∧ w' = w ∧ FRes L key r := by
  have HAT : Hid (∀ i, i < L.length → ∃ g cap cs, v = .slice (some ⟨g, 0, none⟩) L.length cap ∧ base ≤ g ∧ w.heap[g]? = some (.cells cs 66 (0, 0)) ∧ w.cell? ⟨g, i * 4, none⟩ = some (.int .i64 (L.getD i ⟨0, 0, 0, 0⟩).key)) := hide fun i hi => by
    have hu : L[i]? = some (L.getD i ⟨0, 0, 0, 0⟩) := by simp [List.getD, hi]
    obtain ⟨g, cap, cs, q1, q2, q3, q4, -⟩ := h.at hu
    exact ⟨g, cap, cs, q1, q2, q3, q4⟩
  have HU : Hid (∀ i, i < L.length → L[i]? = some (L.getD i ⟨0, 0, 0, 0⟩)) := hide fun i hi => by simp [List.getD, hi]
  have HNO : Hid ((∀ i, i < L.length → (L.getD i ⟨0, 0, 0, 0⟩).key ≠ key) → ∀ u ∈ L, u.key ≠ key) := hide fun h u hu => by
    obtain ⟨i, hi⟩ := List.getElem?_of_mem hu
    have hil := (List.getElem?_eq_some_iff.1 hi).1
    have := h i hil
    have e : L.getD i ⟨0, 0, 0, 0⟩ = u := by simp [List.getD, hi]
    rwa [e] at this
  obtain ⟨a, cap, rfl, h1, h2⟩ := h.form
  unfold maxLen at h2
  clear h
  generalize hn : L.length = n at *
  clear hn
  go_enter Try.func28, Try.ntmps28
  go_wp2_with fail
  go_loopw [5] (fun x wr => ∃ i : Nat, i ≤ n ∧ x = .int .i64 (i : Int) ∧ wr = w ∧ ∀ j, j < i → (L.getD j ⟨0, 0, 0, 0⟩).key ≠ key) (fun x _ => n - (intOf x).toNat)
  case atStart => exact ⟨0, Nat.zero_le _, rfl, rfl, fun j hj => by omega⟩
  case round =>
    obtain ⟨i, hin, rfl, rfl, hno⟩ := hrel
    have HN := hide hno
    clear hno
    by_cases hlt : i < n
    · obtain ⟨g, cap', cs, e, -, -, hc⟩ := HAT.out i hlt
      simp only [Value.slice.injEq] at e
      obtain ⟨rfl, -, -⟩ := e
      have HUI := hide (HU.out i hlt)
      by_cases hk : (L.getD i ⟨0, 0, 0, 0⟩).key = key
      · have HFR : Hid (FRes L key (i : Int)) := hide (.inl ⟨i, _, HU.out i hlt, hk, rfl⟩)
        have b1 : ((L.getD i ⟨0, 0, 0, 0⟩).key == key) = true := by simpa using hk
        clear hk
        generalize (L.getD i ⟨0, 0, 0, 0⟩).key = kk at *
        have e2 : kk = key := by simpa using b1
        subst e2
        clear b1
        go_wp2_with fail
        go_ret
        exact ⟨_, rfl, rfl, HFR.out⟩
      · have HK := hide hk
        have b1 : ((L.getD i ⟨0, 0, 0, 0⟩).key == key) = false := by simpa using hk
        clear hk
        have HNX : Hid (∀ j, j < i + 1 → (L.getD j ⟨0, 0, 0, 0⟩).key ≠ key) := hide fun j hj => by
          by_cases e : j = i
          · subst e; exact HK.out
          · exact HN.out j (by omega)
        generalize (L.getD i ⟨0, 0, 0, 0⟩).key = kk at *
        go_wp2_with fail
        go_roundw
        case rel => exact ⟨i + 1, by omega, by go_num, trivial, HNX.out⟩
        case measure => simp [intOf]; omega
    · have ei : i = n := by omega
      subst ei
      go_wp2_with fail
      go_ret
      exact ⟨_, rfl, rfl, .inr ⟨HNO.out HN.out, rfl⟩⟩
theorem idleN_step {L : List Us} {i : Nat} (hi : i < L.length) : idleN (L.take (i + 1)) = idleN (L.take i) + if (ub L i).got = (ub L i).back then 1 else 0 := by
  unfold idleN
  rw [List.take_add_one, ub_of hi, List.filter_append, List.length_append]
  by_cases e : (ub L i).got = (ub L i).back
  · simp [e]
  · simp [e]
theorem idleN_le (L : List Us) (i : Nat) : idleN (L.take i) ≤ i := by
  unfold idleN
  have h1 := List.length_filter_le (fun u => u.got == u.back) (L.take i)
  have h2 : (L.take i).length ≤ i := by simp; omega
  omega
theorem rowCellA {w : World} {e : TypeId} {v : Value} {xs : List Value} (h : w.ownsRow 0 e 1 v xs.length xs) {j : Nat} {x : Value} (hj : xs[j]? = some x) : ∃ g cap, v = .slice (some ⟨g, 0, none⟩) xs.length cap ∧ w.cell? ⟨g, j, none⟩ = some x := by
  have hl : j < xs.length := (List.getElem?_eq_some_iff.1 hj).1
  have h' := h
  rcases h.2 with ⟨_, e⟩ | ⟨g, cap, cur, rfl, _, hg, _⟩
  · omega
  · exact ⟨g, cap, rfl, by rw [h'.cellAt j (by omega)]; exact hj⟩
/-- ints in memory -/
def IR (w : World) (v : Value) (T : List Int) : Prop := w.ownsRow 0 3 1 v T.length (T.map iV)
theorem IR.at {w : World} {v : Value} {T : List Int} (h : IR w v T) {i : Nat} (hi : i < T.length) : ∃ g cap, v = .slice (some ⟨g, 0, none⟩) T.length cap ∧ w.cell? ⟨g, i, none⟩ = some (.int .i64 (T.getD i 0)) := by
  have h' : w.ownsRow 0 3 1 v (T.map iV).length (T.map iV) := by rw [List.length_map]; exact h
  obtain ⟨g, cap, e, h1⟩ := rowCellA (x := .int .i64 (T.getD i 0)) (j := i) h' (by simp [List.getElem?_map, List.getD, hi, iV])
  exact ⟨g, cap, by rw [e, List.length_map], h1⟩
set_option maxHeartbeats 1000000 in
theorem has_any {w : World} {v : Value} {T : List Int} (h : IR w v T) (hl : T.length ≤ 2000) (x : Int) :
    Calls Try.prog 52 #[v, .int .i64 x] w fun e w' => e = .returned (.bool (decide (x ∈ T))) ∧ w' = w := by
  have HAT : Hid (∀ i, i < T.length → ∃ g cap, v = .slice (some ⟨g, 0, none⟩) T.length cap ∧ w.cell? ⟨g, i, none⟩ = some (.int .i64 (T.getD i 0))) := hide fun i hi => h.at hi
  have HYES : Hid (∀ i, i < T.length → T.getD i 0 = x → decide (x ∈ T) = true) := hide fun i hi e => decide_eq_true (by rw [← e]; simp [List.getD, hi])
  have HNO : Hid ((∀ i, i < T.length → T.getD i 0 ≠ x) → decide (x ∈ T) = false) := hide fun h => decide_eq_false fun e => by
    obtain ⟨i, hi⟩ := List.getElem?_of_mem e
    have hil := (List.getElem?_eq_some_iff.1 hi).1
    exact h i hil (by simp [List.getD, hi])
  obtain ⟨a, cap, rfl, h1, h2⟩ := rowForm h
  unfold maxLen at h2
  clear h
  generalize decide (x ∈ T) = R at *
  generalize hn : T.length = n at *
  clear hn
  go_enter Try.func52, Try.ntmps52
  go_wp2_with fail
  go_loopw [5] (fun y wr => ∃ (i : Nat), i ≤ n ∧ y = .int .i64 (i : Int) ∧ wr = w ∧ ∀ j, j < i → T.getD j 0 ≠ x) (fun y _ => n - (intOf y).toNat)
  case atStart => exact ⟨0, Nat.zero_le _, rfl, rfl, fun j hj => by omega⟩
  case round =>
    obtain ⟨i, hin, rfl, rfl, hno⟩ := hrel
    have HN := hide hno
    clear hno
    by_cases hlt : i < n
    · obtain ⟨g, cap', e, r1⟩ := HAT.out i hlt
      simp only [Value.slice.injEq] at e
      obtain ⟨rfl, -, -⟩ := e
      by_cases heq : T.getD i 0 = x
      · have hR := HYES.out i hlt heq
        subst hR
        have hb : (T.getD i 0 == x) = true := by simpa using heq
        clear heq
        generalize T.getD i 0 = z at *
        go_wp2_with fail
        go_ret
        exact ⟨rfl, rfl⟩
      · have hb : (T.getD i 0 == x) = false := by simpa using heq
        have HNX : Hid (∀ j, j < i + 1 → T.getD j 0 ≠ x) := hide fun j hj => by
          by_cases e : j = i
          · subst e; exact heq
          · exact HN.out j (by omega)
        clear heq
        generalize T.getD i 0 = z at *
        go_wp2_with fail
        go_roundw
        case rel => exact ⟨i + 1, by omega, by go_num, trivial, HNX.out⟩
        case measure => simp [intOf]; omega
    · have ei : i = n := by omega
      subst ei
      have hR := HNO.out HN.out
      subst hR
      go_wp2_with fail
      go_ret
      exact ⟨rfl, rfl⟩
end Go.Proofs.Ytlkccencilhacaa
