import Derived.Test.YtlkccencilhacaaALk
namespace Go.Proofs.Ytlkccencilhacaa
open Go.RowKit Go.Sort
set_option linter.unusedVariables false
set_option linter.unusedSimpArgs false
set_option maxRecDepth 20000

def Us.cells (u : Us) : List Value := [.int .i64 u.key, .int .i64 (u.got : Int), .int .i64 (u.back : Int), .int .i64 (u.at_ : Int)]
def flat (L : List Us) : List Value := L.flatMap Us.cells
theorem flat_len : ∀ L : List Us, (flat L).length = L.length * 4
  | [] => rfl
  | u :: r => by
    have := flat_len r
    simp only [flat, List.flatMap_cons, List.length_append, List.length_cons] at *
    rw [this]
    simp [Us.cells]
    omega
theorem flat_get : ∀ {L : List Us} {i : Nat} {u : Us} (h : L[i]? = some u) {f : Nat} (hf : f < 4), (flat L)[i * 4 + f]? = u.cells[f]?
  | [], i, u, h, f, hf => by simp at h
  | a :: r, 0, u, h, f, hf => by
    have e : a = u := by simpa using h
    subst e
    simp only [flat, List.flatMap_cons]
    rw [List.getElem?_append_left (by simp [Us.cells]; omega)]
    simp
  | a :: r, i + 1, u, h, f, hf => by
    have hl : a.cells.length = 4 := rfl
    simp only [flat, List.flatMap_cons]
    rw [List.getElem?_append_right (by rw [hl]; omega), hl]
    have := flat_get (L := r) (i := i) (u := u) (by simpa using h) hf
    rw [← this]
    show (flat r)[_]? = _
    congr 1
    omega
theorem flat_set : ∀ {L : List Us} {i : Nat} {u u' : Us} (h : L[i]? = some u) {f : Nat} (hf : f < 4) {x : Value} (e : u'.cells = u.cells.set f x), (flat L).set (i * 4 + f) x = flat (L.set i u')
  | [], i, u, u', h, f, hf, x, e => by simp at h
  | a :: r, 0, u, u', h, f, hf, x, e => by
    have e2 : a = u := by simpa using h
    subst e2
    simp only [flat, List.flatMap_cons, List.set_cons_zero]
    rw [List.set_append_left _ _ (by simp [Us.cells]; omega), e]
    simp
  | a :: r, i + 1, u, u', h, f, hf, x, e => by
    have hl : a.cells.length = 4 := rfl
    have := flat_set (L := r) (i := i) (u := u) (u' := u') (by simpa using h) hf e
    simp only [flat, List.flatMap_cons, List.set_cons_succ] at *
    rw [List.set_append_right _ _ (by rw [hl]; omega), hl, ← this]
    congr 2
    omega
theorem flat_snoc (L : List Us) (u : Us) : flat (L ++ [u]) = flat L ++ u.cells := by simp [flat]
/-- the book in memory -/
def BkR (base : Nat) (w : World) (v : Value) (L : List Us) : Prop := w.ownsRow base 66 4 v L.length (flat L)
theorem BkR.kept {base : Nat} {w w' : World} {v : Value} {L : List Us} (h : BkR base w v L) (hk : ∀ g, v.ownBlock = some g → w'.heap[g]? = w.heap[g]?) : BkR base w' v L := rowKept h hk
theorem BkR.form {base : Nat} {w : World} {v : Value} {L : List Us} (h : BkR base w v L) : ∃ a cap, v = .slice a L.length cap ∧ L.length ≤ cap ∧ cap ≤ maxLen := rowForm h
theorem BkR.at {base : Nat} {w : World} {v : Value} {L : List Us} (h : BkR base w v L) {i : Nat} {u : Us} (hi : L[i]? = some u) : ∃ g cap cs, v = .slice (some ⟨g, 0, none⟩) L.length cap ∧ base ≤ g ∧ w.heap[g]? = some (.cells cs 66 (0, 0)) ∧ w.cell? ⟨g, i * 4, none⟩ = some (.int .i64 u.key) ∧ w.cell? ⟨g, i * 4 + 1, none⟩ = some (.int .i64 (u.got : Int)) ∧ w.cell? ⟨g, i * 4 + 2, none⟩ = some (.int .i64 (u.back : Int)) ∧ w.cell? ⟨g, i * 4 + 3, none⟩ = some (.int .i64 (u.at_ : Int)) := by
  have hil : i < L.length := (List.getElem?_eq_some_iff.1 hi).1
  rcases h.2 with ⟨_, e⟩ | ⟨g, cap, cur, rfl, hb, hg, h1, h2, h3, h4⟩
  · omega
  · have hc : ∀ f, f < 4 → w.cell? ⟨g, i * 4 + f, none⟩ = u.cells[f]? := fun f hf => by
      rw [cell_of_row _ _ _ _ _ _ hg, ← flat_get hi hf, ← h4, List.getElem?_take_of_lt (by omega), Array.getElem?_toList]
    exact ⟨g, cap, cur, rfl, hb, hg, hc 0 (by omega), hc 1 (by omega), hc 2 (by omega), hc 3 (by omega)⟩
theorem BkR.set {base : Nat} {w : World} {g cap : Nat} {L : List Us} (h : BkR base w (.slice (some ⟨g, 0, none⟩) L.length cap) L) {i f : Nat} {u u' : Us} (hi : L[i]? = some u) (hf : f < 4) {x : Value} (e : u'.cells = u.cells.set f x) : BkR base (w.setCell ⟨g, i * 4 + f, none⟩ x) (.slice (some ⟨g, 0, none⟩) L.length cap) (L.set i u') := by
  have hil : i < L.length := (List.getElem?_eq_some_iff.1 hi).1
  unfold BkR
  rw [List.length_set, ← flat_set hi hf e]
  refine ⟨by rw [List.length_set]; exact h.1, ?_⟩
  rcases h.2 with ⟨h0, _⟩ | ⟨g', cap', cur, e', h1, hg, h2, h3, h4, h5⟩
  · simp at h0
  · simp only [Value.slice.injEq, Option.some.injEq, Addr.mk.injEq] at e'
    obtain ⟨⟨rfl, -, -⟩, -, rfl⟩ := e'
    refine .inr ⟨g, cap, cur.setIfInBounds (i * 4 + f) x, rfl, h1, Go.heap_setCell_same w g (i * 4 + f) _ 66 _ hg, h2, h3, by simpa using h4, ?_⟩
    rw [← h5, Array.toList_setIfInBounds, List.take_set]
theorem cells_new4 (w : World) (a b c d : Value) (t : TypeId) : ∀ j u, [a, b, c, d][j]? = some u → (w.alloc (.cells #[a, b, c, d] t)).cell? ((⟨w.heap.size, 0, none⟩ : Addr).add j) = some u := fun j u h => by
  have := cell_of_row (w.alloc (.cells #[a, b, c, d] t)) w.heap.size j #[a, b, c, d] t (0, 0) (Go.heap_alloc_new _ _)
  rw [Addr.add_lit, Nat.zero_add, this]
  simpa using h
theorem info_use : (Try.prog.info? 66).map (fun i => (i.zero, i.size, i.bytes)) = some (some (.agg #[.int .i64 0, .int .i64 0, .int .i64 0, .int .i64 0]), 4, 32) := by kernel_rfl
def FRes (L : List Us) (key : Int) (r : Int) : Prop := (∃ (i : Nat) (u : Us), L[i]? = some u ∧ u.key = key ∧ r = (i : Int)) ∨ ((∀ u ∈ L, u.key ≠ key) ∧ r = -1)
theorem find_any {base : Nat} {w : World} {v : Value} {L : List Us} (h : BkR base w v L) (hl : L.length ≤ 17) (key : Int) :
    Calls Try.prog 28 #[v, .int .i64 key] w fun e w' => ∃ r, e = .returned (.int .i64 r) ∧ w' = w ∧ FRes L key r := by
  have HAT : Hid (∀ i, i < L.length → ∃ g cap cs, v = .slice (some ⟨g, 0, none⟩) L.length cap ∧ base ≤ g ∧ w.heap[g]? = some (.cells cs 66 (0, 0)) ∧ w.cell? ⟨g, i * 4, none⟩ = some (.int .i64 (L.getD i ⟨0, 0, 0, 0⟩).key)) := hide fun i hi => by
    have hu : L[i]? = some (L.getD i ⟨0, 0, 0, 0⟩) := by simp [List.getD, hi]
    obtain ⟨g, cap, cs, q1, q2, q3, q4, -⟩ := h.at hu
    exact ⟨g, cap, cs, q1, q2, q3, q4⟩
  have HU : Hid (∀ i, i < L.length → L[i]? = some (L.getD i ⟨0, 0, 0, 0⟩)) := hide fun i hi => by simp [List.getD, hi]
  have HNO : Hid ((∀ i, i < L.length → (L.getD i ⟨0, 0, 0, 0⟩).key ≠ key) → ∀ u ∈ L, u.key ≠ key) := hide fun h u hu => by
    obtain ⟨i, hi⟩ := List.getElem?_of_mem hu
    have hil := (List.getElem?_eq_some_iff.1 hi).1
    have := h i hil
    have e : L.getD i ⟨0, 0, 0, 0⟩ = u := by simp [List.getD, hi]
    rwa [e] at this
  obtain ⟨a, cap, rfl, h1, h2⟩ := h.form
  unfold maxLen at h2
  clear h
  generalize hn : L.length = n at *
  clear hn
  go_enter Try.func28, Try.ntmps28
  go_wp2_with fail
  go_loopw [5] (fun x wr => ∃ i : Nat, i ≤ n ∧ x = .int .i64 (i : Int) ∧ wr = w ∧ ∀ j, j < i → (L.getD j ⟨0, 0, 0, 0⟩).key ≠ key) (fun x _ => n - (intOf x).toNat)
  case atStart => exact ⟨0, Nat.zero_le _, rfl, rfl, fun j hj => by omega⟩
  case round =>
    obtain ⟨i, hin, rfl, rfl, hno⟩ := hrel
    have HN := hide hno
    clear hno
    by_cases hlt : i < n
    · obtain ⟨g, cap', cs, e, -, -, hc⟩ := HAT.out i hlt
      simp only [Value.slice.injEq] at e
      obtain ⟨rfl, -, -⟩ := e
      have HUI := hide (HU.out i hlt)
      by_cases hk : (L.getD i ⟨0, 0, 0, 0⟩).key = key
      · have HFR : Hid (FRes L key (i : Int)) := hide (.inl ⟨i, _, HU.out i hlt, hk, rfl⟩)
        have b1 : ((L.getD i ⟨0, 0, 0, 0⟩).key == key) = true := by simpa using hk
        clear hk
        generalize (L.getD i ⟨0, 0, 0, 0⟩).key = kk at *
        have e2 : kk = key := by simpa using b1
        subst e2
        clear b1
        go_wp2_with fail
        go_ret
        exact ⟨_, rfl, rfl, HFR.out⟩
      · have HK := hide hk
        have b1 : ((L.getD i ⟨0, 0, 0, 0⟩).key == key) = false := by simpa using hk
        clear hk
        have HNX : Hid (∀ j, j < i + 1 → (L.getD j ⟨0, 0, 0, 0⟩).key ≠ key) := hide fun j hj => by
          by_cases e : j = i
          · subst e; exact HK.out
          · exact HN.out j (by omega)
        generalize (L.getD i ⟨0, 0, 0, 0⟩).key = kk at *
        go_wp2_with fail
        go_roundw
        case rel => exact ⟨i + 1, by omega, by go_num, trivial, HNX.out⟩
        case measure => simp [intOf]; omega
    · have ei : i = n := by omega
      subst ei
      go_wp2_with fail
      go_ret
      exact ⟨_, rfl, rfl, .inr ⟨HNO.out HN.out, rfl⟩⟩
end Go.Proofs.Ytlkccencilhacaa
