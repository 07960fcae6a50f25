import Derived.Test.YtophcdfaflehcaaDoorWNewL
namespace Go.Proofs.YtophcdfaflehcaaDoor
open Go.RowKit
set_option linter.unusedVariables false
set_option linter.unusedSimpArgs false
set_option maxRecDepth 20000

/-- a list of numbers at an offset of its block, which is its own up to the cap -/
def ORow (w : World) (v : Value) (l : List Int) : Prop :=
  (v = .slice none 0 0 ∧ l = []) ∨ ∃ g off cap cur, v = .slice (some ⟨g, off, none⟩) l.length cap ∧ w.heap[g]? = some (.cells cur 3 (0, 0)) ∧ off + cap ≤ cur.size ∧ l.length ≤ cap ∧ cap ≤ maxLen ∧ (cur.toList.drop off).take l.length = l.map iV
theorem ORow.kept {w w' : World} {v : Value} {l : List Int} (h : ORow w v l) (hk : ∀ g, v.ownBlock = some g → w'.heap[g]? = w.heap[g]?) : ORow w' v l := by
  rcases h with h | ⟨g, off, cap, cur, rfl, hg, h⟩
  · exact .inl h
  · exact .inr ⟨g, off, cap, cur, rfl, (hk g rfl).trans hg, h⟩
theorem ORow.ofI {w : World} {v : Value} {l : List Int} (h : IRow w v l) : ORow w v l := by
  have h' : w.ownsRow 0 3 1 v l.length (l.map iV) := h
  rcases h'.2 with ⟨rfl, e0⟩ | ⟨g, cap, cur, rfl, h1, hg, h2, h3, h4, h5⟩
  · exact .inl ⟨rfl, List.length_eq_zero_iff.1 e0⟩
  · exact .inr ⟨g, 0, cap, cur, rfl, hg, by omega, h2, h3, by simpa using h5⟩
theorem ORow.cells {w : World} {v : Value} {l : List Int} (h : ORow w v l) {g : Nat} (hg : v.ownBlock = some g) : ∃ cs, w.heap[g]? = some (.cells cs 3 (0, 0)) := by
  rcases h with ⟨rfl, _⟩ | ⟨g', off, cap, cur, rfl, hg', _⟩
  · simp [Value.ownBlock] at hg
  · simp only [Value.ownBlock, Option.some.injEq] at hg
    subst hg
    exact ⟨cur, hg'⟩
theorem ORow.lt {w : World} {v : Value} {l : List Int} (h : ORow w v l) {g : Nat} (hg : v.ownBlock = some g) : g < w.heap.size := by
  obtain ⟨cs, hc⟩ := h.cells hg
  exact (Array.getElem?_eq_some_iff.1 hc).1
theorem ORow.form {w : World} {v : Value} {l : List Int} (h : ORow w v l) : ∃ a c, v = .slice a l.length c := by
  rcases h with ⟨rfl, rfl⟩ | ⟨g, off, cap, cur, rfl, _⟩
  · exact ⟨_, _, rfl⟩
  · exact ⟨_, _, rfl⟩
/-- its first element, and the rest of it -/
theorem ORow.next {w : World} {v : Value} {x : Int} {r : List Int} (h : ORow w v (x :: r)) : ∃ g off cap, v = .slice (some ⟨g, off, none⟩) (r.length + 1) cap ∧ r.length + 1 ≤ cap ∧ cap ≤ maxLen ∧ w.cell? ⟨g, off, none⟩ = some (.int .i64 x) ∧ g < w.heap.size ∧
    (1 < cap → ORow w (.slice (some ⟨g, off + 1, none⟩) r.length (cap - 1)) r) ∧ (cap = 1 → ORow w (.slice (some ⟨g, off, none⟩) 0 0) r ∧ r.length = 0) := by
  rcases h with ⟨_, e⟩ | ⟨g, off, cap, cur, rfl, hg, h1, h2, h3, h4⟩
  · cases e
  · simp only [List.length_cons] at h2 h4 ⊢
    have e1 : ((cur.toList.drop off).take (r.length + 1))[0]? = some (.int .i64 x) := by rw [h4]; rfl
    rw [List.getElem?_take, if_pos (by omega), List.getElem?_drop] at e1
    refine ⟨g, off, cap, rfl, h2, h3, ?_, (Array.getElem?_eq_some_iff.1 hg).1, fun hc => ?_, fun hc => ?_⟩
    · rw [cell_of_row _ _ _ _ _ _ hg]
      simpa using e1
    · refine .inr ⟨g, off + 1, cap - 1, cur, rfl, hg, by omega, by omega, by omega, ?_⟩
      have := congrArg (List.drop 1) h4
      rw [List.drop_take, List.drop_drop] at this
      simpa using this
    · have hr : r.length = 0 := by omega
      have hr' := List.length_eq_zero_iff.1 hr
      subst hr'
      exact ⟨.inr ⟨g, off, 0, cur, rfl, hg, by omega, Nat.le_refl _, Nat.zero_le _, by simp⟩, rfl⟩
/-- a walker: its cell and its list -/
structure WR (w : World) (p : Nat) (v : Value) (l : List Int) : Prop where
  row : w.heap[p]? = some (.cells #[v] 62 (0, 0))
  list : ORow w v l
  len : l.length ≤ 1000000
theorem WR.ne {w : World} {p : Nat} {v : Value} {l : List Int} (h : WR w p v l) : v.ownBlock ≠ some p := fun e => by
  obtain ⟨cs, hc⟩ := h.list.cells e
  rw [h.row] at hc
  simp only [Option.some.injEq, Obj.cells.injEq] at hc
  exact absurd hc.2.1 (by decide)
theorem WR.kept {w w' : World} {p : Nat} {v : Value} {l : List Int} (h : WR w p v l) (hp : w'.heap[p]? = w.heap[p]?) (hk : ∀ g, v.ownBlock = some g → w'.heap[g]? = w.heap[g]?) : WR w' p v l := ⟨hp.trans h.row, h.list.kept hk, h.len⟩
theorem WR.lt {w : World} {p : Nat} {v : Value} {l : List Int} (h : WR w p v l) : p < w.heap.size := (Array.getElem?_eq_some_iff.1 h.row).1
theorem Chg.set {w : World} {p j : Nat} (v : Value) : Chg (fun b => b = p) w (w.setCell ⟨p, j, none⟩ v) :=
  ⟨rfl, rfl, rfl, by simp [World.setCell], fun b hb hne => Go.heap_setCell_other _ _ _ _ hne⟩
theorem WR.set {w : World} {p : Nat} {v v' : Value} {l l' : List Int} (h : WR w p v l) (hl : ORow w v' l') (hn : l'.length ≤ 1000000) : WR (w.setCell ⟨p, 0, none⟩ v') p v' l' := by
  have hne : v'.ownBlock ≠ some p := fun e => by
    obtain ⟨cs, hc⟩ := hl.cells e
    rw [h.row] at hc
    simp only [Option.some.injEq, Obj.cells.injEq] at hc
    exact absurd hc.2.1 (by decide)
  refine ⟨by rw [Go.heap_setCell_same _ _ 0 _ 62 _ h.row]; rfl, hl.kept fun g e => Go.heap_setCell_other _ _ _ _ (fun e2 => hne (by have e3 : g = p := e2; rw [← e3]; exact e)), hn⟩
section
variable {w : World} {p : Nat} {v : Value} {l : List Int}
theorem left_any (h : WR w p v l) : Calls Tryd.prog 11 #[.pointer (some ⟨p, 0, none⟩)] w fun e w' => e = .returned (.int .i64 (l.length : Int)) ∧ w' = w := by
  have c0 : w.cell? ⟨p, 0, none⟩ = some v := cell_of_row _ _ _ _ _ _ h.row
  obtain ⟨a, c, rfl⟩ := h.list.form
  clear h
  generalize l.length = n at *
  go_enter Tryd.func11, Tryd.ntmps11
  go_wp2_with fail
  go_ret
  exact ⟨rfl, rfl⟩
theorem next_none (h : WR w p v []) : Calls Tryd.prog 12 #[.pointer (some ⟨p, 0, none⟩)] w fun e w' => e = .returned (.tuple #[.int .i64 0, .int .i64 131]) ∧ w' = w := by
  have c0 : w.cell? ⟨p, 0, none⟩ = some v := cell_of_row _ _ _ _ _ _ h.row
  obtain ⟨a, c, rfl⟩ := h.list.form
  clear h
  go_enter Tryd.func12, Tryd.ntmps12
  go_wp2_with fail
  go_ret2
  exact ⟨rfl, rfl⟩
set_option maxHeartbeats 1000000 in
theorem next_some {x : Int} {r : List Int} (h : WR w p v (x :: r)) : Calls Tryd.prog 12 #[.pointer (some ⟨p, 0, none⟩)] w fun e w' => e = .returned (.tuple #[.int .i64 x, .int .i64 0]) ∧ (∃ v', WR w' p v' r ∧ v'.ownBlock = v.ownBlock) ∧ Chg (fun k => k = p) w w' := by
  have c0 : w.cell? ⟨p, 0, none⟩ = some v := cell_of_row _ _ _ _ _ _ h.row
  have f0 : w.frozen? ⟨p, 0, none⟩ = false := frozen_of_row _ _ _ _ _ h.row
  have hn : r.length ≤ 1000000 := by have := h.len; simp at this; omega
  obtain ⟨g, off, cap, rfl, q1, q2, c1, q3, q4, q5⟩ := h.list.next
  have HW := hide h
  clear h
  unfold maxLen at q2
  have hz : (((r.length + 1 : Nat) : Int) == 0) = false := by
    have : ¬ ((r.length + 1 : Nat) : Int) = 0 := by omega
    simpa using this
  have hi0 : 0 ≤ (0 : Int) ∧ (0 : Int) < ((r.length + 1 : Nat) : Int) := ⟨by omega, by omega⟩
  by_cases hc : cap = 1
  · obtain ⟨q6, q7⟩ := q5 hc
    have hr' := List.length_eq_zero_iff.1 q7
    subst hr'
    have HS := hide (HW.out.set q6 (by simp))
    clear q4 q5 q6 q7
    subst hc
    simp only [List.length_nil, Nat.zero_add] at *
    go_enter Tryd.func12, Tryd.ntmps12
    go_wp2_with fail
    go_ret2
    exact ⟨rfl, ⟨_, HS.out, rfl⟩, Chg.set _⟩
  · have hc1 : 1 < cap := by omega
    have HS := hide (HW.out.set (q4 hc1) hn)
    clear q4 q5
    obtain ⟨m, hm⟩ : ∃ m, m = r.length + 1 := ⟨_, rfl⟩
    rw [show r.length = m - 1 by omega] at HS
    rw [← hm] at c0 q1 hz HW hi0 ⊢
    have hm1 : 1 ≤ m := by omega
    clear hm
    have hm2 : (1 : Int) ≤ (m : Int) := by omega
    have hm3 : (m : Int) ≤ (cap : Int) := by omega
    have hne : ¬ cap = 1 := by omega
    go_enter Tryd.func12, Tryd.ntmps12
    go_wp2_with fail
    go_ret2
    exact ⟨rfl, ⟨_, HS.out, rfl⟩, Chg.set _⟩
end
end Go.Proofs.YtophcdfaflehcaaDoor
