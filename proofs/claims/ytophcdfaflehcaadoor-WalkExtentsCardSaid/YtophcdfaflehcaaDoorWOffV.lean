import Derived.Test.YtophcdfaflehcaaDoorWLvM
namespace Go.Proofs.YtophcdfaflehcaaDoor
open Go.RowKit
set_option linter.unusedVariables false
set_option linter.unusedSimpArgs false
set_option maxRecDepth 20000

/-- a walker: its cell and its list -/
structure VR (w : World) (p : Nat) (v : Value) (l : List Int) : Prop where
  row : w.heap[p]? = some (.cells #[v] 69 (0, 0))
  list : ORow w v l
  len : l.length ≤ 1000000
theorem VR.ne {w : World} {p : Nat} {v : Value} {l : List Int} (h : VR w p v l) : v.ownBlock ≠ some p := fun e => by
  obtain ⟨cs, hc⟩ := h.list.cells e
  rw [h.row] at hc
  simp only [Option.some.injEq, Obj.cells.injEq] at hc
  exact absurd hc.2.1 (by decide)
theorem VR.kept {w w' : World} {p : Nat} {v : Value} {l : List Int} (h : VR w p v l) (hp : w'.heap[p]? = w.heap[p]?) (hk : ∀ g, v.ownBlock = some g → w'.heap[g]? = w.heap[g]?) : VR w' p v l := ⟨hp.trans h.row, h.list.kept hk, h.len⟩
theorem VR.lt {w : World} {p : Nat} {v : Value} {l : List Int} (h : VR w p v l) : p < w.heap.size := (Array.getElem?_eq_some_iff.1 h.row).1
theorem VR.set {w : World} {p : Nat} {v v' : Value} {l l' : List Int} (h : VR w p v l) (hl : ORow w v' l') (hn : l'.length ≤ 1000000) : VR (w.setCell ⟨p, 0, none⟩ v') p v' l' := by
  have hne : v'.ownBlock ≠ some p := fun e => by
    obtain ⟨cs, hc⟩ := hl.cells e
    rw [h.row] at hc
    simp only [Option.some.injEq, Obj.cells.injEq] at hc
    exact absurd hc.2.1 (by decide)
  refine ⟨by rw [Go.heap_setCell_same _ _ 0 _ 69 _ h.row]; rfl, hl.kept fun g e => Go.heap_setCell_other _ _ _ _ (fun e2 => hne (by have e3 : g = p := e2; rw [← e3]; exact e)), hn⟩
section
variable {w : World} {p : Nat} {v : Value} {l : List Int}
theorem rleft_any (h : VR w p v l) : Calls Tryd.prog 19 #[.pointer (some ⟨p, 0, none⟩)] w fun e w' => e = .returned (.int .i64 (l.length : Int)) ∧ w' = w := by
  have c0 : w.cell? ⟨p, 0, none⟩ = some v := cell_of_row _ _ _ _ _ _ h.row
  obtain ⟨a, c, rfl⟩ := h.list.form
  clear h
  generalize l.length = n at *
  go_enter Tryd.func19, Tryd.ntmps19
  go_wp2_with fail
  go_ret
  exact ⟨rfl, rfl⟩
theorem rnext_none (h : VR w p v []) : Calls Tryd.prog 18 #[.pointer (some ⟨p, 0, none⟩)] w fun e w' => e = .returned (.tuple #[.int .i64 0, .int .i64 131]) ∧ w' = w := by
  have c0 : w.cell? ⟨p, 0, none⟩ = some v := cell_of_row _ _ _ _ _ _ h.row
  obtain ⟨a, c, rfl⟩ := h.list.form
  clear h
  go_enter Tryd.func18, Tryd.ntmps18
  go_wp2_with fail
  go_ret2
  exact ⟨rfl, rfl⟩
set_option maxHeartbeats 1000000 in
theorem rnext_some {x : Int} {r : List Int} (h : VR w p v (x :: r)) : Calls Tryd.prog 18 #[.pointer (some ⟨p, 0, none⟩)] w fun e w' => e = .returned (.tuple #[.int .i64 x, .int .i64 0]) ∧ (∃ v', VR w' p v' r ∧ v'.ownBlock = v.ownBlock) ∧ Chg (fun k => k = p) w w' := by
  have c0 : w.cell? ⟨p, 0, none⟩ = some v := cell_of_row _ _ _ _ _ _ h.row
  have f0 : w.frozen? ⟨p, 0, none⟩ = false := frozen_of_row _ _ _ _ _ h.row
  have hn : r.length ≤ 1000000 := by have := h.len; simp at this; omega
  obtain ⟨g, off, cap, rfl, q1, q2, c1, q3, q4, q5⟩ := h.list.next
  have HW := hide h
  clear h
  unfold maxLen at q2
  have hz : (((r.length + 1 : Nat) : Int) == 0) = false := by
    have : ¬ ((r.length + 1 : Nat) : Int) = 0 := by omega
    simpa using this
  have hi0 : 0 ≤ (0 : Int) ∧ (0 : Int) < ((r.length + 1 : Nat) : Int) := ⟨by omega, by omega⟩
  by_cases hc : cap = 1
  · obtain ⟨q6, q7⟩ := q5 hc
    have hr' := List.length_eq_zero_iff.1 q7
    subst hr'
    have HS := hide (HW.out.set q6 (by simp))
    clear q4 q5 q6 q7
    subst hc
    simp only [List.length_nil, Nat.zero_add] at *
    go_enter Tryd.func18, Tryd.ntmps18
    go_wp2_with fail
    go_ret2
    exact ⟨rfl, ⟨_, HS.out, rfl⟩, Chg.set _⟩
  · have hc1 : 1 < cap := by omega
    have HS := hide (HW.out.set (q4 hc1) hn)
    clear q4 q5
    obtain ⟨m, hm⟩ : ∃ m, m = r.length + 1 := ⟨_, rfl⟩
    rw [show r.length = m - 1 by omega] at HS
    rw [← hm] at c0 q1 hz HW hi0 ⊢
    have hm1 : 1 ≤ m := by omega
    clear hm
    have hm2 : (1 : Int) ≤ (m : Int) := by omega
    have hm3 : (m : Int) ≤ (cap : Int) := by omega
    have hne : ¬ cap = 1 := by omega
    go_enter Tryd.func18, Tryd.ntmps18
    go_wp2_with fail
    go_ret2
    exact ⟨rfl, ⟨_, HS.out, rfl⟩, Chg.set _⟩
end
/-- a walk whose list lies nowhere in X -/
def VX (W : World) (X : Nat → Prop) (p : Nat) (l : List Int) : Prop := ∃ lv, VR W p lv l ∧ ∀ g, lv.ownBlock = some g → X g
theorem VX.kept {W W' : World} {X : Nat → Prop} {p : Nat} {l : List Int} (h : VX W X p l) (hk : ∀ b cs t, W.heap[b]? = some (.cells cs t (0, 0)) → (b = p ∨ t = 3 ∧ X b) → W'.heap[b]? = some (.cells cs t (0, 0))) : VX W' X p l := by
  obtain ⟨lv, h, hx⟩ := h
  refine ⟨lv, h.kept ((hk _ _ _ h.row (.inl rfl)).trans h.row.symm) fun g e => ?_, hx⟩
  obtain ⟨cs, hc⟩ := h.list.cells e
  rw [hk _ _ _ hc (.inr ⟨rfl, hx g e⟩), hc]
theorem VX.mono {W : World} {X Y : Nat → Prop} {p : Nat} {l : List Int} (h : VX W X p l) (hy : ∀ g, g < W.heap.size → X g → Y g) : VX W Y p l := by
  obtain ⟨lv, h, hx⟩ := h
  exact ⟨lv, h, fun g e => hy g (h.list.lt e) (hx g e)⟩
theorem VX.nextN {W : World} {X : Nat → Prop} {p : Nat} (h : VX W X p []) : Calls Tryd.prog 18 #[.pointer (some ⟨p, 0, none⟩)] W fun e w' => e = .returned (.tuple #[.int .i64 0, .int .i64 131]) ∧ w' = W := by
  obtain ⟨lv, h, _⟩ := h; exact rnext_none h
theorem VX.nextS {W : World} {X : Nat → Prop} {p : Nat} {x : Int} {r : List Int} (h : VX W X p (x :: r)) : Calls Tryd.prog 18 #[.pointer (some ⟨p, 0, none⟩)] W fun e w' => e = .returned (.tuple #[.int .i64 x, .int .i64 0]) ∧ VX w' X p r ∧ Chg (fun k => k = p) W w' := by
  obtain ⟨lv, h, hx⟩ := h
  exact (rnext_some h).mono fun e w' ⟨h1, ⟨v', h2, h3⟩, h4⟩ => ⟨h1, ⟨v', h2, fun g e => hx g (by rw [← h3]; exact e)⟩, h4⟩
theorem VX.left {W : World} {X : Nat → Prop} {p : Nat} {r : List Int} (h : VX W X p r) : Calls Tryd.prog 19 #[.pointer (some ⟨p, 0, none⟩)] W fun e w' => e = .returned (.int .i64 (r.length : Int)) ∧ w' = W := by
  obtain ⟨lv, h, _⟩ := h; exact rleft_any h
theorem VX.row {W : World} {X : Nat → Prop} {p : Nat} {l : List Int} (h : VX W X p l) : ∃ lv, W.heap[p]? = some (.cells #[lv] 69 (0, 0)) := by
  obtain ⟨lv, h, _⟩ := h; exact ⟨lv, h.row⟩
theorem VX.own {W W' : World} {row : Option Nat} {K : Nat} {X : Nat → Prop} {p : Nat} {l : List Int} (h : VX W X p l) (hg : W.grownBy W' row) (hr : ∀ r, row = some r → K ≤ r ∧ ∃ o : Obj, W.heap[r]? = some o ∧ o.isCells = false) : VX W' X p l :=
  h.kept fun b cs t hb _ => own_blk hb hg hr
theorem VX.on {W W' : World} {X : Nat → Prop} {p : Nat} {l : List Int} (h : VX W X p l) (hb : Below W.heap.size W W') : VX W' X p l :=
  h.kept fun b cs t h1 _ => (hb.block b (Array.getElem?_eq_some_iff.1 h1).1).trans h1
end Go.Proofs.YtophcdfaflehcaaDoor
