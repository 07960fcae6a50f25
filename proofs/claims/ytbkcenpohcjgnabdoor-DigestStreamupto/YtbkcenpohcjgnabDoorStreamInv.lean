import Derived.Test.YtbkcenpohcjgnabDoorStreamFn
import Derived.Test.YtbkcenpohcjgnabDoorSpoil2
import Derived.Test.YtbkcenpohcjgnabDoorApp2
namespace Go.Proofs.YtbkcenpohcjgnabDoor
open Go.RowKit
open Num
set_option linter.unusedVariables false
set_option linter.unusedSimpArgs false

def upd {α : Type} (f : Nat → α) (k : Nat) (x : α) : Nat → α := fun j => if j = k then x else f j
theorem upd_same {α : Type} (f : Nat → α) (k : Nat) (x : α) : upd f k x k = x := by simp [upd]
theorem upd_other {α : Type} (f : Nat → α) {k j : Nat} (x : α) (h : j ≠ k) : upd f k x j = f j := by simp [upd, h]

/-- the three Hashes (q: what they were given) and the three lists (c), B the first block of the call's own -/
structure SInv (w wr : World) (B : Nat) (q c : Nat → List Nat) (A : Nat → Value) : Prop where
  hp : wr.heap[B + 3]? = some (.cells #[.pointer (some ⟨B, 0, none⟩), .pointer (some ⟨B + 1, 0, none⟩), .pointer (some ⟨B + 2, 0, none⟩)] 24 (0, 0))
  ha : wr.heap[B + 4]? = some (.cells #[A 0, A 1, A 2] 22 (0, 0))
  hr : ∀ k, k < 3 → HRow wr (B + k) (q k) (q k).length (q k).length
  ho : ∀ k, k < 3 → Own wr (B + 5) (A k) (c k)
  ap : ∀ j k, j < 3 → k < 3 → j ≠ k → Apart (A j) (A k)
  hb : Below B w wr
  hz : B + 5 ≤ wr.heap.size

theorem own_form {w : World} {base : Nat} {v : Value} {l : List Nat} (h : Own w base v l) : ∃ a cap, v = .slice a l.length cap := by
  obtain ⟨a, cap, e, _⟩ := h.bsl
  exact ⟨a, cap, e⟩
theorem HRow.eqBlock {w w' : World} {g L C : Nat} {q : List Nat} (h : HRow w g q L C) (e : w'.heap[g]? = w.heap[g]?) : HRow w' g q L C := by
  obtain ⟨buf, h1, h2, h3, h4⟩ := h
  exact ⟨buf, h1, h2, h3, by rw [e]; exact h4⟩

theorem SInv.below {w wr wy : World} {B : Nat} {q c : Nat → List Nat} {A : Nat → Value} (h : SInv w wr B q c A) (hb : Below wr.heap.size wr wy) : SInv w wy B q c A :=
  ⟨heap_kept hb h.hp, heap_kept hb h.ha, fun k hk => (h.hr k hk).eqBlock (hb.block _ (h.hr k hk).lt), fun k hk => (h.ho k hk).kept hb, h.ap, h.hb.trans (hb.mono (Nat.le_trans (Nat.le_add_right B 5) h.hz)), Nat.le_trans h.hz hb.size⟩

theorem SInv.write {w wr wy : World} {B k : Nat} {q c : Nat → List Nat} {A : Nat → Value} {l : List Nat} (h : SInv w wr B q c A) (hk : k < 3) (hbut : But (B + k) wr wy) (hrow : HRow wy (B + k) l l.length l.length) : SInv w wy B (upd q k l) c A := by
  have hz := h.hz
  refine ⟨?_, ?_, ?_, ?_, h.ap, h.hb.trans (hbut.below (by omega) (by omega)), Nat.le_trans hz hbut.size⟩
  · rw [hbut.block _ (by omega) (by omega)]; exact h.hp
  · rw [hbut.block _ (by omega) (by omega)]; exact h.ha
  · intro j hj
    by_cases e : j = k
    · subst e; rw [upd_same]; exact hrow
    · rw [upd_other _ _ e]
      exact (h.hr j hj).eqBlock (hbut.block _ (by omega) (by omega))
  · intro j hj
    refine (h.ho j hj).keptIf fun g hg => ?_
    have := (h.ho j hj).1.lt g hg
    exact hbut.block _ this.2 (by omega)

theorem SInv.frame {w wx wy : World} {B go : Nat} {q c : Nat → List Nat} {A : Nat → Value} (h : SInv w wx B q c A) (hgo : ∀ k, k < 3 → (A k).ownBlock ≠ some go) (hgB : B + 5 ≤ go) (hoth : ∀ b, b ≠ go → wy.heap[b]? = wx.heap[b]?) (hbel : Below B wx wy) : SInv w wy B q c A := by
  refine ⟨?_, ?_, ?_, ?_, h.ap, h.hb.trans hbel, Nat.le_trans h.hz hbel.size⟩
  · rw [hoth _ (by omega)]; exact h.hp
  · rw [hoth _ (by omega)]; exact h.ha
  · intro k hk
    exact (h.hr k hk).eqBlock (hoth _ (by omega))
  · intro k hk
    refine (h.ho k hk).keptIf fun g hg => hoth g fun e => ?_
    subst e
    exact hgo k hk hg

theorem row_upd (A : Nat → Value) (v : Value) {k : Nat} (hk : k < 3) : (#[A 0, A 1, A 2] : Array Value).setIfInBounds k v = #[upd A k v 0, upd A k v 1, upd A k v 2] := by
  rcases (show k = 0 ∨ k = 1 ∨ k = 2 by omega) with rfl | rfl | rfl <;> simp [upd]

theorem SInv.put {w wx w' : World} {B k : Nat} {q c : Nat → List Nat} {A : Nat → Value} {v' : Value} {l' : List Nat} (h : SInv w wx B q c A) (hk : k < 3) (hbl : Below (B + 5) wx w') (hown : Own w' (B + 5) v' l')
    (hkeep : ∀ j, j < 3 → j ≠ k → Own w' (B + 5) (A j) (c j) ∧ Apart v' (A j)) : SInv w (w'.setCell ⟨B + 4, k, none⟩ v') B q (upd c k l') (upd A k v') := by
  have hz := h.hz
  have hkp : ∀ b, b < B + 5 → w'.heap[b]? = wx.heap[b]? := fun b hb => hbl.block b hb
  have hoth : ∀ b, b ≠ B + 4 → (w'.setCell ⟨B + 4, k, none⟩ v').heap[b]? = w'.heap[b]? := fun b hb => Go.heap_setCell_other _ _ _ _ (by show b ≠ B + 4; exact hb)
  have hob : ∀ v l, Own w' (B + 5) v l → Own (w'.setCell ⟨B + 4, k, none⟩ v') (B + 5) v l := fun v l ho => ho.keptIf fun g hg => hoth g (by have := (ho.1.lt g hg).1; omega)
  refine ⟨?_, ?_, ?_, ?_, ?_, ?_, ?_⟩
  · rw [hoth _ (by omega), hkp _ (by omega)]; exact h.hp
  · rw [← row_upd A v' hk]
    exact Go.heap_setCell_same w' (B + 4) k _ 22 _ (by rw [hkp _ (by omega)]; exact h.ha)
  · intro j hj
    exact (h.hr j hj).eqBlock (by rw [hoth _ (by omega), hkp _ (by omega)])
  · intro j hj
    by_cases e : j = k
    · subst e; rw [upd_same, upd_same]; exact hob _ _ hown
    · rw [upd_other _ _ e, upd_other _ _ e]; exact hob _ _ (hkeep j hj e).1
  · intro i j hi hj hne
    by_cases e : i = k
    · subst e
      rw [upd_same, upd_other _ _ (Ne.symm hne)]
      exact (hkeep j hj (Ne.symm hne)).2
    · by_cases e2 : j = k
      · subst e2
        rw [upd_same, upd_other _ _ hne]
        exact (hkeep i hi hne).2.symm
      · rw [upd_other _ _ e, upd_other _ _ e2]; exact h.ap i j hi hj hne
  · exact (h.hb.trans (hbl.mono (Nat.le_add_right B 5))).setCell (p := ⟨B + 4, k, none⟩) (Nat.le_add_right B 4) _
  · have := hbl.size; simp [World.setCell]; omega

theorem SInv.pcell {w wr : World} {B k : Nat} {q c : Nat → List Nat} {A : Nat → Value} (h : SInv w wr B q c A) (hk : k < 3) : wr.cell? ⟨B + 3, k, none⟩ = some (.pointer (some ⟨B + k, 0, none⟩)) := by
  rw [cell_of_row _ _ _ _ _ _ h.hp]
  rcases (show k = 0 ∨ k = 1 ∨ k = 2 by omega) with rfl | rfl | rfl <;> rfl
theorem SInv.acell {w wr : World} {B k : Nat} {q c : Nat → List Nat} {A : Nat → Value} (h : SInv w wr B q c A) (hk : k < 3) : wr.cell? ⟨B + 4, k, none⟩ = some (A k) := by
  rw [cell_of_row _ _ _ _ _ _ h.ha]
  rcases (show k = 0 ∨ k = 1 ∨ k = 2 by omega) with rfl | rfl | rfl <;> rfl
theorem SInv.afree {w wr : World} {B k : Nat} {q c : Nat → List Nat} {A : Nat → Value} (h : SInv w wr B q c A) : wr.frozen? ⟨B + 4, k, none⟩ = false := frozen_of_row _ _ _ _ 22 h.ha

/-- 'append(s, x...)' at a step of a region that draws its order -/
theorem step_app2 {ops : Array Oper} {o : Oper} {a : Act} {w : World} {K : Act → World → Prop} {Q : Exit → Act → World → Prop} {E : Prop} (hgd : o.guard = none) (s x : Operand)
    (ho : o.op = .call { callee := .builtin .append, args := #[s, x], argTypes := #[22, 22] })
    (base : Nat) (v vx : Value) (l0 l : List Nat) (hs : a.eval s = v) (hx : a.eval x = vx) (hown : Own w base v l0) (hb : BSl w vx l) (hlen : l0.length + l.length ≤ 140737488355328) (hbase : base ≤ w.heap.size)
    (h : ∀ v' w', Own w' base v' (l0 ++ l) → Below base w w' → base ≤ w'.heap.size → Keeps w w' v v' → (∀ ad u, w.cell? ad = some u → some ad.block ≠ v.ownBlock → w'.cell? ad = some u) → K (a.put o.dst v') w') :
    if Region.wanted o (yielded ops a.tmps) = true then Oper.wp Tryd.prog o a w K Q else E := by
  have hw : Region.wanted o (yielded ops a.tmps) = true := by simp [Region.wanted, hgd]
  rw [if_pos hw]
  obtain ⟨i0, hi, hz0, hz1, hz2⟩ := info_parts Tryd.info5
  have hb' := hb
  obtain ⟨ad, cap, rfl, hl, hm, hn, hbb, _⟩ := hb'
  cases ad with
  | none =>
    have hc : cap = 0 := hn rfl
    have hl0 : l = [] := List.eq_nil_of_length_eq_zero (by omega)
    subst hl0
    subst hc
    have hrun := run_append_owned_none (P := Tryd.prog) (w := w) base 22 o.type 5 i0 1 Tryd.underlying22 hi v l0.length _ hown.1
    unfold Oper.wp
    simp [execOp, ho, resolve, invoke, builtin, hs, hx, hrun, Result.andThen]
    exact h v w (by rw [List.append_nil]; exact hown) (Below.refl _ _) hbase (fun _ _ _ h1 h2 => ⟨h1, h2⟩) fun _ _ hu _ => hu
  | some ad =>
    obtain ⟨v', w1, hr, hown', hg, hiff, hat⟩ := run_append_own_at (P := Tryd.prog) w base 22 o.type 5 i0 (.int .u8 0) 1 1 Tryd.underlying22 hi hz0 hz1 hz2 rfl (by decide) v l0.length _ hown.1 ad l.length cap (l.map byteV) (by simp) hb.news (byteV_oneCell l) (by unfold maxLen; omega) (by omega) hbase
    unfold Oper.wp execOp
    simp only [ho, resolve, invoke, builtin, Sem.run_bind, Sem.run_pure, Result.andThen_ok, List.map_toArray, List.map_cons, List.map_nil, hs, hx, hr]
    refine h v' w1 ⟨by rw [List.length_append, List.map_append]; exact hown', fun y hy => (List.mem_append.1 hy).elim (hown.2 y) (hbb y)⟩ ((Below.refl _ _).grown hg hbase fun j hj => (hown.1.lt j hj).1) ?_ ?_ fun ad u hu hne => hg.cell hu hne
    · exact Nat.le_trans hbase ((Below.refl _ _).grown hg hbase fun j hj => (hown.1.lt j hj).1 : Below base w w1).size
    · intro base2 v2 l2 h2 hap
      refine ⟨⟨h2.1.kept hg ?_, h2.2⟩, ?_⟩
      · cases hv2 : v2.ownBlock with
        | none => exact .inl rfl
        | some g => exact .inr fun he => hap g he.symm hv2
      · intro g hg' hv2
        rcases hat with e | e
        · exact hap g (e ▸ hg') hv2
        · rw [e] at hg'
          have := (h2.1.lt g hv2).2
          simp only [Option.some.injEq] at hg'
          omega
end Go.Proofs.YtbkcenpohcjgnabDoor
