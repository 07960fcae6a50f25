import Derived.Test.YtlpmpicmpklaoacGreatERef6
namespace Go.Proofs.YtlpmpicmpklaoacGreat
open Go.RowKit Go.Maps
set_option linter.unusedVariables false
set_option linter.unusedSimpArgs false
set_option maxRecDepth 20000

def cntOf (its : List (Nat × Pc)) (i k : Nat) : Nat := ((its.take i).filter fun x => x.1 == k).length
theorem cnt_zero (its : List (Nat × Pc)) (k : Nat) : cntOf its 0 k = 0 := by simp [cntOf]
theorem cnt_succ (its : List (Nat × Pc)) {i : Nat} (h : i < its.length) (k : Nat) : cntOf its (i + 1) k = cntOf its i k + if its[i].1 = k then 1 else 0 := by
  unfold cntOf
  rw [filter_snoc _ its h, List.length_append]
  congr 1
  by_cases e : its[i].1 = k
  · simp [e]
  · simp [e]
theorem cnt_all (its : List (Nat × Pc)) (k : Nat) : cntOf its its.length k = (its.filter fun x => x.1 == k).length := by
  unfold cntOf
  rw [List.take_length]
theorem cnt_le (its : List (Nat × Pc)) (i k : Nat) : cntOf its i k ≤ i := by
  unfold cntOf
  have := List.length_filter_le (fun x : Nat × Pc => x.1 == k) (its.take i)
  simp only [List.length_take] at this
  omega
theorem filter_at {α : Type} (p : α → Bool) (xs : List α) {i : Nat} (h : i < xs.length) (hp : p xs[i] = true) : (xs.filter p)[((xs.take i).filter p).length]? = some xs[i] := by
  have e : xs = xs.take i ++ xs[i] :: xs.drop (i + 1) := by
    rw [List.getElem_cons_drop, List.take_append_drop]
  have e2 : xs.filter p = (xs.take i).filter p ++ xs[i] :: (xs.drop (i + 1)).filter p := by
    conv => lhs; rw [e]
    rw [List.filter_append, List.filter_cons, if_pos hp]
  rw [e2, List.getElem?_append_right (Nat.le_refl _), Nat.sub_self]
  rfl

/-- the first of each block's cached writes are laid down -/
structure Down (S : St) (R Q : RSt) (f : Nat → Nat) : Prop where
  same : Q = { R with med := Q.med, sp := Q.sp }
  view : ∀ k, (if Q.sp k then none else some (Q.med k).l) = if 0 < f k then some ((S.cache k).getD (f k - 1) []) else S.med k
theorem Down.start {S : St} {R : RSt} (h : Sim S R) {f : Nat → Nat} (hf : ∀ k, f k = 0) : Down S R R f := ⟨rfl, fun k => by rw [hf k, h.med k]; rfl⟩
theorem Down.lay {S : St} {R Q : RSt} {f g : Nat → Nat} (h : Down S R Q f) (hS : Sim S R) {i : Nat} (hi : i < R.items.length) (hg : ∀ k, g k = if k = R.items[i].1 then cntOf R.items i k + 1 else f k) :
    Down S R { Q with med := updF Q.med R.items[i].1 R.items[i].2, sp := updF Q.sp R.items[i].1 false } g := by
  refine ⟨by show _ = _; rw [h.same], fun k => ?_⟩
  show (if updF Q.sp R.items[i].1 false k then none else some (updF Q.med R.items[i].1 R.items[i].2 k).l) = _
  rw [hg k]
  by_cases e : k = R.items[i].1
  · rw [if_pos e, e, updF_same, updF_same]
    have h2 := filter_at (fun x : Nat × Pc => x.1 == R.items[i].1) R.items hi (by simp)
    rw [hS.cache, if_pos (Nat.succ_pos _), Nat.add_sub_cancel]
    unfold cntOf
    rw [List.getD, List.getElem?_map, h2]
    rfl
  · rw [if_neg e, updF_other _ _ e, updF_other _ _ e]
    exact h.view k
theorem Down.skip {S : St} {R Q : RSt} {f g : Nat → Nat} (h : Down S R Q f) (hg : ∀ k, g k = f k) : Down S R Q g := ⟨h.same, fun k => by rw [hg k]; exact h.view k⟩
theorem Down.done {S : St} {R Q : RSt} {f : Nat → Nat} (h : Down S R Q f) (hS : Sim S R) : Sim (S.allDown f) { Q with items := [] } := by
  have e := h.same
  refine ⟨?_, ?_, ?_, ?_, ?_, ?_, ?_, ?_, fun k => rfl, fun k => ?_⟩
  · show Q.nb = S.nb; rw [e]; exact hS.nb
  · show Q.sz = S.sz; rw [e]; exact hS.sz
  · show Q.on = _; rw [e]; exact hS.on
  · show Q.left = _; rw [e]; exact hS.left
  · show Q.rd = _; rw [e]; exact hS.rd
  · show Q.wr = _; rw [e]; exact hS.wr
  · show Q.th = _; rw [e]; exact hS.th
  · show Q.fl = _; rw [e]; exact hS.fl
  · show (if 0 < f k then some ((S.cache k).getD (f k - 1) []) else S.med k) = _
    exact (h.view k).symm

theorem RD.addFl {w : World} {L : RLay} {S : St} {wh : Int} (h : RD w L S wh) : RD (w.setCell ⟨L.p, 10, none⟩ (.int .i64 (wrap64 (S.fl + 1)))) L S.addFl wh ∧ Grow w (w.setCell ⟨L.p, 10, none⟩ (.int .i64 (wrap64 (S.fl + 1)))) L.U L.U ∧ (w.setCell ⟨L.p, 10, none⟩ (.int .i64 (wrap64 (S.fl + 1)))).heap.size = w.heap.size :=
  h.store 10 _ S.off S.fuse S.rd S.wr S.th (wrap64 (S.fl + 1)) wh h.fz (fun R h1 h2 h3 h4 h5 h6 h7 => by simp only [refRow, ← h1, ← h2, ← h3, ← h4, ← h5, ← h7]; rfl)
theorem RRep.empty {w : World} {L : RLay} {S : RSt} (h : RRep w L S) : RRep (w.setCell ⟨L.p, 4, none⟩ (.slice none 0 0)) { L with cv := .slice none 0 0 } { S with items := [] } ∧ Grow w (w.setCell ⟨L.p, 4, none⟩ (.slice none 0 0)) L.U L.U ∧ (w.setCell ⟨L.p, 4, none⟩ (.slice none 0 0)).heap.size = w.heap.size :=
  h.storeC (.slice none 0 0) [] (World.ownsRow_nil w 0 114 2) (by simp [Value.ownBlock]) (by simp)

/-- both stores of an item that is laid down -/
theorem RRep.layItem {w : World} {L : RLay} {R Q : RSt} (h : RRep w L Q) (same : Q = { R with med := Q.med, sp := Q.sp }) {i : Nat} (hi : i < R.items.length) :
    let b := R.items[i].1
    let v := sl R.items[i].2.g R.sz
    b < R.nb ∧ RRep (w.setCell ⟨L.mb, b, none⟩ v) L { Q with med := updF Q.med b R.items[i].2 } ∧ RRep ((w.setCell ⟨L.mb, b, none⟩ v).setCell ⟨L.sb, b, none⟩ (.bool false)) L { Q with med := updF Q.med b R.items[i].2, sp := updF Q.sp b false } ∧ Grow w ((w.setCell ⟨L.mb, b, none⟩ v).setCell ⟨L.sb, b, none⟩ (.bool false)) L.U L.U := by
  intro b v
  have e1 : Q.items = R.items := by rw [same]
  have e2 : Q.nb = R.nb := by rw [same]
  have e3 : Q.sz = R.sz := by rw [same]
  have hm : R.items[i] ∈ Q.items := by rw [e1]; exact List.getElem_mem hi
  obtain ⟨h1, h2⟩ := h.pi _ hm
  obtain ⟨a1, a2, a3⟩ := h.setMed h1 _ h2
  rw [e3] at a1 a2
  have h1' : R.items[i].1 < ({ Q with med := updF Q.med R.items[i].1 R.items[i].2 } : RSt).nb := h1
  have a1' : RRep (w.setCell ⟨L.mb, b, none⟩ v) L { Q with med := updF Q.med b R.items[i].2 } := by
    have := a1
    simpa [e3] using this
  obtain ⟨b1, b2, b3⟩ := a1'.setSp h1' false
  exact ⟨by rw [← e2]; exact h1, a1', b1, a2.trans b2⟩
end Go.Proofs.YtlpmpicmpklaoacGreat
