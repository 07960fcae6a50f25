import Derived.Test.YtcdmkbjibcahcaaTUm
import Derived.Test.YtcdmkbjibcahcaaTAl
import Derived.Test.YtcdmkbjibcahcaaTFl0
namespace Go.Proofs.Ytcdmkbjibcahcaa
open Go.RowKit
set_option linter.unusedVariables false
set_option linter.unusedSimpArgs false
set_option maxRecDepth 20000

theorem una_append (l k : Ls) : una (l ++ k) = una l ++ una k := by simp [una]
theorem una_add (S : LS) (id blk : Int) : una (addS S id blk).ls = una S.ls ++ [(id, blk, (S.now : Int))] := by
  show una (S.ls ++ _) = _
  rw [una_append]
  rfl
theorem mem_una {ls : Ls} {y : En} : y ∈ una ls ↔ (y, false) ∈ ls := by
  simp [una]
theorem una_id {ls : Ls} (hd : (ids ls).Nodup) {i : Nat} {x y : En} {b : Bool} (hx : ls[i]? = some (x, b)) (hy : y ∈ una ls) (he : y.1 = x.1) : y = x ∧ b = false := by
  obtain ⟨j, hj⟩ := List.getElem?_of_mem (mem_una.1 hy)
  have e : j = i := nodup_inj hd (ids_get hj) (by show _ = some y.1; rw [he]; exact ids_get hx)
  subst e
  rw [hx] at hj
  simp at hj
  exact ⟨hj.1.symm, hj.2⟩
/-- the list without one id -/
def wo (l : List En) (z : Int) : List En := l.filter fun e => !(e.1 == z)
theorem wo_none {l : List En} {z : Int} (h : ∀ y ∈ l, y.1 ≠ z) : wo l z = l := List.filter_eq_self.2 fun y hy => by simpa using h y hy
theorem una_set {ls : Ls} (hd : (ids ls).Nodup) {i : Nat} {x : En} (hx : ls[i]? = some (x, false)) : una (ls.set i (x, true)) = wo (una ls) x.1 := by
  induction ls generalizing i with
  | nil => simp at hx
  | cons a r ih =>
    have hd2 := List.nodup_cons.1 (show (a.1.1 :: ids r).Nodup from hd)
    cases i with
    | zero =>
      simp at hx
      subst hx
      have : ∀ y ∈ una r, y.1 ≠ x.1 := fun y hy e => hd2.1 (by rw [← e]; exact List.mem_map.2 ⟨_, mem_una.1 hy, rfl⟩)
      rw [List.set_cons_zero]
      show una r = wo (x :: una r) x.1
      unfold wo
      rw [List.filter_cons_of_neg (by simp)]
      exact (wo_none this).symm
    | succ i =>
      rw [List.getElem?_cons_succ] at hx
      have ih2 := ih hd2.2 hx
      rw [List.set_cons_succ]
      obtain ⟨y, b⟩ := a
      cases b with
      | true => exact ih2
      | false =>
        have : y.1 ≠ x.1 := fun e => hd2.1 (by show y.1 ∈ ids r; rw [e]; exact ids_mem hx)
        show y :: una (r.set i (x, true)) = wo (y :: una r) x.1
        unfold wo
        rw [List.filter_cons_of_pos (by simpa using this), ih2]
        rfl
/-- what Ack does to the unacked -/
theorem ackR_una {S S' : LS} {id : Int} {x : En} {r : Int} (h : AckR S id S' x r) (hd : (ids S.ls).Nodup) : una S'.ls = wo (una S.ls) id ∧ (∀ y ∈ una S.ls, y.1 = id → r = 0 ∧ y = x) := by
  cases h with
  | no h =>
    have : ∀ y ∈ una S.ls, y.1 ≠ id := fun y hy e => h (by rw [← e]; exact List.mem_map.2 ⟨_, mem_una.1 hy, rfl⟩)
    exact ⟨(wo_none this).symm, fun y hy e => absurd e (this y hy)⟩
  | twice i x h hx =>
    have : ∀ y ∈ una S.ls, y.1 ≠ id := fun y hy e => by
      have := (una_id hd h hy (e.trans hx.symm)).2
      cases this
    exact ⟨(wo_none this).symm, fun y hy e => absurd e (this y hy)⟩
  | ok i x h hx =>
    subst hx
    exact ⟨una_set hd h, fun y hy e => ⟨rfl, (una_id hd h hy e).1⟩⟩
theorem hasB_mem (l : List En) (o : Int) : hasB l o = decide (o ∈ l.map Prod.fst) := by
  unfold hasB
  rw [Bool.eq_iff_iff]
  simp only [List.any_eq_true, beq_iff_eq, decide_eq_true_eq, List.mem_map]
theorem es_ids (S : LS) : S.es.map Prod.fst = ids S.ls := by simp [LS.es, ids]
/-- where no unacked write was found -/
theorem ackR_has {S S' : LS} {id : Int} {x : En} {r : Int} (h : AckR S id S' x r) (hn : ∀ y ∈ una S.ls, y.1 ≠ id) : (r = 102 ∧ hasB S.es id = true) ∨ (r = 103 ∧ hasB S.es id = false) := by
  rw [hasB_mem, es_ids]
  cases h with
  | no h => exact .inr ⟨rfl, by simpa using h⟩
  | twice i x h hx => exact .inl ⟨rfl, by rw [← hx]; simpa using ids_mem h⟩
  | ok i x h hx => exact absurd hx (hn x (mem_una.2 (List.mem_of_getElem? h)))
theorem Stp.after {n : Int} : ∀ {x : Int} {r : List Int}, Stp n (x :: r) → ∀ y ∈ r.dropWhile (· == x), y ≠ x
  | x, [], _, y, hy => by simp at hy
  | x, z :: r, h, y, hy => by
    by_cases e : z = x
    · subst e
      rw [List.dropWhile_cons_of_pos (by simp)] at hy
      exact Stp.after h.2 y hy
    · rw [List.dropWhile_cons_of_neg (by simpa using e)] at hy
      have h1 : z = x ∨ z = x + 1 := h.1
      have h2 := (Stp.le h.2 y hy).1
      have h3 : z ≤ y := h2
      omega
/-- the list without one epoch -/
def woE (l : List En) (z : Int) : List En := l.filter fun e => !(e.2.2 == z)
theorem una_drop (z : Int) : ∀ (l : Ls), (∀ y ∈ (l.map fun x => x.1.2.2).dropWhile (· == z), y ≠ z) → una (l.drop ((l.map Prod.fst).takeWhile fun x => x.2.2 == z).length) = woE (una l) z
  | [], _ => rfl
  | a :: r, h => by
    obtain ⟨x, b⟩ := a
    by_cases e : x.2.2 = z
    · have ih := una_drop z r (fun y hy => h y (by rw [List.map_cons, List.dropWhile_cons_of_pos (by simpa using e)]; exact hy))
      rw [List.map_cons, List.takeWhile_cons_of_pos (by simpa using e), List.length_cons, List.drop_succ_cons, ih]
      cases b with
      | true => rfl
      | false =>
        show _ = woE (x :: una r) z
        unfold woE
        rw [List.filter_cons_of_neg (by simpa using e)]
    · rw [List.map_cons, List.takeWhile_cons_of_neg (by simpa using e)]
      refine (List.filter_eq_self.2 fun y hy => ?_).symm
      rw [List.map_cons, List.dropWhile_cons_of_neg (by simpa using e)] at h
      have := h y.2.2 (by
        rw [← List.map_cons (f := fun x : En × Bool => x.1.2.2) (a := (x, b))]
        exact List.mem_map.2 ⟨_, mem_una.1 hy, rfl⟩)
      simpa using this
theorem una_leave {S : LS} (h : S.Ok) : una (leaveS S (frontN S)).ls = woE (una S.ls) (oldE S) := by
  show una (S.ls.drop (frontN S)) = _
  by_cases hn : S.es = []
  · have hl : S.ls = [] := by simpa [LS.es] using hn
    rw [hl]
    simp [una, woE]
  · have h0 : (S.es.getD 0 e0).2.2 = oldE S := (old_cons hn).symm
    unfold frontN
    rw [h0]
    refine una_drop (oldE S) S.ls ?_
    have hs := h.st
    have he : S.eps = S.ls.map fun x => x.1.2.2 := by simp [LS.eps, LS.es, List.map_map, Function.comp_def]
    rw [oldE_eq, ← he]
    cases hc : S.eps with
    | nil => intro y hy; simp at hy
    | cons x r =>
      rw [hc] at hs
      intro y hy
      rw [List.headD_cons, List.dropWhile_cons_of_pos (by simp)] at hy
      rw [List.headD_cons]
      exact Stp.after hs y hy
theorem una_close (S : LS) : una (closeS S).ls = una S.ls := by rw [closeS_ls]
theorem wo_take {l : List En} {z : Int} {k : Nat} (hk : k < l.length) : wo (l.take (k + 1)) z = wo (l.take k) z ++ (if (l.getD k e0).1 = z then [] else [l.getD k e0]) := by
  have e1 : l.take (k + 1) = l.take k ++ [l.getD k e0] := by
    rw [List.take_add_one]
    simp [List.getD, hk]
  rw [e1]
  unfold wo
  rw [List.filter_append]
  congr 1
  by_cases e : (l.getD k e0).1 = z
  · rw [if_pos e, List.filter_cons_of_neg (by simpa using e)]; rfl
  · rw [if_neg e, List.filter_cons_of_pos (by simpa using e)]; rfl
theorem woE_take {l : List En} {z : Int} {k : Nat} (hk : k < l.length) : woE (l.take (k + 1)) z = woE (l.take k) z ++ (if (l.getD k e0).2.2 = z then [] else [l.getD k e0]) := by
  have e1 : l.take (k + 1) = l.take k ++ [l.getD k e0] := by
    rw [List.take_add_one]
    simp [List.getD, hk]
  rw [e1]
  unfold woE
  rw [List.filter_append]
  congr 1
  by_cases e : (l.getD k e0).2.2 = z
  · rw [if_pos e, List.filter_cons_of_neg (by simpa using e)]; rfl
  · rw [if_neg e, List.filter_cons_of_pos (by simpa using e)]; rfl
theorem wo_len (l : List En) (z : Int) : (wo l z).length ≤ l.length := List.length_filter_le _ _
theorem woE_len (l : List En) (z : Int) : (woE l z).length ≤ l.length := List.length_filter_le _ _
end Go.Proofs.Ytcdmkbjibcahcaa
