import Derived.Test.YthkkinmegileaaaPLru0
namespace Go.Proofs.Ythkkinmegileaaa.Sp
open Go.RowKit Go.Sort
set_option linter.unusedVariables false
set_option linter.unusedSimpArgs false
set_option maxRecDepth 20000

/-- the map of the keys to their slots -/
def MP (w : World) (bm : Nat) (ks : List Int) : Prop :=
  ∃ D : DataW Unit, w.ownsMap Try.prog 34 (plainElem Try.prog 3) bm 16 D ∧ Maps.size D = ks.length ∧
    (∀ (i : Nat) (key : Int), ks[i]? = some key → Maps.has D (kL key) = true ∧ ∀ z, D.atKey (kL key) z = .lit (.int .i64 (i : Int))) ∧ ∀ key, key ∉ ks → Maps.has D (kL key) = false
theorem MP.kept {w w' : World} {bm : Nat} {ks : List Int} (h : MP w bm ks) (hk : w'.heap[bm]? = w.heap[bm]?) : MP w' bm ks := by
  obtain ⟨D, ⟨es, clock, hb, r⟩, h2⟩ := h
  exact ⟨D, ⟨es, clock, hk.trans hb, r⟩, h2⟩
theorem MP.lt {w : World} {bm : Nat} {ks : List Int} (h : MP w bm ks) : bm < w.heap.size := by
  obtain ⟨D, h, -⟩ := h
  exact h.lt
theorem MP.neCells {w : World} {bm g : Nat} {ks : List Int} {cs : Array Value} {t : TypeId} (h : MP w bm ks) (hg : w.heap[g]? = some (.cells cs t (0, 0))) : g ≠ bm := fun e => by
  obtain ⟨D, ⟨es, clock, hb, r⟩, h2⟩ := h
  rw [e, hb] at hg
  cases hg
theorem MP.new (w : World) : MP (w.alloc (.map #[] 0)) w.heap.size [] :=
  ⟨.map [], (World.ownsMap_made w _ _ _).mono (by omega), rfl, fun i key h => by simp at h, fun key _ => rfl⟩
/-- a key more -/
theorem MP.put {w w' : World} {bm : Nat} {ks : List Int} {D : DataW Unit} {key : Int} (hs : Maps.size D = ks.length) (h1 : ∀ (i : Nat) (key : Int), ks[i]? = some key → Maps.has D (kL key) = true ∧ ∀ z, D.atKey (kL key) z = .lit (.int .i64 (i : Int))) (h2 : ∀ key, key ∉ ks → Maps.has D (kL key) = false)
    (hT : Maps.Tidy D) (hn : key ∉ ks) (hl : ks.length < 16) (ho : w'.ownsMap Try.prog 34 (plainElem Try.prog 3) bm 17 (D.put (kL key) (.lit (.int .i64 (ks.length : Int))))) : MP w' bm (ks ++ [key]) := by
  have hsz : Maps.size (D.put (kL key) (.lit (.int .i64 (ks.length : Int)))) = ks.length + 1 := by
    rw [Maps.size_put hT, h2 key hn, if_neg (by simp), hs]
  refine ⟨_, ownsMap_tight ho (by omega), by rw [hsz]; simp, fun i k hk => ?_, fun k hk => ?_⟩
  · by_cases hi : i < ks.length
    · rw [List.getElem?_append_left hi] at hk
      have hne : k ≠ key := fun e => hn (e ▸ List.mem_of_getElem? hk)
      rw [Maps.has_put_other (kL_ne hne)]
      exact ⟨(h1 i k hk).1, fun z => by rw [Maps.atKey_put_other (kL_ne hne)]; exact (h1 i k hk).2 z⟩
    · rw [List.getElem?_append_right (by omega)] at hk
      by_cases hc : i - ks.length = 0
      · rw [hc] at hk
        have e : key = k := by simpa using hk
        subst e
        have ei : i = ks.length := by omega
        subst ei
        exact ⟨Maps.has_put_same hT.isMap (isKeyLit _) _, fun z => Maps.atKey_put_same hT.isMap (isKeyLit _) _ z⟩
      · rw [List.getElem?_eq_none (by simp; omega)] at hk
        cases hk
  · rw [List.mem_append, not_or] at hk
    have hne : k ≠ key := fun e => hk.2 (by simp [e])
    rw [Maps.has_put_other (kL_ne hne)]
    exact h2 k hk.1
/-- a key for another -/
theorem MP.swap {w' : World} {bm s : Nat} {ks : List Int} {D : DataW Unit} {key old : Int} (hs : Maps.size D = ks.length) (h1 : ∀ (i : Nat) (key : Int), ks[i]? = some key → Maps.has D (kL key) = true ∧ ∀ z, D.atKey (kL key) z = .lit (.int .i64 (i : Int))) (h2 : ∀ key, key ∉ ks → Maps.has D (kL key) = false)
    (hT : Maps.Tidy D) (hd : ks.Nodup) (hn : key ∉ ks) (ho : ks[s]? = some old) (hl : ks.length ≤ 16) (hm : w'.ownsMap Try.prog 34 (plainElem Try.prog 3) bm 17 ((D.del (kL old)).put (kL key) (.lit (.int .i64 (s : Int))))) : MP w' bm (ks.set s key) := by
  have hsl : s < ks.length := (List.getElem?_eq_some_iff.1 ho).1
  have hTd := hT.del (kL old)
  have hko : key ≠ old := fun e => hn (e ▸ List.mem_of_getElem? ho)
  have hh : Maps.has (D.del (kL old)) (kL key) = false := by rw [Maps.has_del_other (kL_ne hko)]; exact h2 key hn
  have hsd := Maps.size_del (k := kL old) hT
  rw [(h1 s old ho).1, if_pos rfl] at hsd
  have hsz : Maps.size ((D.del (kL old)).put (kL key) (.lit (.int .i64 (s : Int)))) = ks.length := by
    rw [Maps.size_put hTd, hh, if_neg (by simp)]; omega
  refine ⟨_, ownsMap_tight hm (by omega), by rw [hsz]; simp, fun i k hk => ?_, fun k hk => ?_⟩
  · by_cases hi : i = s
    · subst hi
      rw [List.getElem?_set_self hsl] at hk
      have e : key = k := by simpa using hk
      subst e
      exact ⟨Maps.has_put_same hTd.isMap (isKeyLit _) _, fun z => Maps.atKey_put_same hTd.isMap (isKeyLit _) _ z⟩
    · rw [List.getElem?_set_ne (fun e => hi e.symm)] at hk
      have hne : k ≠ key := fun e => hn (e ▸ List.mem_of_getElem? hk)
      have hno : k ≠ old := fun e => by
        rw [e] at hk
        exact hi (nodup_inj hd hk ho)
      rw [Maps.has_put_other (kL_ne hne), Maps.has_del_other (kL_ne hno)]
      exact ⟨(h1 i k hk).1, fun z => by rw [Maps.atKey_put_other (kL_ne hne), Maps.atKey_del_other (kL_ne hno)]; exact (h1 i k hk).2 z⟩
  · have hne : k ≠ key := fun e => hk (by rw [e]; exact List.mem_of_getElem? (i := s) (by rw [List.getElem?_set_self hsl]))
    rw [Maps.has_put_other (kL_ne hne)]
    by_cases hno : k = old
    · rw [hno]; exact Maps.has_del_same
    · rw [Maps.has_del_other (kL_ne hno)]
      refine h2 k fun hm => hk ?_
      obtain ⟨j, hj⟩ := List.getElem?_of_mem hm
      have hjs : j ≠ s := fun e => hno (by rw [e, ho] at hj; simpa using hj.symm)
      exact List.mem_of_getElem? (i := j) (by rw [List.getElem?_set_ne (fun e => hjs e.symm)]; exact hj)
end Go.Proofs.Ythkkinmegileaaa.Sp
