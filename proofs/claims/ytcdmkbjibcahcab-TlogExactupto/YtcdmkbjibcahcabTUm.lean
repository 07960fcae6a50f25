import Derived.Test.YtcdmkbjibcahcabTAck
namespace Go.Proofs.Ytcdmkbjibcahcab
open Go.RowKit
set_option linter.unusedVariables false
set_option linter.unusedSimpArgs false
set_option maxRecDepth 20000

/-- the writes without an Ack, in order -/
def una (ls : Ls) : List En := (ls.filter fun x => !x.2).map Prod.fst
/-- their turns -/
def tnsL : Nat → Ls → List Int
  | _, [] => []
  | g, (x, b) :: r => if b then tnsL (g + 1) r else (g : Int) :: tnsL (g + 1) r
theorem mem_tns {g : Nat} {ls : Ls} {z : Int} : z ∈ tnsL g ls ↔ ∃ (i : Nat) (x : En), ls[i]? = some (x, false) ∧ z = ((g + i : Nat) : Int) := by
  induction ls generalizing g with
  | nil => simp [tnsL]
  | cons a r ih =>
    obtain ⟨x, b⟩ := a
    have key : (∃ (i : Nat) (y : En), r[i]? = some (y, false) ∧ z = ((g + 1 + i : Nat) : Int)) ↔ ∃ (i : Nat) (y : En), ((x, b) :: r)[i + 1]? = some (y, false) ∧ z = ((g + (i + 1) : Nat) : Int) := by
      constructor <;> rintro ⟨i, y, h1, h2⟩ <;> exact ⟨i, y, by simpa using h1, by rw [h2]; congr 1; omega⟩
    cases b with
    | true =>
      simp only [tnsL, if_true]
      rw [ih, key]
      constructor
      · rintro ⟨i, y, h⟩; exact ⟨i + 1, y, h⟩
      · rintro ⟨i, y, h1, h2⟩
        cases i with
        | zero => simp at h1
        | succ i => exact ⟨i, y, h1, h2⟩
    | false =>
      simp only [tnsL, Bool.false_eq_true, if_false, List.mem_cons]
      rw [ih, key]
      constructor
      · rintro (h | ⟨i, y, h⟩)
        · exact ⟨0, x, rfl, h⟩
        · exact ⟨i + 1, y, h⟩
      · rintro ⟨i, y, h1, h2⟩
        cases i with
        | zero => exact .inl h2
        | succ i => exact .inr ⟨i, y, h1, h2⟩
theorem tns_lt (g : Nat) (ls : Ls) : (tnsL g ls).Pairwise (· < ·) := by
  induction ls generalizing g with
  | nil => exact List.Pairwise.nil
  | cons a r ih =>
    obtain ⟨x, b⟩ := a
    cases b with
    | true => exact ih (g + 1)
    | false =>
      refine List.Pairwise.cons (fun z hz => ?_) (ih (g + 1))
      obtain ⟨i, y, h1, h2⟩ := mem_tns.1 hz
      omega
theorem tns_len (g : Nat) (ls : Ls) : (tnsL g ls).length = (una ls).length := by
  induction ls generalizing g with
  | nil => rfl
  | cons a r ih =>
    obtain ⟨x, b⟩ := a
    cases b with
    | true => simpa [tnsL, una] using ih (g + 1)
    | false => simpa [tnsL, una] using ih (g + 1)
theorem tns_at (g : Nat) (ls : Ls) (k : Nat) (h : k < (una ls).length) : ∃ i, i < ls.length ∧ (tnsL g ls).getD k 0 = ((g + i : Nat) : Int) ∧ (ls.map Prod.fst).getD i e0 = (una ls).getD k e0 := by
  induction ls generalizing g k with
  | nil => simp [una] at h
  | cons a r ih =>
    obtain ⟨x, b⟩ := a
    have step : ∀ k, k < (una r).length → ∃ i, i < (((x, b) :: r : Ls)).length ∧ (tnsL (g + 1) r).getD k 0 = ((g + i : Nat) : Int) ∧ (((x, b) :: r : Ls).map Prod.fst).getD i e0 = (una r).getD k e0 := by
      intro k hk
      obtain ⟨i, h1, h2, h3⟩ := ih (g + 1) k hk
      exact ⟨i + 1, by simp; omega, by rw [h2]; congr 1; omega, by simpa using h3⟩
    cases b with
    | true => exact step k (by simpa [una] using h)
    | false =>
      cases k with
      | zero => exact ⟨0, by simp, by simp [tnsL], by simp [una]⟩
      | succ k =>
        obtain ⟨i, h1, h2, h3⟩ := step k (by simpa [una] using h)
        refine ⟨i, h1, by simpa [tnsL] using h2, h3.trans ?_⟩
        simp [una]
theorem sort_tns {g : Nat} {ls : Ls} {T : List Int} (hd : T.Nodup) (hm : ∀ z, z ∈ T ↔ ∃ (i : Nat) (x : En), ls[i]? = some (x, false) ∧ z = ((g + i : Nat) : Int)) : T.mergeSort (fun x y => decide (x ≤ y)) = tnsL g ls := by
  have hn : (tnsL g ls).Nodup := (tns_lt g ls).imp fun h => Int.ne_of_lt h
  refine List.Perm.eq_of_pairwise (le := fun a b : Int => a ≤ b) (fun a b _ _ h1 h2 => Int.le_antisymm h1 h2) ?_ ((tns_lt g ls).imp fun h => Int.le_of_lt h) ?_
  · have := List.pairwise_mergeSort (le := fun x y : Int => decide (x ≤ y)) (fun a b c h1 h2 => by simp at *; omega) (fun a b => by simp; omega) T
    exact this.imp fun h => by simpa using h
  · refine (List.mergeSort_perm _ _).trans ((List.perm_ext_iff_of_nodup hd hn).2 fun z => ?_)
    rw [hm, mem_tns]
theorem una_le (ls : Ls) : (una ls).length ≤ ls.length := by
  unfold una; rw [List.length_map]; exact List.length_filter_le _ _
/-- the turns that have come, while the map is gone through -/
structure TI (gone : Nat) (ls : Ls) (left : Lit → Bool) (T : List Int) : Prop where
  nd : T.Nodup
  mem : ∀ z, z ∈ T ↔ ∃ (i : Nat) (x : En), ls[i]? = some (x, false) ∧ z = ((gone + i : Nat) : Int) ∧ left (kL x.1) = false
theorem sameKey_kL (a b : Int) : (kL a).sameKey (kL b) = decide (a = b) := by
  simp [kL, Lit.sameKey]
  try exact Bool.beq_eq_decide_eq _ _
theorem TI.start {gone : Nat} {ls : Ls} {D : DataW Unit} (h1 : ∀ (i : Nat) (x : En × Bool), ls[i]? = some x → Maps.has D (kL x.1.1) = true ∧ ∀ z, D.atKey (kL x.1.1) z = stD ((gone + i : Nat) : Int) x.2) : TI gone ls (Maps.has D) [] :=
  ⟨List.nodup_nil, fun z => ⟨fun h => by simp at h, fun ⟨i, x, hi, _, hl⟩ => by rw [(h1 i _ hi).1] at hl; cases hl⟩⟩
/-- the write that has come -/
theorem TI.find {gone : Nat} {ls : Ls} {D : DataW Unit} (h1 : ∀ (i : Nat) (x : En × Bool), ls[i]? = some x → Maps.has D (kL x.1.1) = true ∧ ∀ z, D.atKey (kL x.1.1) z = stD ((gone + i : Nat) : Int) x.2) (h2 : ∀ key, key ∉ ls.map (fun x => x.1.1) → Maps.has D (kL key) = false)
    {k t : Int} {a : Bool} (hh : Maps.has D (kL k) = true) (hat : ∀ z, D.atKey (kL k) z = stD t a) : ∃ (i : Nat) (x : En), ls[i]? = some (x, a) ∧ x.1 = k ∧ t = ((gone + i : Nat) : Int) := by
  have hm : k ∈ ls.map fun x => x.1.1 := Classical.byContradiction fun h => by rw [h2 k h] at hh; cases hh
  obtain ⟨i, hi⟩ := List.getElem?_of_mem hm
  rw [List.getElem?_map, Option.map_eq_some_iff] at hi
  obtain ⟨⟨x, b⟩, hx, e⟩ := hi
  have e' : x.1 = k := e
  have := (h1 i _ hx).2 (stD 0 false)
  simp only [e', hat] at this
  obtain ⟨e1, e2⟩ := stD_inj this
  subst e2
  exact ⟨i, x, hx, e', e1⟩
theorem TI.step {gone : Nat} {ls : Ls} {left : Lit → Bool} {T : List Int} (h : TI gone ls left T) (hd : (ids ls).Nodup) {i : Nat} {x : En} {a : Bool} (hx : ls[i]? = some (x, a)) (hl : left (kL x.1) = true) : TI gone ls (fun z => left z && !z.sameKey (kL x.1)) (if a then T else T ++ [((gone + i : Nat) : Int)]) := by
  have hj : ∀ (j : Nat) (y : En) (b : Bool), ls[j]? = some (y, b) → ((left (kL y.1) && !(kL y.1).sameKey (kL x.1)) = false ↔ (left (kL y.1) = false ∨ j = i)) := by
    intro j y b hy
    rw [sameKey_kL]
    by_cases e : y.1 = x.1
    · have : j = i := nodup_inj hd (by rw [← e]; exact ids_get hy) (ids_get hx)
      simp [e, this]
    · have : j ≠ i := fun e2 => by subst e2; rw [hx] at hy; simp at hy; exact e (by rw [hy.1])
      simp [e, this]
  cases a with
  | true =>
    refine ⟨h.nd, fun z => ?_⟩
    simp only [if_true]
    rw [h.mem]
    constructor
    · rintro ⟨j, y, h1, h2, h3⟩; exact ⟨j, y, h1, h2, (hj j y _ h1).2 (.inl h3)⟩
    · rintro ⟨j, y, h1, h2, h3⟩
      rcases (hj j y _ h1).1 h3 with q | q
      · exact ⟨j, y, h1, h2, q⟩
      · subst q; rw [hx] at h1; simp at h1
  | false =>
    simp only [Bool.false_eq_true, if_false]
    refine ⟨?_, fun z => ?_⟩
    · rw [List.nodup_append]
      refine ⟨h.nd, by simp, fun u hu v hv => ?_⟩
      simp only [List.mem_singleton] at hv
      subst hv
      intro e
      obtain ⟨j, y, h1, h2, h3⟩ := (h.mem u).1 hu
      have : j = i := by omega
      subst this
      rw [hx] at h1
      simp at h1
      rw [← h1, hl] at h3
      cases h3
    · rw [List.mem_append, h.mem, List.mem_singleton]
      constructor
      · rintro (⟨j, y, h1, h2, h3⟩ | e)
        · exact ⟨j, y, h1, h2, (hj j y _ h1).2 (.inl h3)⟩
        · exact ⟨i, x, hx, e, (hj i x _ hx).2 (.inr rfl)⟩
      · rintro ⟨j, y, h1, h2, h3⟩
        rcases (hj j y _ h1).1 h3 with q | q
        · exact .inl ⟨j, y, h1, h2, q⟩
        · subst q; exact .inr h2
theorem TI.len {gone : Nat} {ls : Ls} {left : Lit → Bool} {T : List Int} (h : TI gone ls left T) : T.length ≤ ls.length := by
  have hs : T ⊆ (List.range ls.length).map fun i => ((gone + i : Nat) : Int) := fun z hz => by
    obtain ⟨i, x, h1, h2, -⟩ := (h.mem z).1 hz
    exact List.mem_map.2 ⟨i, List.mem_range.2 (List.getElem?_eq_some_iff.1 h1).1, h2.symm⟩
  have := h.nd.length_le_of_subset hs
  simpa using this
theorem TI.done {gone : Nat} {ls : Ls} {left : Lit → Bool} {T : List Int} (h : TI gone ls left T) (hl : ∀ kl, left kl = false) : T.mergeSort (fun x y => decide (x ≤ y)) = tnsL gone ls :=
  sort_tns h.nd fun z => (h.mem z).trans ⟨fun ⟨i, x, h1, h2, _⟩ => ⟨i, x, h1, h2⟩, fun ⟨i, x, h1, h2⟩ => ⟨i, x, h1, h2, hl _⟩⟩
end Go.Proofs.Ytcdmkbjibcahcab
