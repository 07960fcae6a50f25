import Derived.Test.YtlkccencilhacaaABase
import Derived.Orders
namespace Go.Proofs.Ytlkccencilhacaa
open Go.RowKit
set_option linter.unusedVariables false

variable {P : Program} {ops : Array Oper} {Q : Exit → Act → World → Prop} {md : Region.Mode}
/-- how many operations have not come up -/
def unl (listed : Array Bool) : Nat := (listed.toList.filter (! ·)).length
theorem filter_set_len : ∀ (l : List Bool) (i : Nat), l[i]? = some false → ((l.set i true).filter (! ·)).length + 1 = (l.filter (! ·)).length
  | [], i, h => by simp at h
  | b :: l, 0, h => by simp at h; simp [h]
  | b :: l, i + 1, h => by
    have ih := filter_set_len l i (by simpa using h)
    cases b <;> simp at ih ⊢ <;> omega
theorem unl_set {listed : Array Bool} {i : Nat} (h : listed[i]? = some false) : unl (listed.setIfInBounds i true) + 1 = unl listed := by
  unfold unl
  rw [Array.toList_setIfInBounds]
  exact filter_set_len _ _ (by simpa using h)
theorem unl_none {listed : Array Bool} {i : Nat} (h : listed[i]? = some false) : 0 < unl listed := by
  have := unl_set h
  omega
/-- a region in whatever order, by what stands when these have come up -/
theorem wpAny_inv (Inv : Array Bool → Act → World → Prop)
    (step : ∀ listed a w i, listed.size = ops.size → Inv listed a w → i ∈ Region.ready md ops listed → wpOp P ops Q i (fun a' w' => Inv (listed.setIfInBounds i true) a' w') a w)
    (done : ∀ listed a w, listed.size = ops.size → Inv listed a w → Region.ready md ops listed = [] → Q .normal a w) :
    ∀ (fuel : Nat) (listed : Array Bool) (a : Act) (w : World), listed.size = ops.size → unl listed ≤ fuel → Inv listed a w → wpAny P md ops Q fuel listed a w := by
  have hready : ∀ (listed : Array Bool) i, listed.size = ops.size → i ∈ Region.ready md ops listed → listed[i]? = some false := by
    intro listed i hs hi
    obtain ⟨h, o, ho, -⟩ := mem_ready.1 hi
    have hlt : i < listed.size := by rw [hs]; exact (Array.getElem?_eq_some_iff.1 ho).1
    simp only [Array.getD, hlt, dite_true] at h
    rw [Array.getElem?_eq_getElem hlt]
    simpa using h
  intro fuel
  induction fuel with
  | zero =>
    intro listed a w hs hu hI
    have : Region.ready md ops listed = [] := List.eq_nil_iff_forall_not_mem.2 fun i hi => by
      have := unl_none (hready listed i hs hi)
      omega
    exact ⟨this, done listed a w hs hI this⟩
  | succ fuel ih =>
    intro listed a w hs hu hI
    refine ⟨fun h => done listed a w hs hI h, fun i hi => ?_⟩
    have h1 := unl_set (hready listed i hs hi)
    exact wpOp_mono (fun a' w' h => ih _ a' w' (by simpa using hs) (by omega) h) (step listed a w i hs hI hi)
theorem unl_rep : ∀ n : Nat, unl (Array.replicate n false) = n := by
  intro n
  simp [unl]
theorem wp_region_inv {id : Nat} {a : Act} {w : World} (hm : P.follows .mixedOrders = true) (Inv : Array Bool → Act → World → Prop)
    (start : Inv (Array.replicate ops.size false) a { w with drawn := w.drawn + 1 })
    (step : ∀ listed a w i, listed.size = ops.size → Inv listed a w → i ∈ Region.ready .any ops listed → wpOp P ops Q i (fun a' w' => Inv (listed.setIfInBounds i true) a' w') a w)
    (done : ∀ listed a w, listed.size = ops.size → Inv listed a w → Region.ready .any ops listed = [] → Q .normal a w) : (Code.region id ops true).wp P Q a w :=
  wp_region_any hm (wpAny_inv Inv step done _ _ _ _ (by simp) (by rw [unl_rep]; exact Nat.le_refl _) start)
/-- where an operation lays its value -/
def dsti (o : Oper) : Nat := o.dst.getD 0
/-- a frame that differs from a0 in the temporaries of the region's first n operations alone -/
structure LowT (n : Nat) (ops : Array Oper) (a0 a : Act) : Prop where
  defers : a.defers = a0.defers
  size : a.tmps.size = a0.tmps.size
  same : ∀ t : Nat, (∀ (i : Nat) (o : Oper), i < n → ops[i]? = some o → dsti o ≠ t) → a.tmps[t]? = a0.tmps[t]?
/-- what operation k waits for -/
def depsOf (ops : Array Oper) (k : Nat) : List Nat := match ops[k]? with
  | some o => (o.after.toList.filter (Region.binds .any)).map (·.on)
  | none => []
/-- all that must have come up ahead, gone through from k - 1 down -/
def reach (ops : Array Oper) : Nat → List Nat → List Nat
  | 0, s => s
  | k + 1, s => reach ops k (if s.contains k then s ++ depsOf ops k else s)
def early (ops : Array Oper) : Bool := (List.range ops.size).all fun i => (depsOf ops i).all fun j => decide (j < i)
def plainT (n N : Nat) (ops : Array Oper) : Bool :=
  (List.range n).all (fun i => match ops[i]? with | some o => o.guard.isNone && o.dst.isSome && decide (dsti o < N) | none => false) &&
  decide (((ops.toList.take n).map dsti).Nodup) && early ops &&
  (List.range ops.size).all (fun k => decide (k < n) || (List.range k).all fun i => (reach ops k (depsOf ops k)).contains i)
theorem reach_listed {listed : Array Bool} (hcl : ∀ i, listed.getD i false = true → ∀ j ∈ depsOf ops i, listed.getD j false = true) : ∀ (k : Nat) (s : List Nat), (∀ j ∈ s, listed.getD j false = true) → ∀ j ∈ reach ops k s, listed.getD j false = true
  | 0, s, h => h
  | k + 1, s, h => by
    unfold reach
    refine reach_listed hcl k _ fun j hj => ?_
    split at hj
    next hc =>
      rcases List.mem_append.1 hj with hj | hj
      · exact h j hj
      · exact hcl k (h k (by simpa using hc)) j hj
    next => exact h j hj
theorem mem_deps {k j : Nat} : j ∈ depsOf ops k ↔ ∃ o e, ops[k]? = some o ∧ e ∈ o.after ∧ Region.binds .any e = true ∧ e.on = j := by
  unfold depsOf
  cases h : ops[k]? with
  | none => simp
  | some o =>
    simp only [List.mem_map, List.mem_filter, Array.mem_toList_iff, Option.some.injEq]
    constructor
    · rintro ⟨e, ⟨h1, h2⟩, h3⟩; exact ⟨o, e, rfl, h1, h2, h3⟩
    · rintro ⟨o', e, rfl, h1, h2, h3⟩; exact ⟨e, ⟨h1, h2⟩, h3⟩
theorem getD_set_same {listed : Array Bool} {i : Nat} (hi : i < listed.size) : (listed.setIfInBounds i true).getD i false = true := by
  simp [Array.getD, hi]
theorem getD_set_ne' {listed : Array Bool} {i j : Nat} (h : i ≠ j) : (listed.setIfInBounds i true).getD j false = listed.getD j false := by
  simp [Array.getD_eq_getD_getElem?, Array.getElem?_setIfInBounds_ne h]
def plainG (n N : Nat) (ops : Array Oper) : Bool :=
  (List.range n).all (fun i => match ops[i]? with | some o => o.dst.isSome && decide (dsti o < N) | none => false) &&
  decide (((ops.toList.take n).map dsti).Nodup) && early ops &&
  (List.range ops.size).all (fun k => decide (k < n) || (List.range k).all fun i => (reach ops k (depsOf ops k)).contains i)
/-- a region in whatever order whose last operations come in theirs: the first n by what each one's value is, the rest as they stand -/
theorem wp_region_specG {id : Nat} {a0 : Act} {w0 : World} (hm : P.follows .mixedOrders = true) (n : Nat) (hn : n ≤ ops.size) (hp : plainG n a0.tmps.size ops = true)
    (G : World → World → Prop) (hG0 : G w0 { w0 with drawn := w0.drawn + 1 }) (hGt : ∀ x y z, G x y → G y z → G x z)
    (Sp : Nat → Value → World → Prop) (hSp : ∀ i v w w', Sp i v w → G w w' → Sp i v w')
    (step : ∀ (i : Nat) (o : Oper) (a : Act) (w : World), i < n → ops[i]? = some o → LowT n ops a0 a → G w0 w → (∀ j ∈ depsOf ops i, ∀ o', ops[j]? = some o' → Sp j (a.eval (.tmp (dsti o'))) w) →
      o.wp P a w (fun a' w' => ∃ v, a' = a.put o.dst v ∧ Sp i v w' ∧ G w w') Q)
    (gd : ∀ (i : Nat) (o : Oper) (j : Nat) (b : Bool), i < n → ops[i]? = some o → o.guard = some (j, b) → j ∈ depsOf ops i ∧ ∀ v w, Sp j v w → v = .bool b)
    (tail : ∀ (a : Act) (w : World), LowT n ops a0 a → G w0 w → (∀ (i : Nat) (o : Oper), i < n → ops[i]? = some o → Sp i (a.eval (.tmp (dsti o))) w) → wpList P ops Q (ops.toList.drop n) a w) :
    (Code.region id ops true).wp P Q a0 w0 := by
  unfold plainG at hp
  simp only [Bool.and_eq_true, decide_eq_true_eq] at hp
  obtain ⟨⟨⟨hp1, hp2⟩, hp3⟩, hp4⟩ := hp
  have hev : ∀ (a : Act) t, a.eval (.tmp t) = a.tmps.getD t undef := fun a t => by first | rfl | simp [Act.eval]
  have hdst : ∀ (i : Nat) (o : Oper), i < n → ops[i]? = some o → o.dst = some (dsti o) ∧ dsti o < a0.tmps.size := by
    intro i o hi ho
    have := List.all_eq_true.1 hp1 i (List.mem_range.2 hi)
    rw [ho] at this
    simp only [Bool.and_eq_true, decide_eq_true_eq] at this
    obtain ⟨h2, h3⟩ := this
    refine ⟨?_, h3⟩
    obtain ⟨d, hd⟩ := Option.isSome_iff_exists.1 h2
    rw [hd]
    simp [dsti, hd]
  have hnod : ∀ (i j : Nat) (o o' : Oper), i < n → j < n → ops[i]? = some o → ops[j]? = some o' → dsti o = dsti o' → i = j := by
    intro i j o o' hi hj ho ho' he
    obtain ⟨hi', e1⟩ := Array.getElem?_eq_some_iff.1 ho
    obtain ⟨hj', e2⟩ := Array.getElem?_eq_some_iff.1 ho'
    have hpw := List.pairwise_iff_getElem.1 hp2
    have l1 : i < ((ops.toList.take n).map dsti).length := by simp; omega
    have l2 : j < ((ops.toList.take n).map dsti).length := by simp; omega
    have g1 : ((ops.toList.take n).map dsti)[i] = dsti o := by simp [e1]
    have g2 : ((ops.toList.take n).map dsti)[j] = dsti o' := by simp [e2]
    rcases Nat.lt_trichotomy i j with h | h | h
    · exact (hpw i j l1 l2 h (by rw [g1, g2, he])).elim
    · exact h
    · exact (hpw j i l2 l1 h (by rw [g1, g2, he])).elim
  have hearly : ∀ i, i < ops.size → ∀ j ∈ depsOf ops i, j < i := by
    intro i hi j hj
    have := List.all_eq_true.1 hp3 i (List.mem_range.2 hi)
    simpa using List.all_eq_true.1 this j hj
  have htl : ∀ k, n ≤ k → k < ops.size → ∀ i, i < k → i ∈ reach ops k (depsOf ops k) := by
    intro k hk hs i hi
    have := List.all_eq_true.1 hp4 k (List.mem_range.2 hs)
    simp only [Bool.or_eq_true, decide_eq_true_eq] at this
    rcases this with h | h
    · omega
    · simpa using List.all_eq_true.1 h i (List.mem_range.2 hi)
  let Cl : Array Bool → Prop := fun listed => ∀ i, listed.getD i false = true → ∀ j ∈ depsOf ops i, listed.getD j false = true
  let S1 : Array Bool → Act → World → Prop := fun listed a w => (∀ k, n ≤ k → listed.getD k false = false) ∧ LowT n ops a0 a ∧ G w0 w ∧ ∀ i o, i < n → ops[i]? = some o → listed.getD i false = true → Sp i (a.eval (.tmp (dsti o))) w
  let S2 : Array Bool → Act → World → Prop := fun listed a w => ∃ k, n ≤ k ∧ k ≤ ops.size ∧ (∀ i, i < k → listed.getD i false = true) ∧ (∀ j, k ≤ j → listed.getD j false = false) ∧ wpList P ops Q (ops.toList.drop k) a w
  have hready : ∀ (listed : Array Bool) i, listed.size = ops.size → (i ∈ Region.ready .any ops listed ↔ i < ops.size ∧ listed.getD i false = false ∧ ∀ j ∈ depsOf ops i, listed.getD j false = true) := by
    intro listed i hs
    constructor
    · intro hi
      obtain ⟨h, o, ho, hd⟩ := mem_ready.1 hi
      have hlt : i < ops.size := (Array.getElem?_eq_some_iff.1 ho).1
      refine ⟨hlt, ?_, fun j hj => ?_⟩
      · have hl : i < listed.size := by omega
        simp only [Array.getD, hl, dite_true] at h ⊢
        exact h
      · obtain ⟨o', e, ho', h1, h2, h3⟩ := mem_deps.1 hj
        rw [ho] at ho'
        cases ho'
        rw [← h3]
        exact hd e h1 h2
    · rintro ⟨hlt, h, hd⟩
      refine mem_ready.2 ⟨?_, ops[i], Array.getElem?_eq_getElem hlt, fun e he hb => hd _ (mem_deps.2 ⟨_, e, Array.getElem?_eq_getElem hlt, he, hb, rfl⟩)⟩
      have hl : i < listed.size := by omega
      simp only [Array.getD, hl, dite_true] at h ⊢
      exact h
  have to2 : ∀ listed a w, S1 listed a w → (∀ i, i < n → listed.getD i false = true) → S2 listed a w := fun listed a w ⟨h1, h2, h3, h4⟩ hall =>
    ⟨n, Nat.le_refl _, hn, hall, h1, tail a w h2 h3 fun i o hi ho => h4 i o hi ho (hall i hi)⟩
  have hcl' : ∀ (listed : Array Bool) i, listed.size = ops.size → Cl listed → (∀ j ∈ depsOf ops i, listed.getD j false = true) → i < ops.size → Cl (listed.setIfInBounds i true) := by
    intro listed i hs hc hd hi k hk j hj
    by_cases ek : i = k
    · subst ek
      by_cases ej : i = j
      · subst ej; exact getD_set_same (by omega)
      · rw [getD_set_ne' ej]; exact hd j hj
    · rw [getD_set_ne' ek] at hk
      by_cases ej : i = j
      · subst ej; exact getD_set_same (by omega)
      · rw [getD_set_ne' ej]; exact hc k hk j hj
  have step2 : ∀ listed a w i, listed.size = ops.size → Cl listed → S2 listed a w → i ∈ Region.ready .any ops listed → wpOp P ops Q i (fun a' w' => S2 (listed.setIfInBounds i true) a' w') a w := by
    rintro listed a w i hs hc ⟨k, hk1, hk2, hk3, hk4, hk5⟩ hi
    obtain ⟨hi1, hi2, hi3⟩ := (hready listed i hs).1 hi
    have hik : k ≤ i := by
      rcases Nat.lt_or_ge i k with h | h
      · rw [hk3 i h] at hi2; cases hi2
      · exact h
    have hik2 : i = k := by
      rcases Nat.lt_or_ge k i with h | h
      · have h1 := reach_listed hc i _ hi3 k (htl i (by omega) hi1 k h)
        rw [hk4 k (Nat.le_refl _)] at h1; cases h1
      · omega
    subst hik2
    have hcons : ops.toList.drop i = ops[i] :: ops.toList.drop (i + 1) := by
      rw [List.drop_eq_getElem_cons (by simpa using hi1)]; simp
    rw [hcons] at hk5
    unfold wpOp
    rw [Array.getElem?_eq_getElem hi1]
    have post : ∀ a' w', wpList P ops Q (ops.toList.drop (i + 1)) a' w' → S2 (listed.setIfInBounds i true) a' w' := fun a' w' h => ⟨i + 1, by omega, by omega, fun j hj => by
        by_cases e : i = j
        · subst e; exact getD_set_same (by omega)
        · rw [getD_set_ne' e]; exact hk3 j (by omega), fun j hj => by rw [getD_set_ne' (by omega)]; exact hk4 j (by omega), h⟩
    unfold wpList at hk5
    show if Region.wanted ops[i] (yielded ops a.tmps) = true then _ else _
    by_cases hw : Region.wanted ops[i] (yielded ops a.tmps) = true
    · rw [if_pos hw] at hk5 ⊢
      rcases hk5 with h | h
      · exact .inl (Oper.wp_mono post h)
      · exact .inr h
    · rw [if_neg hw] at hk5 ⊢
      exact post _ _ hk5
  refine wp_region_inv hm (fun listed a w => Cl listed ∧ (S1 listed a w ∨ S2 listed a w)) ?_ ?_ ?_
  · refine ⟨fun i hi => ?_, .inl ⟨fun k _ => by simp [Array.getD], ⟨rfl, rfl, fun _ _ => rfl⟩, hG0, fun i o _ ho hl => ?_⟩⟩
    · simp [Array.getD] at hi
    · simp [Array.getD] at hl
  · rintro listed a w i hs ⟨hc, hS⟩ hi
    obtain ⟨hi1, hi2, hi3⟩ := (hready listed i hs).1 hi
    have hC' := hcl' listed i hs hc hi3 hi1
    rcases hS with hS | hS
    · by_cases hin : i < n
      · obtain ⟨h1, hL, hG, hS'⟩ := hS
        have ho : ops[i]? = some ops[i] := Array.getElem?_eq_getElem hi1
        obtain ⟨g2, g3⟩ := hdst i _ hin ho
        have hwant : Region.wanted ops[i] (yielded ops a.tmps) = true := by
          unfold Region.wanted
          cases hgu : ops[i].guard with
          | none => rfl
          | some jb =>
            obtain ⟨j, b⟩ := jb
            obtain ⟨q1, q2⟩ := gd i _ j b hin ho hgu
            have hji := hearly i hi1 j q1
            have hoj : ops[j]? = some ops[j] := Array.getElem?_eq_getElem (by omega)
            have q3 := q2 _ _ (hS' j _ (by omega) hoj (hi3 j q1))
            obtain ⟨d1, d2⟩ := hdst j _ (by omega) hoj
            have hsz : dsti ops[j] < a.tmps.size := by rw [hL.size]; exact d2
            have q4 : a.tmps[dsti ops[j]]? = some (.bool b) := by
              rw [hev] at q3
              rw [Array.getD_eq_getD_getElem?, Array.getElem?_eq_getElem hsz] at q3
              rw [Array.getElem?_eq_getElem hsz]
              simpa using q3
            simp only [yielded, hoj, Option.bind_some, d1, q4]
            simp
        have h2 := step i _ a w hin ho hL hG fun j hj o' ho' => hS' j o' (by have := hearly i hi1 j hj; omega) ho' (hi3 j hj)
        unfold wpOp
        simp only [ho]
        rw [if_pos hwant]
        refine .inl (Oper.wp_mono ?_ h2)
        rintro a' w' ⟨v, rfl, hv, hg⟩
        refine ⟨hC', .inl ⟨fun k hk => by rw [getD_set_ne' (by omega)]; exact h1 k hk, ⟨?_, ?_, fun t ht => ?_⟩, hGt _ _ _ hG hg, fun j o' hj ho' hl => ?_⟩⟩
        · rw [g2]; exact hL.defers
        · rw [g2]; simpa [Act.put] using hL.size
        · rw [g2]
          simp only [Act.put]
          rw [Array.getElem?_setIfInBounds_ne (ht i _ hin ho)]
          exact hL.same t ht
        · rw [g2, hev]
          by_cases e : i = j
          · subst e
            rw [ho] at ho'
            cases ho'
            have : (a.put (some (dsti ops[i])) v).tmps.getD (dsti ops[i]) undef = v := by
              simp [Act.put, Array.getD, hL.size, g3]
            rw [this]
            exact hv
          · have hne : dsti ops[i] ≠ dsti o' := fun h => e (hnod i j _ o' hin hj ho ho' h)
            have h3 : (a.put (some (dsti ops[i])) v).tmps.getD (dsti o') undef = a.tmps.getD (dsti o') undef := by
              simp only [Act.put, Array.getD_eq_getD_getElem?]
              rw [Array.getElem?_setIfInBounds_ne hne]
            rw [h3, ← hev]
            rw [getD_set_ne' e] at hl
            exact hSp _ _ _ _ (hS' j o' hj ho' hl) hg
      · have hall : ∀ j, j < n → listed.getD j false = true := fun j hj => reach_listed hc i _ hi3 j (htl i (by omega) hi1 j (by omega))
        have := step2 listed a w i hs hc (to2 listed a w hS hall) hi
        exact wpOp_mono (fun a' w' h => ⟨hC', .inr h⟩) this
    · exact wpOp_mono (fun a' w' h => ⟨hC', .inr h⟩) (step2 listed a w i hs hc hS hi)
  · rintro listed a w hs ⟨hc, hS⟩ hr
    have hall : ∀ i : Nat, i < ops.size → listed.getD i false = true := by
      intro i
      induction i using Nat.strongRecOn with
      | _ i ih =>
        intro hi
        cases hl : listed.getD i false with
        | true => rfl
        | false =>
          have hmem : i ∈ Region.ready .any ops listed := (hready listed i hs).2 ⟨hi, hl, fun j hj => ih j (hearly i hi j hj) (by have := hearly i hi j hj; omega)⟩
          rw [hr] at hmem
          cases hmem
    have fin2 : S2 listed a w → Q .normal a w := by
      rintro ⟨k, hk1, hk2, hk3, hk4, hk5⟩
      have hk : k = ops.size := by
        rcases Nat.lt_or_ge k ops.size with h | h
        · have := hall k h
          rw [hk4 k (Nat.le_refl _)] at this; cases this
        · omega
      subst hk
      rw [List.drop_eq_nil_of_le (by simp)] at hk5
      exact hk5
    rcases hS with hS | hS
    · exact fin2 (to2 listed a w hS fun i hi => hall i (by omega))
    · exact fin2 hS
/-- a region in whatever order whose last operations come in theirs: the first n by what each one's value is, the rest as they stand -/
theorem wp_region_specU {id : Nat} {a0 : Act} {w0 : World} (hm : P.follows .mixedOrders = true) (n : Nat) (un : Nat → Bool) (hn : n ≤ ops.size) (hp : plainG n a0.tmps.size ops = true)
    (G : World → World → Prop) (hG0 : G w0 { w0 with drawn := w0.drawn + 1 }) (hGt : ∀ x y z, G x y → G y z → G x z) (hGr : ∀ x, G x x)
    (Sp : Nat → Value → World → Prop) (hSp : ∀ i v w w', Sp i v w → G w w' → Sp i v w')
    (step : ∀ (i : Nat) (o : Oper) (a : Act) (w : World), i < n → un i = false → ops[i]? = some o → LowT n ops a0 a → G w0 w → (∀ j ∈ depsOf ops i, ∀ o', ops[j]? = some o' → Sp j (a.eval (.tmp (dsti o'))) w) →
      o.wp P a w (fun a' w' => ∃ v, a' = a.put o.dst v ∧ Sp i v w' ∧ G w w') Q)
    (gd : ∀ (i : Nat) (o : Oper), i < n → ops[i]? = some o → (o.guard = none → un i = false) ∧ ∀ (j : Nat) (b : Bool), o.guard = some (j, b) → j ∈ depsOf ops i ∧ (un i = false → ∀ v w, Sp j v w → v = .bool b) ∧ (un i = true → (∀ v w, Sp j v w → v = .bool (!b)) ∧ ∀ w, Sp i undef w))
    (tail : ∀ (a : Act) (w : World), LowT n ops a0 a → G w0 w → (∀ (i : Nat) (o : Oper), i < n → ops[i]? = some o → Sp i (a.eval (.tmp (dsti o))) w) → wpList P ops Q (ops.toList.drop n) a w) :
    (Code.region id ops true).wp P Q a0 w0 := by
  unfold plainG at hp
  simp only [Bool.and_eq_true, decide_eq_true_eq] at hp
  obtain ⟨⟨⟨hp1, hp2⟩, hp3⟩, hp4⟩ := hp
  have hev : ∀ (a : Act) t, a.eval (.tmp t) = a.tmps.getD t undef := fun a t => by first | rfl | simp [Act.eval]
  have hdst : ∀ (i : Nat) (o : Oper), i < n → ops[i]? = some o → o.dst = some (dsti o) ∧ dsti o < a0.tmps.size := by
    intro i o hi ho
    have := List.all_eq_true.1 hp1 i (List.mem_range.2 hi)
    rw [ho] at this
    simp only [Bool.and_eq_true, decide_eq_true_eq] at this
    obtain ⟨h2, h3⟩ := this
    refine ⟨?_, h3⟩
    obtain ⟨d, hd⟩ := Option.isSome_iff_exists.1 h2
    rw [hd]
    simp [dsti, hd]
  have hnod : ∀ (i j : Nat) (o o' : Oper), i < n → j < n → ops[i]? = some o → ops[j]? = some o' → dsti o = dsti o' → i = j := by
    intro i j o o' hi hj ho ho' he
    obtain ⟨hi', e1⟩ := Array.getElem?_eq_some_iff.1 ho
    obtain ⟨hj', e2⟩ := Array.getElem?_eq_some_iff.1 ho'
    have hpw := List.pairwise_iff_getElem.1 hp2
    have l1 : i < ((ops.toList.take n).map dsti).length := by simp; omega
    have l2 : j < ((ops.toList.take n).map dsti).length := by simp; omega
    have g1 : ((ops.toList.take n).map dsti)[i] = dsti o := by simp [e1]
    have g2 : ((ops.toList.take n).map dsti)[j] = dsti o' := by simp [e2]
    rcases Nat.lt_trichotomy i j with h | h | h
    · exact (hpw i j l1 l2 h (by rw [g1, g2, he])).elim
    · exact h
    · exact (hpw j i l2 l1 h (by rw [g1, g2, he])).elim
  have hearly : ∀ i, i < ops.size → ∀ j ∈ depsOf ops i, j < i := by
    intro i hi j hj
    have := List.all_eq_true.1 hp3 i (List.mem_range.2 hi)
    simpa using List.all_eq_true.1 this j hj
  have htl : ∀ k, n ≤ k → k < ops.size → ∀ i, i < k → i ∈ reach ops k (depsOf ops k) := by
    intro k hk hs i hi
    have := List.all_eq_true.1 hp4 k (List.mem_range.2 hs)
    simp only [Bool.or_eq_true, decide_eq_true_eq] at this
    rcases this with h | h
    · omega
    · simpa using List.all_eq_true.1 h i (List.mem_range.2 hi)
  let Cl : Array Bool → Prop := fun listed => ∀ i, listed.getD i false = true → ∀ j ∈ depsOf ops i, listed.getD j false = true
  let S1 : Array Bool → Act → World → Prop := fun listed a w => (∀ k, n ≤ k → listed.getD k false = false) ∧ LowT n ops a0 a ∧ G w0 w ∧ ∀ i o, i < n → ops[i]? = some o → listed.getD i false = true → Sp i (a.eval (.tmp (dsti o))) w
  let S2 : Array Bool → Act → World → Prop := fun listed a w => ∃ k, n ≤ k ∧ k ≤ ops.size ∧ (∀ i, i < k → listed.getD i false = true) ∧ (∀ j, k ≤ j → listed.getD j false = false) ∧ wpList P ops Q (ops.toList.drop k) a w
  have hready : ∀ (listed : Array Bool) i, listed.size = ops.size → (i ∈ Region.ready .any ops listed ↔ i < ops.size ∧ listed.getD i false = false ∧ ∀ j ∈ depsOf ops i, listed.getD j false = true) := by
    intro listed i hs
    constructor
    · intro hi
      obtain ⟨h, o, ho, hd⟩ := mem_ready.1 hi
      have hlt : i < ops.size := (Array.getElem?_eq_some_iff.1 ho).1
      refine ⟨hlt, ?_, fun j hj => ?_⟩
      · have hl : i < listed.size := by omega
        simp only [Array.getD, hl, dite_true] at h ⊢
        exact h
      · obtain ⟨o', e, ho', h1, h2, h3⟩ := mem_deps.1 hj
        rw [ho] at ho'
        cases ho'
        rw [← h3]
        exact hd e h1 h2
    · rintro ⟨hlt, h, hd⟩
      refine mem_ready.2 ⟨?_, ops[i], Array.getElem?_eq_getElem hlt, fun e he hb => hd _ (mem_deps.2 ⟨_, e, Array.getElem?_eq_getElem hlt, he, hb, rfl⟩)⟩
      have hl : i < listed.size := by omega
      simp only [Array.getD, hl, dite_true] at h ⊢
      exact h
  have to2 : ∀ listed a w, S1 listed a w → (∀ i, i < n → listed.getD i false = true) → S2 listed a w := fun listed a w ⟨h1, h2, h3, h4⟩ hall =>
    ⟨n, Nat.le_refl _, hn, hall, h1, tail a w h2 h3 fun i o hi ho => h4 i o hi ho (hall i hi)⟩
  have hcl' : ∀ (listed : Array Bool) i, listed.size = ops.size → Cl listed → (∀ j ∈ depsOf ops i, listed.getD j false = true) → i < ops.size → Cl (listed.setIfInBounds i true) := by
    intro listed i hs hc hd hi k hk j hj
    by_cases ek : i = k
    · subst ek
      by_cases ej : i = j
      · subst ej; exact getD_set_same (by omega)
      · rw [getD_set_ne' ej]; exact hd j hj
    · rw [getD_set_ne' ek] at hk
      by_cases ej : i = j
      · subst ej; exact getD_set_same (by omega)
      · rw [getD_set_ne' ej]; exact hc k hk j hj
  have step2 : ∀ listed a w i, listed.size = ops.size → Cl listed → S2 listed a w → i ∈ Region.ready .any ops listed → wpOp P ops Q i (fun a' w' => S2 (listed.setIfInBounds i true) a' w') a w := by
    rintro listed a w i hs hc ⟨k, hk1, hk2, hk3, hk4, hk5⟩ hi
    obtain ⟨hi1, hi2, hi3⟩ := (hready listed i hs).1 hi
    have hik : k ≤ i := by
      rcases Nat.lt_or_ge i k with h | h
      · rw [hk3 i h] at hi2; cases hi2
      · exact h
    have hik2 : i = k := by
      rcases Nat.lt_or_ge k i with h | h
      · have h1 := reach_listed hc i _ hi3 k (htl i (by omega) hi1 k h)
        rw [hk4 k (Nat.le_refl _)] at h1; cases h1
      · omega
    subst hik2
    have hcons : ops.toList.drop i = ops[i] :: ops.toList.drop (i + 1) := by
      rw [List.drop_eq_getElem_cons (by simpa using hi1)]; simp
    rw [hcons] at hk5
    unfold wpOp
    rw [Array.getElem?_eq_getElem hi1]
    have post : ∀ a' w', wpList P ops Q (ops.toList.drop (i + 1)) a' w' → S2 (listed.setIfInBounds i true) a' w' := fun a' w' h => ⟨i + 1, by omega, by omega, fun j hj => by
        by_cases e : i = j
        · subst e; exact getD_set_same (by omega)
        · rw [getD_set_ne' e]; exact hk3 j (by omega), fun j hj => by rw [getD_set_ne' (by omega)]; exact hk4 j (by omega), h⟩
    unfold wpList at hk5
    show if Region.wanted ops[i] (yielded ops a.tmps) = true then _ else _
    by_cases hw : Region.wanted ops[i] (yielded ops a.tmps) = true
    · rw [if_pos hw] at hk5 ⊢
      rcases hk5 with h | h
      · exact .inl (Oper.wp_mono post h)
      · exact .inr h
    · rw [if_neg hw] at hk5 ⊢
      exact post _ _ hk5
  refine wp_region_inv hm (fun listed a w => Cl listed ∧ (S1 listed a w ∨ S2 listed a w)) ?_ ?_ ?_
  · refine ⟨fun i hi => ?_, .inl ⟨fun k _ => by simp [Array.getD], ⟨rfl, rfl, fun _ _ => rfl⟩, hG0, fun i o _ ho hl => ?_⟩⟩
    · simp [Array.getD] at hi
    · simp [Array.getD] at hl
  · rintro listed a w i hs ⟨hc, hS⟩ hi
    obtain ⟨hi1, hi2, hi3⟩ := (hready listed i hs).1 hi
    have hC' := hcl' listed i hs hc hi3 hi1
    rcases hS with hS | hS
    · by_cases hin : i < n
      · obtain ⟨h1, hL, hG, hS'⟩ := hS
        have ho : ops[i]? = some ops[i] := Array.getElem?_eq_getElem hi1
        obtain ⟨g2, g3⟩ := hdst i _ hin ho
        have hyl : ∀ j b, ops[i].guard = some (j, b) → ∀ c : Bool, (∀ v w, Sp j v w → v = .bool c) → yielded ops a.tmps j = some c := by
          intro j b hgu c hc
          obtain ⟨q1, -, -⟩ := (gd i _ hin ho).2 j b hgu
          have hji := hearly i hi1 j q1
          have hoj : ops[j]? = some ops[j] := Array.getElem?_eq_getElem (by omega)
          have q3 := hc _ _ (hS' j _ (by omega) hoj (hi3 j q1))
          obtain ⟨d1, d2⟩ := hdst j _ (by omega) hoj
          have hsz : dsti ops[j] < a.tmps.size := by rw [hL.size]; exact d2
          have q4 : a.tmps[dsti ops[j]]? = some (.bool c) := by
            rw [hev] at q3
            rw [Array.getD_eq_getD_getElem?, Array.getElem?_eq_getElem hsz] at q3
            rw [Array.getElem?_eq_getElem hsz]
            simpa using q3
          simp only [yielded, hoj, Option.bind_some, d1, q4]
        have post : ∀ v w', Sp i v w' → G w w' → Cl (listed.setIfInBounds i true) ∧ (S1 (listed.setIfInBounds i true) (a.put ops[i].dst v) w' ∨ S2 (listed.setIfInBounds i true) (a.put ops[i].dst v) w') := by
          intro v w' hv hg
          refine ⟨hC', .inl ⟨fun k hk => by rw [getD_set_ne' (by omega)]; exact h1 k hk, ⟨?_, ?_, fun t ht => ?_⟩, hGt _ _ _ hG hg, fun j o' hj ho' hl => ?_⟩⟩
          · rw [g2]; exact hL.defers
          · rw [g2]; simpa [Act.put] using hL.size
          · rw [g2]
            simp only [Act.put]
            rw [Array.getElem?_setIfInBounds_ne (ht i _ hin ho)]
            exact hL.same t ht
          · rw [g2, hev]
            by_cases e : i = j
            · subst e
              rw [ho] at ho'
              cases ho'
              have : (a.put (some (dsti ops[i])) v).tmps.getD (dsti ops[i]) undef = v := by
                simp [Act.put, Array.getD, hL.size, g3]
              rw [this]
              exact hv
            · have hne : dsti ops[i] ≠ dsti o' := fun h => e (hnod i j _ o' hin hj ho ho' h)
              have h3 : (a.put (some (dsti ops[i])) v).tmps.getD (dsti o') undef = a.tmps.getD (dsti o') undef := by
                simp only [Act.put, Array.getD_eq_getD_getElem?]
                rw [Array.getElem?_setIfInBounds_ne hne]
              rw [h3, ← hev]
              rw [getD_set_ne' e] at hl
              exact hSp _ _ _ _ (hS' j o' hj ho' hl) hg
        unfold wpOp
        simp only [ho]
        cases hun : un i with
        | false =>
          have hwant : Region.wanted ops[i] (yielded ops a.tmps) = true := by
            unfold Region.wanted
            cases hgu : ops[i].guard with
            | none => rfl
            | some jb =>
              obtain ⟨j, b⟩ := jb
              simp only
              rw [hyl j b hgu b (((gd i _ hin ho).2 j b hgu).2.1 hun)]
              simp
          have h2 := step i _ a w hin hun ho hL hG fun j hj o' ho' => hS' j o' (by have := hearly i hi1 j hj; omega) ho' (hi3 j hj)
          rw [if_pos hwant]
          refine .inl (Oper.wp_mono ?_ h2)
          rintro a' w' ⟨v, rfl, hv, hg⟩
          exact post v w' hv hg
        | true =>
          cases hgu : ops[i].guard with
          | none => have := (gd i _ hin ho).1 hgu; rw [hun] at this; cases this
          | some jb =>
            obtain ⟨j, b⟩ := jb
            obtain ⟨-, -, q⟩ := (gd i _ hin ho).2 j b hgu
            obtain ⟨q5, q6⟩ := q hun
            have hnw : ¬ Region.wanted ops[i] (yielded ops a.tmps) = true := by
              unfold Region.wanted
              rw [hgu]
              simp only
              rw [hyl j b hgu (!b) q5]
              cases b <;> simp
            rw [if_neg hnw]
            exact post undef w (q6 w) (hGr w)
      · have hall : ∀ j, j < n → listed.getD j false = true := fun j hj => reach_listed hc i _ hi3 j (htl i (by omega) hi1 j (by omega))
        have := step2 listed a w i hs hc (to2 listed a w hS hall) hi
        exact wpOp_mono (fun a' w' h => ⟨hC', .inr h⟩) this
    · exact wpOp_mono (fun a' w' h => ⟨hC', .inr h⟩) (step2 listed a w i hs hc hS hi)
  · rintro listed a w hs ⟨hc, hS⟩ hr
    have hall : ∀ i : Nat, i < ops.size → listed.getD i false = true := by
      intro i
      induction i using Nat.strongRecOn with
      | _ i ih =>
        intro hi
        cases hl : listed.getD i false with
        | true => rfl
        | false =>
          have hmem : i ∈ Region.ready .any ops listed := (hready listed i hs).2 ⟨hi, hl, fun j hj => ih j (hearly i hi j hj) (by have := hearly i hi j hj; omega)⟩
          rw [hr] at hmem
          cases hmem
    have fin2 : S2 listed a w → Q .normal a w := by
      rintro ⟨k, hk1, hk2, hk3, hk4, hk5⟩
      have hk : k = ops.size := by
        rcases Nat.lt_or_ge k ops.size with h | h
        · have := hall k h
          rw [hk4 k (Nat.le_refl _)] at this; cases this
        · omega
      subst hk
      rw [List.drop_eq_nil_of_le (by simp)] at hk5
      exact hk5
    rcases hS with hS | hS
    · exact fin2 (to2 listed a w hS fun i hi => hall i (by omega))
    · exact fin2 hS
theorem plainT_G {n N : Nat} {ops : Array Oper} (h : plainT n N ops = true) : plainG n N ops = true := by
  unfold plainT at h
  unfold plainG
  simp only [Bool.and_eq_true] at h ⊢
  refine ⟨⟨⟨?_, h.1.1.2⟩, h.1.2⟩, h.2⟩
  refine List.all_eq_true.2 fun i hi => ?_
  have := List.all_eq_true.1 h.1.1.1 i hi
  cases ho : ops[i]? with
  | none => rw [ho] at this; simp at this
  | some o => rw [ho] at this; simp only [Bool.and_eq_true] at this ⊢; exact ⟨this.1.2, this.2⟩
/-- a region in whatever order whose last operations come in theirs: the first n by what each one's value is, the rest as they stand -/
theorem wp_region_specT {id : Nat} {a0 : Act} {w0 : World} (hm : P.follows .mixedOrders = true) (n : Nat) (hn : n ≤ ops.size) (hp : plainT n a0.tmps.size ops = true)
    (G : World → World → Prop) (hG0 : G w0 { w0 with drawn := w0.drawn + 1 }) (hGt : ∀ x y z, G x y → G y z → G x z)
    (Sp : Nat → Value → World → Prop) (hSp : ∀ i v w w', Sp i v w → G w w' → Sp i v w')
    (step : ∀ (i : Nat) (o : Oper) (a : Act) (w : World), i < n → ops[i]? = some o → LowT n ops a0 a → G w0 w → (∀ j ∈ depsOf ops i, ∀ o', ops[j]? = some o' → Sp j (a.eval (.tmp (dsti o'))) w) →
      o.wp P a w (fun a' w' => ∃ v, a' = a.put o.dst v ∧ Sp i v w' ∧ G w w') Q)
    (tail : ∀ (a : Act) (w : World), LowT n ops a0 a → G w0 w → (∀ (i : Nat) (o : Oper), i < n → ops[i]? = some o → Sp i (a.eval (.tmp (dsti o))) w) → wpList P ops Q (ops.toList.drop n) a w) :
    (Code.region id ops true).wp P Q a0 w0 := by
  refine wp_region_specG hm n hn (plainT_G hp) G hG0 hGt Sp hSp step (fun i o j b hi ho hg => ?_) tail
  unfold plainT at hp
  simp only [Bool.and_eq_true] at hp
  have := List.all_eq_true.1 hp.1.1.1 i (List.mem_range.2 hi)
  rw [ho] at this
  simp only [Bool.and_eq_true, Option.isNone_iff_eq_none] at this
  rw [this.1.1] at hg
  cases hg
theorem ev_tmp (a : Act) (t : Nat) : a.eval (.tmp t) = a.tmps.getD t undef := by
  simp [Act.eval, Array.getD_eq_getD_getElem?]
/-- a temporary that the region does not lay -/
theorem LowT.ev {n : Nat} {ops : Array Oper} {a0 a : Act} (h : LowT n ops a0 a) (t : Nat) (hc : (ops.toList.take n).all (fun o => dsti o != t) = true) {v : Value} (hv : a0.eval (.tmp t) = v) : a.eval (.tmp t) = v := by
  rw [← hv, ev_tmp, ev_tmp, Array.getD_eq_getD_getElem?, Array.getD_eq_getD_getElem?, h.same t fun i o hi ho => ?_]
  have hm : o ∈ ops.toList.take n := by
    obtain ⟨hl, e⟩ := Array.getElem?_eq_some_iff.1 ho
    exact List.mem_take_iff_getElem.2 ⟨i, by simp; omega, by simpa using e⟩
  simpa using List.all_eq_true.1 hc o hm
theorem act_lit {a : Act} {n : Nat} (hs : a.tmps.size = n) (hd : a.defers = []) : a = ⟨((List.range n).map fun i => a.eval (.tmp i)).toArray, []⟩ := by
  cases a with
  | mk t d =>
    simp only at hd hs
    subst hd
    congr 1
    apply Array.ext_getElem?
    intro i
    by_cases hi : i < t.size
    · simp [ev_tmp, hi, hs ▸ hi, Array.getD]
    · rw [Array.getElem?_eq_none (by omega), Array.getElem?_eq_none (by simp; omega)]
/-- what an operation's value is: this very one; or a new box -/
inductive Dv where
  | ex (v : Value)
  | new (lo : Nat) (cs : Array Value) (t : TypeId)
  | of (p : Value → World → Prop) (hp : ∀ v w w', p v w → Below w.heap.size w w' → p v w')
def Dv.holds : Dv → Value → World → Prop
  | .ex v0, v, _ => v = v0
  | .new lo cs t, v, w => ∃ q, v = .pointer (some ⟨q, 0, none⟩) ∧ lo ≤ q ∧ w.heap[q]? = some (.cells cs t (0, 0))
  | .of p _, v, w => p v w
theorem Dv.stays {d : Dv} {v : Value} {w w' : World} (h : d.holds v w) (hb : Below w.heap.size w w') : d.holds v w' := by
  cases d with
  | ex v0 => exact h
  | new lo cs t =>
    obtain ⟨q, h1, h2, h3⟩ := h
    exact ⟨q, h1, h2, (hb.block _ (Array.getElem?_eq_some_iff.1 h3).1).trans h3⟩
  | of p hp => exact hp v w w' h hb
theorem opv {o : Oper} {a : Act} {w w' : World} {K : Act → World → Prop} {v : Value} (h : (execOp a.eval o).run P w = .ok (.value v) w') (hk : K (a.put o.dst v) w') : o.wp P a w K Q := by
  unfold Oper.wp
  rw [h]
  exact hk
theorem opc {o : Oper} {a : Act} {w : World} {K : Act → World → Prop} (f : FuncId) (args : Array Value) (hrun : (execOp a.eval o).run P w = .ok (.enter f args) w)
    {post : Ending → World → Prop} (hc : Calls P f args w post) (hp : ∀ e w', post e w' → ∃ v, e = .returned v ∧ K (a.put o.dst v) w') : o.wp P a w K Q := by
  unfold Oper.wp
  rw [hrun, Oper.upon_enter]
  refine hc.mono fun e w'' hh => ?_
  obtain ⟨v, rfl, hk⟩ := hp e w'' hh
  exact hk
end Go.Proofs.Ytlkccencilhacaa
