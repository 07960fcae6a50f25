import Derived.Test.YtdjdcpldofmdjaaABase
import Derived.Orders
namespace Go.Proofs.Ytdjdcpldofmdjaa
set_option linter.unusedVariables false

variable {P : Program} {ops : Array Oper} {Q : Exit → Act → World → Prop} {md : Region.Mode}
/-- how many operations have not come up -/
def unl (listed : Array Bool) : Nat := (listed.toList.filter (! ·)).length
theorem filter_set_len : ∀ (l : List Bool) (i : Nat), l[i]? = some false → ((l.set i true).filter (! ·)).length + 1 = (l.filter (! ·)).length
  | [], i, h => by simp at h
  | b :: l, 0, h => by simp at h; simp [h]
  | b :: l, i + 1, h => by
    have ih := filter_set_len l i (by simpa using h)
    cases b <;> simp at ih ⊢ <;> omega
theorem unl_set {listed : Array Bool} {i : Nat} (h : listed[i]? = some false) : unl (listed.setIfInBounds i true) + 1 = unl listed := by
  unfold unl
  rw [Array.toList_setIfInBounds]
  exact filter_set_len _ _ (by simpa using h)
theorem unl_none {listed : Array Bool} {i : Nat} (h : listed[i]? = some false) : 0 < unl listed := by
  have := unl_set h
  omega
/-- a region in whatever order, by what stands when these have come up -/
theorem wpAny_inv (Inv : Array Bool → Act → World → Prop)
    (step : ∀ listed a w i, listed.size = ops.size → Inv listed a w → i ∈ Region.ready md ops listed → wpOp P ops Q i (fun a' w' => Inv (listed.setIfInBounds i true) a' w') a w)
    (done : ∀ listed a w, listed.size = ops.size → Inv listed a w → Region.ready md ops listed = [] → Q .normal a w) :
    ∀ (fuel : Nat) (listed : Array Bool) (a : Act) (w : World), listed.size = ops.size → unl listed ≤ fuel → Inv listed a w → wpAny P md ops Q fuel listed a w := by
  have hready : ∀ (listed : Array Bool) i, listed.size = ops.size → i ∈ Region.ready md ops listed → listed[i]? = some false := by
    intro listed i hs hi
    obtain ⟨h, o, ho, -⟩ := mem_ready.1 hi
    have hlt : i < listed.size := by rw [hs]; exact (Array.getElem?_eq_some_iff.1 ho).1
    simp only [Array.getD, hlt, dite_true] at h
    rw [Array.getElem?_eq_getElem hlt]
    simpa using h
  intro fuel
  induction fuel with
  | zero =>
    intro listed a w hs hu hI
    have : Region.ready md ops listed = [] := List.eq_nil_iff_forall_not_mem.2 fun i hi => by
      have := unl_none (hready listed i hs hi)
      omega
    exact ⟨this, done listed a w hs hI this⟩
  | succ fuel ih =>
    intro listed a w hs hu hI
    refine ⟨fun h => done listed a w hs hI h, fun i hi => ?_⟩
    have h1 := unl_set (hready listed i hs hi)
    exact wpOp_mono (fun a' w' h => ih _ a' w' (by simpa using hs) (by omega) h) (step listed a w i hs hI hi)
theorem unl_rep : ∀ n : Nat, unl (Array.replicate n false) = n := by
  intro n
  simp [unl]
theorem wp_region_inv {id : Nat} {a : Act} {w : World} (hm : P.follows .mixedOrders = true) (Inv : Array Bool → Act → World → Prop)
    (start : Inv (Array.replicate ops.size false) a { w with drawn := w.drawn + 1 })
    (step : ∀ listed a w i, listed.size = ops.size → Inv listed a w → i ∈ Region.ready .any ops listed → wpOp P ops Q i (fun a' w' => Inv (listed.setIfInBounds i true) a' w') a w)
    (done : ∀ listed a w, listed.size = ops.size → Inv listed a w → Region.ready .any ops listed = [] → Q .normal a w) : (Code.region id ops true).wp P Q a w :=
  wp_region_any hm (wpAny_inv Inv step done _ _ _ _ (by simp) (by rw [unl_rep]; exact Nat.le_refl _) start)
/-- where an operation lays its value -/
def dsti (o : Oper) : Nat := o.dst.getD 0
/-- a frame that differs from a0 in the region's own temporaries alone -/
structure Low (ops : Array Oper) (a0 a : Act) : Prop where
  defers : a.defers = a0.defers
  size : a.tmps.size = a0.tmps.size
  same : ∀ t : Nat, (∀ (i : Nat) (o : Oper), ops[i]? = some o → dsti o ≠ t) → a.tmps[t]? = a0.tmps[t]?
/-- what the region's text must be: each operation has a temporary of its own, and no guard -/
def plainR (n : Nat) (ops : Array Oper) : Bool := ops.all (fun o => o.guard.isNone && o.dst.isSome && decide (dsti o < n)) && decide ((ops.toList.map dsti).Nodup) && (List.range ops.size).all fun i => (ops[i]?.map (fun o => o.after.all (fun e => decide (e.on < i)))).getD true
theorem wp_region_spec {id : Nat} {a0 : Act} {w0 : World} (hm : P.follows .mixedOrders = true) (hp : plainR a0.tmps.size ops = true)
    (G : World → World → Prop) (hG0 : G w0 { w0 with drawn := w0.drawn + 1 }) (hGt : ∀ x y z, G x y → G y z → G x z)
    (Sp : Nat → Value → World → Prop) (hSp : ∀ i v w w', Sp i v w → G w w' → Sp i v w')
    (step : ∀ (i : Nat) (o : Oper) (a : Act) (w : World), ops[i]? = some o → Low ops a0 a → G w0 w → (∀ e ∈ o.after, Region.binds .any e = true → ∀ o', ops[e.on]? = some o' → Sp e.on (a.tmps.getD (dsti o') undef) w) →
      o.wp P a w (fun a' w' => ∃ v, a' = a.put o.dst v ∧ Sp i v w' ∧ G w w') Q)
    (done : ∀ (a : Act) (w : World), Low ops a0 a → G w0 w → (∀ (i : Nat) (o : Oper), ops[i]? = some o → Sp i (a.tmps.getD (dsti o) undef) w) → Q .normal a w) :
    (Code.region id ops true).wp P Q a0 w0 := by
  unfold plainR at hp
  simp only [Bool.and_eq_true, decide_eq_true_eq] at hp
  obtain ⟨⟨hp1, hp2⟩, hp3⟩ := hp
  have hdst : ∀ (i : Nat) (o : Oper), ops[i]? = some o → o.guard = none ∧ o.dst = some (dsti o) ∧ dsti o < a0.tmps.size := by
    intro i o ho
    obtain ⟨hlt, e⟩ := Array.getElem?_eq_some_iff.1 ho
    have := Array.all_eq_true.1 hp1 i hlt
    rw [e] at this
    simp only [Bool.and_eq_true, decide_eq_true_eq, Option.isNone_iff_eq_none] at this
    obtain ⟨⟨h1, h2⟩, h3⟩ := this
    refine ⟨h1, ?_, h3⟩
    obtain ⟨d, hd⟩ := Option.isSome_iff_exists.1 h2
    rw [hd]
    simp [dsti, hd]
  have hnod : ∀ (i j : Nat) (o o' : Oper), ops[i]? = some o → ops[j]? = some o' → dsti o = dsti o' → i = j := by
    intro i j o o' ho ho' he
    obtain ⟨hi, e1⟩ := Array.getElem?_eq_some_iff.1 ho
    obtain ⟨hj, e2⟩ := Array.getElem?_eq_some_iff.1 ho'
    have hpw := List.pairwise_iff_getElem.1 hp2
    rcases Nat.lt_trichotomy i j with h | h | h
    · refine (hpw i j (by simpa using hi) (by simpa using hj) h ?_).elim
      simp only [List.getElem_map, Array.getElem_toList, e1, e2, he]
    · exact h
    · refine (hpw j i (by simpa using hj) (by simpa using hi) h ?_).elim
      simp only [List.getElem_map, Array.getElem_toList, e1, e2, he]
  have hearly : ∀ (i : Nat) (o : Oper), ops[i]? = some o → ∀ e ∈ o.after, e.on < i := by
    intro i o ho e he
    have hlt := (Array.getElem?_eq_some_iff.1 ho).1
    have := List.all_eq_true.1 hp3 i (List.mem_range.2 hlt)
    rw [ho] at this
    simp only [Option.map_some, Option.getD_some] at this
    obtain ⟨k, hk, rfl⟩ := Array.getElem_of_mem he
    simpa using Array.all_eq_true.1 this k hk
  refine wp_region_inv hm (fun listed a w => Low ops a0 a ∧ G w0 w ∧ ∀ i o, ops[i]? = some o → listed.getD i false = true → Sp i (a.tmps.getD (dsti o) undef) w) ?_ ?_ ?_
  · refine ⟨⟨rfl, rfl, fun _ _ => rfl⟩, hG0, fun i o ho hl => ?_⟩
    simp [Array.getD] at hl
  · rintro listed a w i hs ⟨hL, hG, hS⟩ hi
    obtain ⟨hl, o, ho, hdep⟩ := mem_ready.1 hi
    obtain ⟨g1, g2, g3⟩ := hdst i o ho
    have h1 := step i o a w ho hL hG fun e he hb o' ho' => hS e.on o' ho' (hdep e he hb)
    unfold wpOp
    simp only [ho]
    rw [if_pos (by simp [Region.wanted, g1])]
    refine .inl (Oper.wp_mono ?_ h1)
    rintro a' w' ⟨v, rfl, hv, hg⟩
    have hd : i < listed.size := by rw [hs]; exact (Array.getElem?_eq_some_iff.1 ho).1
    refine ⟨⟨?_, ?_, fun t ht => ?_⟩, hGt _ _ _ hG hg, fun j o' ho' hj => ?_⟩
    · rw [g2]; exact hL.defers
    · rw [g2]; simpa [Act.put] using hL.size
    · rw [g2]
      simp only [Act.put]
      rw [Array.getElem?_setIfInBounds_ne (ht i o ho)]
      exact hL.same t ht
    · rw [g2]
      by_cases e : i = j
      · subst e
        rw [ho] at ho'
        cases ho'
        have : (a.put (some (dsti o)) v).tmps.getD (dsti o) undef = v := by
          simp [Act.put, Array.getD, hL.size, g3]
        rw [this]
        exact hv
      · have hne : dsti o ≠ dsti o' := fun h => e (hnod i j o o' ho ho' h)
        have h2 : (a.put (some (dsti o)) v).tmps.getD (dsti o') undef = a.tmps.getD (dsti o') undef := by
          simp only [Act.put, Array.getD_eq_getD_getElem?]
          rw [Array.getElem?_setIfInBounds_ne hne]
        rw [h2]
        refine hSp _ _ _ _ (hS j o' ho' ?_) hg
        rwa [getD_set_ne _ e] at hj
  · rintro listed a w hs ⟨hL, hG, hS⟩ hr
    have hall : ∀ i : Nat, i < ops.size → listed.getD i false = true := by
      intro i
      induction i using Nat.strongRecOn with
      | _ i ih =>
        intro hi
        obtain ⟨o, ho⟩ : ∃ o, ops[i]? = some o := ⟨_, Array.getElem?_eq_getElem hi⟩
        cases hl : listed.getD i false with
        | true => rfl
        | false =>
          have hsz : i < listed.size := by rw [hs]; exact hi
          have hl' : listed.getD i true = false := by
            simp only [Array.getD, hsz, dite_true] at hl ⊢
            exact hl
          have hmem : i ∈ Region.ready .any ops listed := mem_ready.2 ⟨hl', o, ho, fun e he _ => ih e.on (hearly i o ho e he) (Nat.lt_trans (hearly i o ho e he) hi)⟩
          rw [hr] at hmem
          cases hmem
    exact done a w hL hG fun i o ho => hS i o ho (hall i (Array.getElem?_eq_some_iff.1 ho).1)
end Go.Proofs.Ytdjdcpldofmdjaa
