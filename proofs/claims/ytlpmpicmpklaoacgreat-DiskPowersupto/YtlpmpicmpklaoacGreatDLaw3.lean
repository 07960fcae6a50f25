import Derived.Test.YtlpmpicmpklaoacGreatDLaw2
namespace Go.Proofs.YtlpmpicmpklaoacGreat
open Go.RowKit Go.Maps
set_option linter.unusedVariables false
set_option linter.unusedSimpArgs false
set_option maxRecDepth 20000

/-- the same disk: blocks and size -/
def St.geo (S T : St) : Prop := T.nb = S.nb ∧ T.sz = S.sz
theorem geo_refl (S : St) : S.geo S := ⟨rfl, rfl⟩
theorem geo_step (S : St) : S.geo S.step := ⟨step_nb S, step_sz S⟩
theorem geo_putSt (S : St) (b : Int) (n : Nat) (f : St → St) (hf : ∀ T : St, T.geo (f T)) : S.geo (S.putSt b n f) := by
  unfold St.putSt
  split
  · exact ⟨(hf _).1.trans (step_nb S), (hf _).2.trans (step_sz S)⟩
  · split
    · exact geo_step S
    · exact geo_refl S
theorem len_updF (f : Nat → List (List Nat)) (k j : Nat) (l : List Nat) : (updF f k (f k ++ [l]) j).length ≤ (f j).length + 1 := by
  by_cases e : j = k
  · subst e; rw [updF_same]; simp
  · rw [updF_other _ _ e]; omega
theorem cache_putSt (S : St) (b : Int) (n : Nat) (f : St → St) (k : Nat) (hf : ∀ T : St, ((f T).cache k).length ≤ (T.cache k).length + 1) : ((S.putSt b n f).cache k).length ≤ (S.cache k).length + 1 := by
  unfold St.putSt
  split
  · have := hf S.step; rw [step_cache] at this; exact this
  · split
    · rw [step_cache]; omega
    · omega

theorem geo_zeroN : ∀ (n : Nat) (S : St) (f : Nat), S.geo (S.zeroN f n).1
  | 0, S, f => geo_refl S
  | n + 1, S, f => by
    unfold St.zeroN
    split
    · have := geo_zeroN n (S.zput f) (f + 1)
      exact ⟨this.1.trans (zput_nb S f), this.2.trans (zput_sz S f)⟩
    · exact geo_step S
theorem cache_zeroN : ∀ (n : Nat) (S : St) (f k : Nat), ((S.zeroN f n).1.cache k).length ≤ (S.cache k).length + (if f ≤ k ∧ k < f + n then 1 else 0)
  | 0, S, f, k => by simp [St.zeroN]
  | n + 1, S, f, k => by
    unfold St.zeroN
    split
    · have h := cache_zeroN n (S.zput f) (f + 1) k
      by_cases e : k = f
      · subst e
        have h2 : ((S.zput k).cache k).length = (S.cache k).length + 1 := by
          show (updF S.step.cache k (S.step.cache k ++ [zeros S.sz]) k).length = _
          rw [updF_same, step_cache]; simp
        rw [if_neg (by omega)] at h
        rw [if_pos (by omega)]
        omega
      · rw [zput_cache S e] at h
        by_cases h3 : f + 1 ≤ k ∧ k < f + 1 + n
        · rw [if_pos h3] at h
          rw [if_pos (by omega)]
          exact h
        · rw [if_neg h3] at h
          rw [if_neg (by omega)]
          exact h
    · rw [step_cache]; omega
theorem geo_zero (S : St) (f c : Int) : S.geo (S.zero f c).1 := by
  unfold St.zero
  split
  · exact geo_zeroN _ _ _
  · exact geo_refl S
theorem cache_zero (S : St) (f c : Int) (k : Nat) : ((S.zero f c).1.cache k).length ≤ (S.cache k).length + 1 := by
  unfold St.zero
  split
  · have := cache_zeroN c.toNat S f.toNat k
    split at this <;> omega
  · show (S.cache k).length ≤ _; omega

theorem geo_call (S : St) (o : OpV) : S.geo (S.call o) := by
  unfold St.call
  split
  · unfold St.read; split <;> exact ⟨rfl, rfl⟩
  split
  · exact geo_putSt S _ _ _ fun T => ⟨rfl, rfl⟩
  split
  · exact geo_putSt S _ _ _ fun T => ⟨rfl, rfl⟩
  split
  · exact geo_zero S _ _
  split
  · unfold St.flush; split
    · exact geo_step S
    · exact geo_step S
  split
  · unfold St.spoil; split <;> exact ⟨rfl, rfl⟩
  split
  · exact ⟨rfl, rfl⟩
  split
  · exact ⟨rfl, rfl⟩
  · exact geo_refl S
theorem cache_call (S : St) (o : OpV) (k : Nat) : ((S.call o).cache k).length ≤ (S.cache k).length + 1 := by
  unfold St.call
  split
  · unfold St.read; split <;> (show (S.cache k).length ≤ _; omega)
  split
  · exact cache_putSt S _ _ _ k fun T => len_updF T.cache _ k _
  split
  · refine cache_putSt S _ _ _ k fun T => ?_
    show (updF T.cache _ [] k).length ≤ _
    by_cases e : k = o.block.toNat
    · subst e; rw [updF_same]; simp
    · rw [updF_other _ _ e]; omega
  split
  · exact cache_zero S _ _ k
  split
  · unfold St.flush; split
    · show ([] : List (List Nat)).length ≤ _; simp
    · rw [step_cache]; omega
  split
  · unfold St.spoil; split <;> (show (S.cache k).length ≤ _; omega)
  split
  · show (S.cache k).length ≤ _; omega
  split
  · show ([] : List (List Nat)).length ≤ _; simp
  · omega

/-- a list of calls, in memory -/
def OSl (w : World) (v : Value) (os : List OpV) : Prop :=
  ∃ a cap, v = .slice a os.length cap ∧ os.length ≤ cap ∧ cap ≤ maxLen ∧ (∀ o ∈ os, BSl w o.dv o.dl ∧ i64ok o.kind ∧ i64ok o.block ∧ i64ok o.count) ∧
    (0 < os.length → ∃ b off, a = some ⟨b, off, none⟩ ∧ ∀ i (h : i < os.length), w.cell? ⟨b, off + i * 4, none⟩ = some (.int .i64 os[i].kind) ∧ w.cell? ⟨b, off + i * 4 + 1, none⟩ = some (.int .i64 os[i].block) ∧ w.cell? ⟨b, off + i * 4 + 2, none⟩ = some (.int .i64 os[i].count) ∧ w.cell? ⟨b, off + i * 4 + 3, none⟩ = some os[i].dv)

def St.calls (S : St) (os : List OpV) : St := os.foldl St.call S
theorem calls_snoc (S : St) (os : List OpV) {i : Nat} (h : i < os.length) : S.calls (os.take (i + 1)) = (S.calls (os.take i)).call os[i] := by
  unfold St.calls
  rw [List.take_add_one, List.getElem?_eq_getElem h]
  simp only [Option.toList_some, List.foldl_append, List.foldl_cons, List.foldl_nil]
theorem geo_calls (S : St) : ∀ os : List OpV, S.geo (S.calls os) := by
  intro os
  induction os generalizing S with
  | nil => exact geo_refl S
  | cons o r ih =>
    have h1 := geo_call S o
    have h2 := ih (S.call o)
    exact ⟨h2.1.trans h1.1, h2.2.trans h1.2⟩
theorem cache_calls (S : St) (k : Nat) : ∀ os : List OpV, ((S.calls os).cache k).length ≤ (S.cache k).length + os.length := by
  intro os
  induction os generalizing S with
  | nil => simp [St.calls]
  | cons o r ih =>
    have h1 := cache_call S o k
    have h2 := ih (S.call o)
    show ((St.calls (S.call o) r).cache k).length ≤ _
    simp only [List.length_cons]
    omega

/-- what 'fresh' leaves -/
def freshSt (nb sz : Nat) (os : List OpV) : St := (((St.fresh nb sz fun _ => zeros sz).calls os).fused (-1)).crash []

theorem nil_bsl (w : World) : BSl w (.slice none 0 0) [] := ⟨none, 0, rfl, Nat.le_refl _, by unfold maxLen; omega, fun _ => rfl, by simp, by simp⟩

def FreshPost (w : World) (nb sz : Nat) (os : List OpV) (e : Ending) (w' : World) : Prop := ∃ L : Lay, e = .returned (PD L) ∧ Dk w w' L (freshSt nb sz os)

theorem ptrEqNil (a : Addr) (W : World) : (binOp .eql 31 (.pointer (some a)) (.pointer none)).run Tryz.prog W = .ok (.bool false) W := by kernel_rfl

end Go.Proofs.YtlpmpicmpklaoacGreat
