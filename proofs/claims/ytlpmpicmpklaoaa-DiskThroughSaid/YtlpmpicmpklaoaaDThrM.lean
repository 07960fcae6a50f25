import Derived.Test.YtlpmpicmpklaoaaDBarM
namespace Go.Proofs.Ytlpmpicmpklaoaa
open Go.RowKit Go.Maps
set_option linter.unusedVariables false
set_option linter.unusedSimpArgs false
set_option maxRecDepth 20000

/-- might the call change what lies in the block? -/
def OpV.touches (o : OpV) (b : Nat) : Bool := if o.kind = 2 ∨ o.kind = 3 ∨ o.kind = 10 then decide (o.block = (b : Int)) else if o.kind = 4 then decide (o.block ≤ (b : Int)) else false

/-- the block is as it is written: durable, nothing cached -/
def St.stands (S : St) (b : Nat) (l : List Nat) : Prop := S.med b = some l ∧ S.cache b = []

theorem zeroN_low (b : Nat) : ∀ (n : Nat) (S : St) (f : Nat), b < f → (S.zeroN f n).1.cache b = S.cache b ∧ (S.zeroN f n).1.med b = S.med b
  | 0, S, f, h => ⟨rfl, rfl⟩
  | n + 1, S, f, h => by
    unfold St.zeroN
    split
    · obtain ⟨h1, h2⟩ := zeroN_low b n (S.zput f) (f + 1) (by omega)
      rw [h1, h2, zput_cache S (by omega)]
      exact ⟨rfl, by show S.step.med b = _; rw [step_med]⟩
    · exact ⟨by rw [step_cache], by rw [step_med]⟩

theorem putSt_stands {S : St} {b : Nat} {l : List Nat} (h : S.stands b l) (x : Int) (n : Nat) (f : St → St) (hx : x ≠ (b : Int)) (hf : ∀ T : St, T.stands b l → 0 ≤ x → (f T).stands b l) : (S.putSt x n f).stands b l := by
  have hs : S.step.stands b l := ⟨by rw [step_med]; exact h.1, by rw [step_cache]; exact h.2⟩
  unfold St.putSt
  split
  · rename_i e
    refine hf _ hs ?_
    unfold St.putErr at e
    split at e
    · omega
    · rename_i e'
      omega
  · split
    · exact hs
    · exact h
theorem allDown_stands {S : St} {b : Nat} {l : List Nat} (h : S.stands b l) (kept : Nat → Nat) (hk : kept b = 0) : (S.allDown kept).stands b l := by
  refine ⟨?_, rfl⟩
  show (if 0 < kept b then _ else S.med b) = _
  rw [if_neg (by omega)]
  exact h.1

theorem crash_stands {S : St} {b : Nat} {l : List Nat} (h : S.stands b l) (p : List Nat) : (S.crash p).stands b l := by
  have := allDown_stands h (fun k => keptN p k (S.cache k).length) (by
    show keptN p b (S.cache b).length = 0
    have := keptN_le p b (S.cache b).length
    rw [h.2] at this ⊢
    simp only [List.length_nil] at this ⊢
    omega)
  exact ⟨this.1, this.2⟩
theorem call_stands {S : St} {b : Nat} {l : List Nat} (h : S.stands b l) (o : OpV) (ht : o.touches b = false) : (S.call o).stands b l := by
  unfold OpV.touches at ht
  unfold St.call
  split
  · obtain ⟨_, _, h3, h4, _⟩ := read_like S o.block
    exact ⟨by rw [h3]; exact h.1, by rw [h4]; exact h.2⟩
  · split
    · rename_i e
      rw [if_pos (.inl e)] at ht
      have hx := of_decide_eq_false ht
      refine putSt_stands h _ _ _ hx fun T hT h0 => ⟨hT.1, ?_⟩
      show updF T.cache _ _ b = []
      rw [updF_other _ _ (by omega)]
      exact hT.2
    · split
      · rename_i e
        rw [if_pos (.inr (.inl e))] at ht
        have hx := of_decide_eq_false ht
        refine putSt_stands h _ _ _ hx fun T hT h0 => ⟨?_, ?_⟩
        · show updF T.med _ _ b = _
          rw [updF_other _ _ (by omega)]
          exact hT.1
        · show updF T.cache _ _ b = []
          rw [updF_other _ _ (by omega)]
          exact hT.2
      · split
        · rename_i e2 e3 e
          rw [if_neg (by omega), if_pos e] at ht
          have hx := of_decide_eq_false ht
          unfold St.zero
          split
          · obtain ⟨h1, h2⟩ := zeroN_low b o.count.toNat S o.block.toNat (by omega)
            exact ⟨by rw [h2]; exact h.1, by rw [h1]; exact h.2⟩
          · exact h
        · split
          · unfold St.flush
            split
            · have := allDown_stands (S := S.step) (b := b) (l := l) ⟨by rw [step_med]; exact h.1, by rw [step_cache]; exact h.2⟩ (fun k => (S.cache k).length) (by
                show (S.cache b).length = 0
                rw [h.2]; rfl)
              exact ⟨this.1, this.2⟩
            · exact ⟨by rw [step_med]; exact h.1, by rw [step_cache]; exact h.2⟩
          · split
            · rename_i e2 e3 e4 e5 e
              rw [if_pos (.inr (.inr e))] at ht
              have hx := of_decide_eq_false ht
              unfold St.spoil
              split
              · refine ⟨?_, h.2⟩
                show updF S.med _ _ b = _
                rw [updF_other _ _ (by omega)]
                exact h.1
              · exact h
            · split
              · exact h
              · split
                · exact crash_stands h o.dl
                · exact h
theorem through_stands {S : St} (h : S.calm) {k : Nat} (hk : k < S.nb) {l : List Nat} (hn : l.length = S.sz) : (S.through k l).stands k l := by
  rw [calm_through h hk hn]
  exact ⟨updF_same _ _ _, updF_same _ _ _⟩
theorem stands_dur {S : St} {b : Nat} {l : List Nat} (h : S.stands b l) (hb : b < S.nb) : S.durErr b = 0 := by
  unfold St.durErr
  rw [if_neg (by omega), Int.toNat_natCast, h.1]
  simp
theorem stands_read {S : St} {b : Nat} {l : List Nat} (h : S.stands b l) (hb : b < S.nb) (ho : S.off = false) : S.readErr b = 0 ∧ S.val b = some l := by
  have hv : S.val b = some l := by rw [val_eq, h.2]; exact h.1
  refine ⟨?_, hv⟩
  unfold St.readErr
  rw [if_neg (by omega), if_neg (by rw [ho]; simp), Int.toNat_natCast, hv]
  simp

set_option maxHeartbeats 400000 in
theorem touches_any (w : World) (o : OpV) (b : Nat) :
    Calls Try.prog 15 #[o.val, .int .i64 (b : Int)] w fun e w' => e = .returned (.bool (o.touches b)) ∧ Below w.heap.size w w' := by
  have hb : Below w.heap.size w (w.alloc o.box) := (Below.refl _ _).alloc (Nat.le_refl _) _
  unfold OpV.box at hb
  unfold OpV.val
  by_cases h2 : o.kind = 2
  · have e : o.touches b = decide (o.block = (b : Int)) := by unfold OpV.touches; rw [if_pos (.inl h2)]
    rw [e, h2]
    rw [h2] at hb
    go_enter Try.func15, Try.ntmps15
    go_wp2
    go_ret
    exact ⟨by first | rfl | simp [beq_eq_decide], hb⟩
  by_cases h3 : o.kind = 3
  · have e : o.touches b = decide (o.block = (b : Int)) := by unfold OpV.touches; rw [if_pos (.inr (.inl h3))]
    rw [e, h3]
    rw [h3] at hb
    go_enter Try.func15, Try.ntmps15
    go_wp2
    go_ret
    exact ⟨by first | rfl | simp [beq_eq_decide], hb⟩
  by_cases h10 : o.kind = 10
  · have e : o.touches b = decide (o.block = (b : Int)) := by unfold OpV.touches; rw [if_pos (.inr (.inr h10))]
    rw [e, h10]
    rw [h10] at hb
    go_enter Try.func15, Try.ntmps15
    go_wp2
    go_ret
    exact ⟨by first | rfl | simp [beq_eq_decide], hb⟩
  by_cases h4 : o.kind = 4
  · have e : o.touches b = decide (o.block ≤ (b : Int)) := by unfold OpV.touches; rw [if_neg (by omega), if_pos h4]
    rw [e, h4]
    rw [h4] at hb
    go_enter Try.func15, Try.ntmps15
    go_wp2
    go_ret
    exact ⟨by first | rfl | simp [beq_eq_decide], hb⟩
  have e : o.touches b = false := by unfold OpV.touches; rw [if_neg (by omega), if_neg h4]
  rw [e]
  go_enter Try.func15, Try.ntmps15
  go_wp2
  go_ret
  exact ⟨rfl, hb⟩
end Go.Proofs.Ytlpmpicmpklaoaa
