import Derived.Test.YtglajdmkbckjjabBSetR2
import Derived.Test.YtglajdmkbckjjabBSetR3
import Derived.Test.YtglajdmkbckjjabBSetR4
namespace Go.Proofs.Ytglajdmkbckjjab
open Go.RowKit Go.Shelf
attribute [local go_sem] Oper.semAt_some
set_option linter.unusedVariables false
set_option linter.unusedSimpArgs false
set_option maxRecDepth 20000

theorem Chg.lift {U : Nat → Prop} {w w' : World} (h : Below w.heap.size w w') : Chg U w w' := Chg.ofBelow h
theorem rgErr_one {n : Nat} {i : Int} : rgErr n i 1 = if 0 ≤ i ∧ i < n then 0 else 2 := by
  unfold rgErr
  rw [if_neg (by omega)]
  by_cases h : 0 ≤ i ∧ i < n
  · rw [if_neg (by omega), if_pos h]
  · rw [if_pos (by omega), if_neg h]
theorem cnt_one (f : Nat → Bool) : cnt f 1 = (f 0).toNat := by simp [cnt]

theorem SetRange_no {w : World} {L : BL} {n B : Nat} (h : BRep w L n B) (a c : Int) (he : rgErr n a c ≠ 0) :
    Calls Try.prog 27 #[PB L, .int .i64 a, .int .i64 c] w fun e w' => e = .returned (.tuple #[.int .i64 0, .int .i64 ((rgErr n a c : Nat) : Int)]) ∧ Below w.heap.size w w' := by
  refine (callsIn_wide (n := 5)).1 ?_
  have hck := checkRange_any (h.below ((Below.refl _ _).alloc (Nat.le_refl _) (.cells #[PB L] 39))) a c
  have HCK := hide hck
  have hne : (((rgErr n a c : Nat) : Int) != 0) = true := by simpa using he
  clear hck he h
  generalize rgErr n a c = r at *
  unfold PB at *
  refine callsIn_of_wp_marks Try.func27 rfl trivial ?_ rfl
  simp only [Try.ntmps27, List.size_toArray, List.length_cons, List.length_nil, Nat.reduceAdd, Nat.reduceSub, Array.replicate_succ, Array.replicate_zero, List.push_toArray, List.append_toArray, List.nil_append, List.cons_append]
  gi_wp2_with ((refine ⟨trivial, ?_⟩; gi_at_call 32; refine (callsIn_wide.2 HCK.out).mono ?_; rintro e w' ⟨rfl, rfl⟩))
  refine ⟨_, results_tmp2 rfl _ _ _, rfl, ?_⟩
  exact (Below.refl _ _).alloc (Nat.le_refl _) _

end Go.Proofs.Ytglajdmkbckjjab
