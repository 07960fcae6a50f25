import Derived.Test.YtnjlbkbhlcccmaaDoorBSetR2
import Derived.Test.YtnjlbkbhlcccmaaDoorBSetR3
import Derived.Test.YtnjlbkbhlcccmaaDoorBSetR4
namespace Go.Proofs.YtnjlbkbhlcccmaaDoor
open Go.RowKit Go.Shelf
attribute [local go_sem] Oper.semAt_some
set_option linter.unusedVariables false
set_option linter.unusedSimpArgs false
set_option maxRecDepth 20000

theorem Chg.lift {U : Nat → Prop} {w w' : World} (h : Below w.heap.size w w') : Chg U w w' := Chg.ofBelow h
theorem rgErr_one {n : Nat} {i : Int} : rgErr n i 1 = if 0 ≤ i ∧ i < n then 0 else 2 := by
  unfold rgErr
  rw [if_neg (by omega)]
  by_cases h : 0 ≤ i ∧ i < n
  · rw [if_neg (by omega), if_pos h]
  · rw [if_pos (by omega), if_neg h]
theorem cnt_one (f : Nat → Bool) : cnt f 1 = (f 0).toNat := by simp [cnt]

theorem SetRange_no {w : World} {L : BL} {n B : Nat} (h : BRep w L n B) (a c : Int) (he : rgErr n a c ≠ 0) :
    Calls Tryd.prog 37 #[PB L, .int .i64 a, .int .i64 c] w fun e w' => e = .returned (.tuple #[.int .i64 0, .int .i64 ((rgErr n a c : Nat) : Int)]) ∧ Below w.heap.size w w' := by
  refine (callsIn_wide (n := 5)).1 ?_
  have hck := checkRange_any (h.below ((Below.refl _ _).alloc (Nat.le_refl _) (.cells #[PB L] 33))) a c
  have HCK := hide hck
  have hne : (((rgErr n a c : Nat) : Int) != 0) = true := by simpa using he
  clear hck he h
  generalize rgErr n a c = r at *
  unfold PB at *
  refine callsIn_of_wp_marks Tryd.func37 rfl trivial ?_ rfl
  simp only [Tryd.ntmps37, List.size_toArray, List.length_cons, List.length_nil, Nat.reduceAdd, Nat.reduceSub, Array.replicate_succ, Array.replicate_zero, List.push_toArray, List.append_toArray, List.nil_append, List.cons_append]
  gi_wp2_with ((refine ⟨trivial, ?_⟩; gi_at_call 60; refine (callsIn_wide.2 HCK.out).mono ?_; rintro e w' ⟨rfl, rfl⟩))
  refine ⟨_, results_tmp2 rfl _ _ _, rfl, ?_⟩
  exact (Below.refl _ _).alloc (Nat.le_refl _) _

theorem ClearRange_no {w : World} {L : BL} {n B : Nat} (h : BRep w L n B) (a c : Int) (he : rgErr n a c ≠ 0) :
    Calls Tryd.prog 39 #[PB L, .int .i64 a, .int .i64 c] w fun e w' => e = .returned (.tuple #[.int .i64 0, .int .i64 ((rgErr n a c : Nat) : Int)]) ∧ Below w.heap.size w w' := by
  refine (callsIn_wide (n := 5)).1 ?_
  have hck := checkRange_any (h.below ((Below.refl _ _).alloc (Nat.le_refl _) (.cells #[PB L] 33))) a c
  have HCK := hide hck
  have hne : (((rgErr n a c : Nat) : Int) != 0) = true := by simpa using he
  clear hck he h
  generalize rgErr n a c = r at *
  unfold PB at *
  refine callsIn_of_wp_marks Tryd.func39 rfl trivial ?_ rfl
  simp only [Tryd.ntmps39, List.size_toArray, List.length_cons, List.length_nil, Nat.reduceAdd, Nat.reduceSub, Array.replicate_succ, Array.replicate_zero, List.push_toArray, List.append_toArray, List.nil_append, List.cons_append]
  gi_wp2_with ((refine ⟨trivial, ?_⟩; gi_at_call 60; refine (callsIn_wide.2 HCK.out).mono ?_; rintro e w' ⟨rfl, rfl⟩))
  refine ⟨_, results_tmp2 rfl _ _ _, rfl, ?_⟩
  exact (Below.refl _ _).alloc (Nat.le_refl _) _

theorem CountRange_no {w : World} {L : BL} {n B : Nat} (h : BRep w L n B) (a c : Int) (he : rgErr n a c ≠ 0) :
    Calls Tryd.prog 45 #[PB L, .int .i64 a, .int .i64 c] w fun e w' => e = .returned (.tuple #[.int .i64 0, .int .i64 ((rgErr n a c : Nat) : Int)]) ∧ Below w.heap.size w w' := by
  refine (callsIn_wide (n := 5)).1 ?_
  have hck := checkRange_any (h.below ((Below.refl _ _).alloc (Nat.le_refl _) (.cells #[PB L] 33))) a c
  have HCK := hide hck
  have hne : (((rgErr n a c : Nat) : Int) != 0) = true := by simpa using he
  clear hck he h
  generalize rgErr n a c = r at *
  unfold PB at *
  refine callsIn_of_wp_marks Tryd.func45 rfl trivial ?_ rfl
  simp only [Tryd.ntmps45, List.size_toArray, List.length_cons, List.length_nil, Nat.reduceAdd, Nat.reduceSub, Array.replicate_succ, Array.replicate_zero, List.push_toArray, List.append_toArray, List.nil_append, List.cons_append]
  gi_wp2_with ((refine ⟨trivial, ?_⟩; gi_at_call 60; refine (callsIn_wide.2 HCK.out).mono ?_; rintro e w' ⟨rfl, rfl⟩))
  refine ⟨_, results_tmp2 rfl _ _ _, rfl, ?_⟩
  exact (Below.refl _ _).alloc (Nat.le_refl _) _

theorem Set_any {w : World} {L : BL} {n B i : Nat} (h : BRep w L n B) (hi : i < n) :
    Calls Tryd.prog 34 #[PB L, .int .i64 (i : Int)] w fun e w' => e = .returned (.tuple #[.bool (!B.testBit i), .int .i64 0]) ∧ BRep w' L n (setR B i (i + 1)) ∧ Chg L.U w w' := by
  have hc := SetRange_any (a := i) (c := 1) h (by omega)
  rw [cnt_one] at hc
  simp only [Nat.add_zero] at hc
  have HC : Hid (Calls Tryd.prog 37 #[PB L, .int .i64 (i : Int), .int .i64 1] w fun e w' => e = .returned (.tuple #[.int .i64 (((!B.testBit i).toNat : Nat) : Int), .int .i64 0]) ∧ BRep w' L n (setR B i (i + 1)) ∧ Chg L.U w w') := hide hc
  clear hc h
  cases hb : !B.testBit i
  all_goals
    rw [hb] at HC
    clear hb
    unfold PB at *
    go_enter Tryd.func34, Tryd.ntmps34
    go_wp2_with (go_at_call 37; refine HC.out.mono ?_; rintro e w' ⟨rfl, hp⟩; have HP := hide hp; clear hp; simp only [Bool.toNat_false, Bool.toNat_true, Int.natCast_zero, Int.natCast_one])
    go_ret2
    exact ⟨rfl, HP.out⟩
theorem Set_no {w : World} {L : BL} {n B : Nat} (h : BRep w L n B) (i : Int) (hi : ¬ (0 ≤ i ∧ i < n)) :
    Calls Tryd.prog 34 #[PB L, .int .i64 i] w fun e w' => e = .returned (.tuple #[.bool false, .int .i64 2]) ∧ Below w.heap.size w w' := by
  have er : rgErr n i 1 = 2 := by rw [rgErr_one, if_neg hi]
  have hc := SetRange_no h i 1 (by rw [er]; decide)
  rw [er] at hc
  have HC := hide hc
  clear hc h er hi
  unfold PB at *
  go_enter Tryd.func34, Tryd.ntmps34
  go_wp2_with (go_at_call 37; refine HC.out.mono ?_; rintro e w' ⟨rfl, hp⟩; have HP := hide hp; clear hp; simp only [Int.cast_ofNat_Int])
  go_ret2
  exact ⟨rfl, HP.out⟩

theorem Clear_any {w : World} {L : BL} {n B i : Nat} (h : BRep w L n B) (hi : i < n) :
    Calls Tryd.prog 36 #[PB L, .int .i64 (i : Int)] w fun e w' => e = .returned (.tuple #[.bool (B.testBit i), .int .i64 0]) ∧ BRep w' L n (clrR B i (i + 1)) ∧ Chg L.U w w' := by
  have hc := ClearRange_any (a := i) (c := 1) h (by omega)
  rw [cnt_one] at hc
  simp only [Nat.add_zero] at hc
  have HC : Hid (Calls Tryd.prog 39 #[PB L, .int .i64 (i : Int), .int .i64 1] w fun e w' => e = .returned (.tuple #[.int .i64 (((B.testBit i).toNat : Nat) : Int), .int .i64 0]) ∧ BRep w' L n (clrR B i (i + 1)) ∧ Chg L.U w w') := hide hc
  clear hc h
  cases hb : B.testBit i
  all_goals
    rw [hb] at HC
    clear hb
    unfold PB at *
    go_enter Tryd.func36, Tryd.ntmps36
    go_wp2_with (go_at_call 39; refine HC.out.mono ?_; rintro e w' ⟨rfl, hp⟩; have HP := hide hp; clear hp; simp only [Bool.toNat_false, Bool.toNat_true, Int.natCast_zero, Int.natCast_one])
    go_ret2
    exact ⟨rfl, HP.out⟩
theorem Clear_no {w : World} {L : BL} {n B : Nat} (h : BRep w L n B) (i : Int) (hi : ¬ (0 ≤ i ∧ i < n)) :
    Calls Tryd.prog 36 #[PB L, .int .i64 i] w fun e w' => e = .returned (.tuple #[.bool false, .int .i64 2]) ∧ Below w.heap.size w w' := by
  have er : rgErr n i 1 = 2 := by rw [rgErr_one, if_neg hi]
  have hc := ClearRange_no h i 1 (by rw [er]; decide)
  rw [er] at hc
  have HC := hide hc
  clear hc h er hi
  unfold PB at *
  go_enter Tryd.func36, Tryd.ntmps36
  go_wp2_with (go_at_call 39; refine HC.out.mono ?_; rintro e w' ⟨rfl, hp⟩; have HP := hide hp; clear hp; simp only [Int.cast_ofNat_Int])
  go_ret2
  exact ⟨rfl, HP.out⟩

theorem Test_any {w : World} {L : BL} {n B i : Nat} (h : BRep w L n B) (hi : i < n) :
    Calls Tryd.prog 41 #[PB L, .int .i64 (i : Int)] w fun e w' => e = .returned (.tuple #[.bool (B.testBit i), .int .i64 0]) ∧ Below w.heap.size w w' := by
  have hc := CountRange_any (a := i) (c := 1) h (by omega)
  rw [cnt_one] at hc
  simp only [Nat.add_zero] at hc
  have HC : Hid (Calls Tryd.prog 45 #[PB L, .int .i64 (i : Int), .int .i64 1] w fun e w' => e = .returned (.tuple #[.int .i64 (((B.testBit i).toNat : Nat) : Int), .int .i64 0]) ∧ Below w.heap.size w w') := hide hc
  clear hc h
  cases hb : B.testBit i
  all_goals
    rw [hb] at HC
    clear hb
    unfold PB at *
    go_enter Tryd.func41, Tryd.ntmps41
    go_wp2_with (go_at_call 45; refine HC.out.mono ?_; rintro e w' ⟨rfl, hp⟩; have HP := hide hp; clear hp; simp only [Bool.toNat_false, Bool.toNat_true, Int.natCast_zero, Int.natCast_one])
    go_ret2
    exact ⟨rfl, HP.out⟩
theorem Test_no {w : World} {L : BL} {n B : Nat} (h : BRep w L n B) (i : Int) (hi : ¬ (0 ≤ i ∧ i < n)) :
    Calls Tryd.prog 41 #[PB L, .int .i64 i] w fun e w' => e = .returned (.tuple #[.bool false, .int .i64 2]) ∧ Below w.heap.size w w' := by
  have er : rgErr n i 1 = 2 := by rw [rgErr_one, if_neg hi]
  have hc := CountRange_no h i 1 (by rw [er]; decide)
  rw [er] at hc
  have HC := hide hc
  clear hc h er hi
  unfold PB at *
  go_enter Tryd.func41, Tryd.ntmps41
  go_wp2_with (go_at_call 45; refine HC.out.mono ?_; rintro e w' ⟨rfl, hp⟩; have HP := hide hp; clear hp; simp only [Int.cast_ofNat_Int])
  go_ret2
  exact ⟨rfl, HP.out⟩
end Go.Proofs.YtnjlbkbhlcccmaaDoor
