import Derived.Test.YtglajdmkbckjjaaDoorBLevels2
namespace Go.Proofs.YtglajdmkbckjjaaDoor
open Go.RowKit Go.Shelf
set_option linter.unusedVariables false
set_option linter.unusedSimpArgs false
set_option maxRecDepth 20000

/-- a count of a range, in any world behind w -/
theorem count_in {w : World} {L : BL} {n B : Nat} (h : BRep w L n B) {a c k : Nat} (hac : a + c ≤ n) (hk : cnt (fun j => B.testBit (a + j)) c = k) {C K : Int} (hC : C = (c : Int)) (hK : K = (k : Int)) :
    ∀ W, Below w.heap.size w W → Calls Tryd.prog 12 #[PB L, .int .i64 (a : Int), .int .i64 C] W fun e w' => e = .returned (.tuple #[.int .i64 K, .int .i64 0]) ∧ Below w.heap.size w w' := by
  intro W hb
  subst hC hK
  have := CountRange_any (h.below hb) hac
  rw [hk] at this
  exact this.mono fun e w' hp => ⟨hp.1, hb.trans (hp.2.mono hb.size)⟩
theorem nx_facts {B n a i : Nat} (h : nx B n a = some i) (ha : a ≤ n) : a ≤ i ∧ i < n ∧ B.testBit i = true ∧ ∀ j, a ≤ j → j < i → B.testBit j = false := by
  obtain ⟨h1, h2, h3, h4⟩ := fnd_is _ _ _ h
  exact ⟨h1, by omega, h3, h4⟩
theorem nc_facts {B n a i : Nat} (h : nc B n a = some i) (ha : a ≤ n) : a ≤ i ∧ i < n ∧ B.testBit i = false ∧ ∀ j, a ≤ j → j < i → B.testBit j = true := by
  obtain ⟨h1, h2, h3, h4⟩ := fnd_is _ _ _ h
  exact ⟨h1, by omega, by simpa using h3, fun j hj hj' => by simpa using h4 j hj hj'⟩
theorem nx_no {B n a : Nat} (h : nx B n a = none) : ∀ j, a ≤ j → j < n → B.testBit j = false := fun j h1 h2 => fnd_isNone _ _ h j h1 (by omega)
theorem nc_no {B n a : Nat} (h : nc B n a = none) : ∀ j, a ≤ j → j < n → B.testBit j = true := fun j h1 h2 => by simpa using fnd_isNone _ _ h j h1 (by omega)

set_option maxHeartbeats 1000000 in
theorem ends_any {w : World} {L : BL} {n B a : Nat} (h : BRep w L n B) (hT : TabAt w) (ha : a < n) :
    Calls Tryd.prog 34 #[PB L, .int .i64 (n : Int), .int .i64 (a : Int)] w fun e w' => e = .returned (.bool true) ∧ Below w.heap.size w w' := by
  have hn := h.n2
  have hN := Next_any h hT (a : Int)
  have hC : ∀ W, Below w.heap.size w W → Calls Tryd.prog 33 #[PB L, .int .i64 (a : Int)] W fun e w' => e = .returned (.int .i64 (orN (nc B n a))) ∧ w' = W := fun W hb => by
    have := NextClear_any (h.below hb) (hT.below hb) (a : Int)
    rwa [Int.toNat_natCast] at this
  rw [Int.toNat_natCast] at hN
  have hb0 : Below w.heap.size w w := Below.refl _ _
  have case_none_none : (nx B n a).isSome = false → (nc B n a).isSome = false →
    Calls Tryd.prog 34 #[PB L, .int .i64 (n : Int), .int .i64 (a : Int)] w fun e w' => e = .returned (.bool true) ∧ Below w.heap.size w w' := fun e1 e2 => by
    have hi : nx B n a = none := by cases hh : nx B n a with | none => rfl | some _ => rw [hh] at e1; cases e1
    rw [hi] at hN
    have c1 := count_in h (a := a) (c := n - a) (k := 0) (by omega) (cnt_zero _ fun j hj => nx_no hi _ (by omega) (by omega)) (C := (n : Int) - (a : Int)) (K := 0) (by omega) rfl
    have hk : nc B n a = none := by cases hh : nc B n a with | none => rfl | some _ => rw [hh] at e2; cases e2
    rw [hk] at hC
    have c3 := count_in h (a := a) (c := n - a) (k := n - a) (by omega) (cnt_full _ fun j hj => nc_no hk _ (by omega) (by omega)) (C := (n : Int) - (a : Int)) (K := (n : Int) - (a : Int)) (by omega) (by omega)
    have Hc1 := hide c1
    have Hc3 := hide c3
    have HN := hide hN
    have HC := hide hC
    simp only [orN] at HN HC
    clear c1 c3 hN hC h hT e1 e2 hi hk
    unfold PB at *
    go_enter Tryd.func34, Tryd.ntmps34
    go_wp2_with (first
      | (go_at_call 31; refine HN.out.mono ?_; rintro e w ⟨rfl, rfl⟩)
      | (go_at_call 33; refine (HC.out _ (by assumption)).mono ?_; rintro e w' ⟨rfl, rfl⟩)
      | (go_at_call 13; refine (num_any _ _).mono ?_; rintro e w' ⟨rfl, rfl⟩)
      | (go_at_call 12; refine (Hc1.out _ (by assumption)).mono ?_; clear Hc1; rintro e w1 ⟨rfl, hb1⟩)
      | (go_at_call 12; refine (Hc3.out _ (by assumption)).mono ?_; clear Hc3; rintro e w1 ⟨rfl, hb1⟩))
    go_ret
    first | exact ⟨rfl, by assumption⟩ | exact ⟨by simp, by assumption⟩
  have case_none_some : (nx B n a).isSome = false → (nc B n a).isSome = true →
    Calls Tryd.prog 34 #[PB L, .int .i64 (n : Int), .int .i64 (a : Int)] w fun e w' => e = .returned (.bool true) ∧ Below w.heap.size w w' := fun e1 e2 => by
    have hi : nx B n a = none := by cases hh : nx B n a with | none => rfl | some _ => rw [hh] at e1; cases e1
    rw [hi] at hN
    have c1 := count_in h (a := a) (c := n - a) (k := 0) (by omega) (cnt_zero _ fun j hj => nx_no hi _ (by omega) (by omega)) (C := (n : Int) - (a : Int)) (K := 0) (by omega) rfl
    obtain ⟨k, hk⟩ := Option.isSome_iff_exists.1 e2
    obtain ⟨k1, k2, k3, k4⟩ := nc_facts hk (by omega)
    rw [hk] at hC
    have c3 := count_in h (a := a) (c := k - a) (k := k - a) (by omega) (cnt_full _ fun j hj => k4 _ (by omega) (by omega)) (C := (k : Int) - (a : Int)) (K := (k : Int) - (a : Int)) (by omega) (by omega)
    have c4 := count_in h (a := k) (c := 1) (k := 0) (by omega) (by rw [cnt_one]; simp [k3]) (C := 1) (K := 0) rfl rfl
    have Hc1 := hide c1
    have Hc3 := hide c3
    have Hc4 := hide c4
    have HN := hide hN
    have HC := hide hC
    simp only [orN] at HN HC
    clear c1 c3 c4 hN hC h hT e1 e2 hi hk k3 k4
    unfold PB at *
    go_enter Tryd.func34, Tryd.ntmps34
    go_wp2_with (first
      | (go_at_call 31; refine HN.out.mono ?_; rintro e w ⟨rfl, rfl⟩)
      | (go_at_call 33; refine (HC.out _ (by assumption)).mono ?_; rintro e w' ⟨rfl, rfl⟩)
      | (go_at_call 13; refine (num_any _ _).mono ?_; rintro e w' ⟨rfl, rfl⟩)
      | (go_at_call 12; refine (Hc1.out _ (by assumption)).mono ?_; clear Hc1; rintro e w1 ⟨rfl, hb1⟩)
      | (go_at_call 12; refine (Hc3.out _ (by assumption)).mono ?_; clear Hc3; rintro e w1 ⟨rfl, hb1⟩)
      | (go_at_call 12; refine (Hc4.out _ (by assumption)).mono ?_; clear Hc4; rintro e w1 ⟨rfl, hb1⟩))
    go_ret
    first | exact ⟨rfl, by assumption⟩ | exact ⟨by simp, by assumption⟩
  have case_some_none : (nx B n a).isSome = true → (nc B n a).isSome = false →
    Calls Tryd.prog 34 #[PB L, .int .i64 (n : Int), .int .i64 (a : Int)] w fun e w' => e = .returned (.bool true) ∧ Below w.heap.size w w' := fun e1 e2 => by
    obtain ⟨i, hi⟩ := Option.isSome_iff_exists.1 e1
    obtain ⟨i1, i2, i3, i4⟩ := nx_facts hi (by omega)
    rw [hi] at hN
    have c1 := count_in h (a := a) (c := i - a) (k := 0) (by omega) (cnt_zero _ fun j hj => i4 _ (by omega) (by omega)) (C := (i : Int) - (a : Int)) (K := 0) (by omega) rfl
    have c2 := count_in h (a := i) (c := 1) (k := 1) (by omega) (by rw [cnt_one]; simp [i3]) (C := 1) (K := 1) rfl rfl
    have hk : nc B n a = none := by cases hh : nc B n a with | none => rfl | some _ => rw [hh] at e2; cases e2
    rw [hk] at hC
    have c3 := count_in h (a := a) (c := n - a) (k := n - a) (by omega) (cnt_full _ fun j hj => nc_no hk _ (by omega) (by omega)) (C := (n : Int) - (a : Int)) (K := (n : Int) - (a : Int)) (by omega) (by omega)
    have Hc1 := hide c1
    have Hc2 := hide c2
    have Hc3 := hide c3
    have HN := hide hN
    have HC := hide hC
    simp only [orN] at HN HC
    clear c1 c2 c3 hN hC h hT e1 e2 hi i3 i4 hk
    unfold PB at *
    go_enter Tryd.func34, Tryd.ntmps34
    go_wp2_with (first
      | (go_at_call 31; refine HN.out.mono ?_; rintro e w ⟨rfl, rfl⟩)
      | (go_at_call 33; refine (HC.out _ (by assumption)).mono ?_; rintro e w' ⟨rfl, rfl⟩)
      | (go_at_call 13; refine (num_any _ _).mono ?_; rintro e w' ⟨rfl, rfl⟩)
      | (go_at_call 12; refine (Hc1.out _ (by assumption)).mono ?_; clear Hc1; rintro e w1 ⟨rfl, hb1⟩)
      | (go_at_call 12; refine (Hc2.out _ (by assumption)).mono ?_; clear Hc2; rintro e w1 ⟨rfl, hb1⟩)
      | (go_at_call 12; refine (Hc3.out _ (by assumption)).mono ?_; clear Hc3; rintro e w1 ⟨rfl, hb1⟩))
    go_ret
    first | exact ⟨rfl, by assumption⟩ | exact ⟨by simp, by assumption⟩
  have case_some_some : (nx B n a).isSome = true → (nc B n a).isSome = true →
    Calls Tryd.prog 34 #[PB L, .int .i64 (n : Int), .int .i64 (a : Int)] w fun e w' => e = .returned (.bool true) ∧ Below w.heap.size w w' := fun e1 e2 => by
    obtain ⟨i, hi⟩ := Option.isSome_iff_exists.1 e1
    obtain ⟨i1, i2, i3, i4⟩ := nx_facts hi (by omega)
    rw [hi] at hN
    have c1 := count_in h (a := a) (c := i - a) (k := 0) (by omega) (cnt_zero _ fun j hj => i4 _ (by omega) (by omega)) (C := (i : Int) - (a : Int)) (K := 0) (by omega) rfl
    have c2 := count_in h (a := i) (c := 1) (k := 1) (by omega) (by rw [cnt_one]; simp [i3]) (C := 1) (K := 1) rfl rfl
    obtain ⟨k, hk⟩ := Option.isSome_iff_exists.1 e2
    obtain ⟨k1, k2, k3, k4⟩ := nc_facts hk (by omega)
    rw [hk] at hC
    have c3 := count_in h (a := a) (c := k - a) (k := k - a) (by omega) (cnt_full _ fun j hj => k4 _ (by omega) (by omega)) (C := (k : Int) - (a : Int)) (K := (k : Int) - (a : Int)) (by omega) (by omega)
    have c4 := count_in h (a := k) (c := 1) (k := 0) (by omega) (by rw [cnt_one]; simp [k3]) (C := 1) (K := 0) rfl rfl
    have Hc1 := hide c1
    have Hc2 := hide c2
    have Hc3 := hide c3
    have Hc4 := hide c4
    have HN := hide hN
    have HC := hide hC
    simp only [orN] at HN HC
    clear c1 c2 c3 c4 hN hC h hT e1 e2 hi i3 i4 hk k3 k4
    unfold PB at *
    go_enter Tryd.func34, Tryd.ntmps34
    go_wp2_with (first
      | (go_at_call 31; refine HN.out.mono ?_; rintro e w ⟨rfl, rfl⟩)
      | (go_at_call 33; refine (HC.out _ (by assumption)).mono ?_; rintro e w' ⟨rfl, rfl⟩)
      | (go_at_call 13; refine (num_any _ _).mono ?_; rintro e w' ⟨rfl, rfl⟩)
      | (go_at_call 12; refine (Hc1.out _ (by assumption)).mono ?_; clear Hc1; rintro e w1 ⟨rfl, hb1⟩)
      | (go_at_call 12; refine (Hc2.out _ (by assumption)).mono ?_; clear Hc2; rintro e w1 ⟨rfl, hb1⟩)
      | (go_at_call 12; refine (Hc3.out _ (by assumption)).mono ?_; clear Hc3; rintro e w1 ⟨rfl, hb1⟩)
      | (go_at_call 12; refine (Hc4.out _ (by assumption)).mono ?_; clear Hc4; rintro e w1 ⟨rfl, hb1⟩))
    go_ret
    first | exact ⟨rfl, by assumption⟩ | exact ⟨by simp, by assumption⟩
  cases e1 : (nx B n a).isSome <;> cases e2 : (nc B n a).isSome
  · exact case_none_none e1 e2
  · exact case_none_some e1 e2
  · exact case_some_none e1 e2
  · exact case_some_some e1 e2
end Go.Proofs.YtglajdmkbckjjaaDoor
