import Derived.Test.YtophcdfaflehcaaWPc
namespace Go.Proofs.Ytophcdfaflehcaa
open Go.RowKit
set_option linter.unusedVariables false
set_option linter.unusedSimpArgs false
set_option maxRecDepth 20000

/-- the bucket in a law's run -/
structure PSt (w wr : World) (p : Nat) (r b t : Int) : Prop where
  row : wr.heap[p]? = some (.cells (pRow r b t) 38 (0, 0))
  bel : Below w.heap.size w wr
  np : w.heap.size ≤ p
  t0 : 0 ≤ t
  tb : t ≤ b
theorem PSt.chg {w wr wr' : World} {p : Nat} {r b t t' : Int} (h : PSt w wr p r b t) (hr : wr'.heap[p]? = some (.cells (pRow r b t') 38 (0, 0))) (hc : Chg (fun k => k = p) wr wr') (h0 : 0 ≤ t') (h1 : t' ≤ b) : PSt w wr' p r b t' :=
  ⟨hr, h.bel.trans (hc.below h.bel.size fun b hb => by have := h.np; omega), h.np, h0, h1⟩
theorem wrap_small {z : Int} (h0 : -9223372036854775808 ≤ z) (h1 : z ≤ 9223372036854775807) : IntKind.i64.wrap z = z := by
  rw [IntKind.wrap_i64]; omega
theorem prod_small {k r : Int} (h0 : 0 ≤ k) (h1 : k ≤ 100) (h2 : 0 ≤ r) (h3 : r ≤ 1024) : 0 ≤ k * r ∧ k * r ≤ 102400 :=
  ⟨Int.mul_nonneg h0 h2, by
    have := Int.mul_le_mul h1 h3 h2 (by decide)
    omega⟩
theorem prod_le {k l r : Int} (h0 : 0 ≤ k) (h : l ≤ r) : k * l ≤ k * r := Int.mul_le_mul_of_nonneg_left h h0

set_option maxHeartbeats 2000000 in
theorem fair_law (w : World) (r b n : Int) : Calls Try.prog 3 #[.int .i64 r, .int .i64 b, .int .i64 n] w fun e w' => e = .returned (.bool true) ∧ Below w.heap.size w w' := by
  by_cases h : okP r b
  · have HN := hide fun w => newPace_yes w r b h
    have HST : Hid (PSt w (w.alloc (.cells (pRow r b b) 38)) w.heap.size r b b) := hide ⟨Go.heap_alloc_new w _, (Below.refl _ _).alloc (Nat.le_refl _) _, Nat.le_refl _, by have := h.2.2.1; omega, Int.le_refl _⟩
    obtain ⟨h1, h2, h3, h4⟩ := h
    have HLV : Hid (∀ wr t, PSt w wr w.heap.size r b t → Calls Try.prog 7 #[PV w.heap.size] wr fun e w' => e = .returned (.int .i64 t) ∧ w' = wr) := hide fun wr t h => level_any h.row
    have HTK : Hid (∀ wr t, PSt w wr w.heap.size r b t → 1 ≤ t → Calls Try.prog 8 #[PV w.heap.size, .int .i64 1] wr fun e w' => e = .returned (.bool true) ∧ PSt w w' w.heap.size r b (t - 1)) := hide fun wr t h h1 => (take_yes 1 h.row ⟨h.t0, by have := h.tb; omega⟩ (by decide) h1).mono fun e w' hh => ⟨hh.1, h.chg hh.2.1 hh.2.2 (by omega) (by have := h.tb; omega)⟩
    have HTN : Hid (∀ wr, PSt w wr w.heap.size r b 0 → Calls Try.prog 8 #[PV w.heap.size, .int .i64 1] wr fun e w' => e = .returned (.bool false) ∧ w' = wr) := hide fun wr h => take_no 1 h.row (.inr (by decide))
    have HTI : Hid (∀ wr, PSt w wr w.heap.size r b 0 → Calls Try.prog 9 #[PV w.heap.size] wr fun e w' => e = .returned (.tuple #[]) ∧ PSt w w' w.heap.size r b (tck r b 0)) := hide fun wr h => (tick_any h.row ⟨h1, h2⟩ ⟨h3, h4⟩ ⟨by decide, by decide⟩).mono fun e w' hh => ⟨hh.1, h.chg hh.2.1 hh.2.2 (tck_le (by decide) h1 (by omega)).1 (tck_le (by decide) h1 (by omega)).2⟩
    unfold PV at *
    by_cases hlo : b < r
    · have HTC : Hid (tck r b 0 = b) := hide (by unfold tck; split <;> omega)
      go_enter Try.func3, Try.ntmps3
      go_wp2_with (first
        | (go_at_call 5; refine (HN.out _).mono ?_; rintro e w' ⟨rfl, rfl⟩; clear HN)
        | (go_at_call 7; refine (HLV.out _ _ HST.out).mono ?_; rintro e w' ⟨rfl, rfl⟩)
        | (go_at_call 6; refine (num_any _ _).mono ?_; rintro e w' ⟨rfl, rfl⟩))
      generalize w.alloc (.cells (pRow r b b) 38) = w0 at *
      generalize w.heap.size = p at *
      go_loopw [12, 13] (fun x y wr => ∃ (k : Nat) (T t : Int), x = .int .i64 T ∧ y = .int .i64 (k : Int) ∧ T + t = b + (k : Int) * b ∧ k ≤ 101 ∧ 0 ≤ T ∧ PSt w wr p r b t) (fun _ y _ => 101 - (intOf y).toNat)
      case atStart => exact ⟨0, 0, b, rfl, rfl, by simp, by omega, Int.le_refl _, HST.out⟩
      case round =>
        obtain ⟨k, T, t, rfl, rfl, hTt, hk, hT, hP⟩ := hrel
        have HP := hide hP
        have ht0 := hP.t0
        have htb := hP.tb
        clear hP HST
        by_cases hc : (k : Int) ≤ n ∧ (k : Int) ≤ 100
        · obtain ⟨hc1, hc2⟩ := hc
          have hpr := prod_small (k := (k : Int)) (r := r) (by omega) hc2 (by omega) h2
          have hpl := prod_small (k := (k : Int)) (r := b) (by omega) hc2 (by omega) (by omega)
          have hle := prod_le (k := (k : Int)) (l := b) (r := r) (by omega) (by omega)
          have HSUC : Hid (((k + 1 : Nat) : Int) * b = (k : Int) * b + b) := hide (by rw [Int.natCast_add, Int.add_mul]; simp)
          obtain ⟨KR, hKR⟩ : ∃ KR, (k : Int) * r = KR := ⟨_, rfl⟩
          have hw1 : IntKind.i64.wrap ((k : Int) * r) = KR := by rw [hKR]; exact wrap_small (by omega) (by omega)
          rw [hKR] at hpr hle
          obtain ⟨KL, hKL⟩ : ∃ KL, (k : Int) * b = KL := ⟨_, rfl⟩
          have hw2 : IntKind.i64.wrap ((k : Int) * b) = KL := by rw [hKL]; exact wrap_small (by omega) (by omega)
          rw [hKL] at hpl hle hTt HSUC
          clear hKR hKL
          go_wp2_with (go_at_call 7; refine (HLV.out _ _ HP.out).mono ?_; rintro e w' ⟨rfl, rfl⟩)
          obtain ⟨m, rfl⟩ : ∃ m : Nat, t = (m : Int) := ⟨t.toNat, by omega⟩
          go_loopw [12, 15] (fun x y wr' => ∃ (i m' : Nat), x = .int .i64 (T + i) ∧ y = .int .i64 (i : Int) ∧ i + m' = m ∧ PSt w wr' p r b (m' : Int)) (fun _ y _ => m - (intOf y).toNat)
          case atStart => exact ⟨0, m, by simp, rfl, by omega, HP.out⟩
          case round =>
            obtain ⟨i, m', rfl, rfl, him, hQ⟩ := hrel
            have HQ := hide hQ
            clear hQ HP
            have hi : (i : Int) ≤ 1024 := by omega
            cases m' with
            | zero =>
              have hTi : T + (i : Int) = b + KL := by omega
              have HTI2 := hide hTi
              clear hTi
              generalize hTJ : T + (i : Int) = TJ at *
              have HTJ := hide hTJ
              clear hTJ
              have e1 : ¬ b + KR < TJ := by rw [HTI2.out]; omega
              have e2 : ¬ TJ < b + KL := by rw [HTI2.out]; omega
              go_wp2_with (first
                | (go_at_call 8; refine (HTN.out _ HQ.out).mono ?_; rintro e w' ⟨rfl, rfl⟩)
                | (go_at_call 7; refine (HLV.out _ _ HQ.out).mono ?_; rintro e w' ⟨rfl, rfl⟩)
                | (go_at_call 9; refine (HTI.out _ HQ.out).mono ?_; rintro e w2 ⟨rfl, hQ2⟩; have HQ2 := hide hQ2; clear hQ2))
              go_roundw
              case rel => exact ⟨k + 1, TJ, b, rfl, by go_num, by rw [HTI2.out, HSUC.out]; omega, by omega, by omega, by have := HQ2.out; rw [HTC.out] at this; exact this⟩
              case measure => simp [intOf]; omega
            | succ m' =>
              have HQ1 := hide (HTK.out _ _ HQ.out (by omega))
              go_wp2_with (go_at_call 8; refine HQ1.out.mono ?_; rintro e w2 ⟨rfl, hQ2⟩; have HQ2 := hide hQ2; clear hQ2)
              go_roundw
              case rel => exact ⟨i + 1, m', by go_num, by go_num, by omega, by have := HQ2.out; rwa [show ((m' + 1 : Nat) : Int) - 1 = (m' : Int) by omega] at this⟩
              case measure => simp [intOf]; omega
        · have HC := hide hc
          by_cases hc1 : (k : Int) ≤ n
          · have hc2 : ¬ (k : Int) ≤ 100 := by omega
            clear hc
            go_wp2_with fail
            go_ret
            exact ⟨rfl, HP.out.bel⟩
          · clear hc
            go_wp2_with fail
            go_ret
            exact ⟨rfl, HP.out.bel⟩
    · have HTC : Hid (tck r b 0 = r) := hide (by unfold tck; split <;> omega)
      go_enter Try.func3, Try.ntmps3
      go_wp2_with (first
        | (go_at_call 5; refine (HN.out _).mono ?_; rintro e w' ⟨rfl, rfl⟩; clear HN)
        | (go_at_call 7; refine (HLV.out _ _ HST.out).mono ?_; rintro e w' ⟨rfl, rfl⟩)
        | (go_at_call 6; refine (num_any _ _).mono ?_; rintro e w' ⟨rfl, rfl⟩))
      generalize w.alloc (.cells (pRow r b b) 38) = w0 at *
      generalize w.heap.size = p at *
      go_loopw [12, 13] (fun x y wr => ∃ (k : Nat) (T t : Int), x = .int .i64 T ∧ y = .int .i64 (k : Int) ∧ T + t = b + (k : Int) * r ∧ k ≤ 101 ∧ 0 ≤ T ∧ PSt w wr p r b t) (fun _ y _ => 101 - (intOf y).toNat)
      case atStart => exact ⟨0, 0, b, rfl, rfl, by simp, by omega, Int.le_refl _, HST.out⟩
      case round =>
        obtain ⟨k, T, t, rfl, rfl, hTt, hk, hT, hP⟩ := hrel
        have HP := hide hP
        have ht0 := hP.t0
        have htb := hP.tb
        clear hP HST
        by_cases hc : (k : Int) ≤ n ∧ (k : Int) ≤ 100
        · obtain ⟨hc1, hc2⟩ := hc
          have hpr := prod_small (k := (k : Int)) (r := r) (by omega) hc2 (by omega) h2
          have hpl := prod_small (k := (k : Int)) (r := r) (by omega) hc2 (by omega) (by omega)
          have hle := prod_le (k := (k : Int)) (l := r) (r := r) (by omega) (by omega)
          have HSUC : Hid (((k + 1 : Nat) : Int) * r = (k : Int) * r + r) := hide (by rw [Int.natCast_add, Int.add_mul]; simp)
          obtain ⟨KR, hKR⟩ : ∃ KR, (k : Int) * r = KR := ⟨_, rfl⟩
          have hw1 : IntKind.i64.wrap ((k : Int) * r) = KR := by rw [hKR]; exact wrap_small (by omega) (by omega)
          rw [hKR] at hpr hle
          rw [hKR] at hpl hTt HSUC
          clear hKR
          go_wp2_with (go_at_call 7; refine (HLV.out _ _ HP.out).mono ?_; rintro e w' ⟨rfl, rfl⟩)
          obtain ⟨m, rfl⟩ : ∃ m : Nat, t = (m : Int) := ⟨t.toNat, by omega⟩
          go_loopw [12, 15] (fun x y wr' => ∃ (i m' : Nat), x = .int .i64 (T + i) ∧ y = .int .i64 (i : Int) ∧ i + m' = m ∧ PSt w wr' p r b (m' : Int)) (fun _ y _ => m - (intOf y).toNat)
          case atStart => exact ⟨0, m, by simp, rfl, by omega, HP.out⟩
          case round =>
            obtain ⟨i, m', rfl, rfl, him, hQ⟩ := hrel
            have HQ := hide hQ
            clear hQ HP
            have hi : (i : Int) ≤ 1024 := by omega
            cases m' with
            | zero =>
              have hTi : T + (i : Int) = b + KR := by omega
              have HTI2 := hide hTi
              clear hTi
              generalize hTJ : T + (i : Int) = TJ at *
              have HTJ := hide hTJ
              clear hTJ
              have e1 : ¬ b + KR < TJ := by rw [HTI2.out]; omega
              have e2 : ¬ TJ < b + KR := by rw [HTI2.out]; omega
              go_wp2_with (first
                | (go_at_call 8; refine (HTN.out _ HQ.out).mono ?_; rintro e w' ⟨rfl, rfl⟩)
                | (go_at_call 7; refine (HLV.out _ _ HQ.out).mono ?_; rintro e w' ⟨rfl, rfl⟩)
                | (go_at_call 9; refine (HTI.out _ HQ.out).mono ?_; rintro e w2 ⟨rfl, hQ2⟩; have HQ2 := hide hQ2; clear hQ2))
              go_roundw
              case rel => exact ⟨k + 1, TJ, r, rfl, by go_num, by rw [HTI2.out, HSUC.out]; omega, by omega, by omega, by have := HQ2.out; rw [HTC.out] at this; exact this⟩
              case measure => simp [intOf]; omega
            | succ m' =>
              have HQ1 := hide (HTK.out _ _ HQ.out (by omega))
              go_wp2_with (go_at_call 8; refine HQ1.out.mono ?_; rintro e w2 ⟨rfl, hQ2⟩; have HQ2 := hide hQ2; clear hQ2)
              go_roundw
              case rel => exact ⟨i + 1, m', by go_num, by go_num, by omega, by have := HQ2.out; rwa [show ((m' + 1 : Nat) : Int) - 1 = (m' : Int) by omega] at this⟩
              case measure => simp [intOf]; omega
        · have HC := hide hc
          by_cases hc1 : (k : Int) ≤ n
          · have hc2 : ¬ (k : Int) ≤ 100 := by omega
            clear hc
            go_wp2_with fail
            go_ret
            exact ⟨rfl, HP.out.bel⟩
          · clear hc
            go_wp2_with fail
            go_ret
            exact ⟨rfl, HP.out.bel⟩
  · have HN := hide fun w => newPace_no w r b h
    rcases okP_no h with h1 | ⟨h1, h2⟩ | ⟨h1, h2, h3⟩ | ⟨h1, h2, h3, h4⟩
    all_goals
      clear h
      go_enter Try.func3, Try.ntmps3
      go_wp2_with (first
        | (go_at_call 5; refine (HN.out _).mono ?_; rintro e w' ⟨rfl, rfl⟩)
        | (go_at_call 6; refine (num_any _ _).mono ?_; rintro e w' ⟨rfl, rfl⟩))
      go_ret
      exact ⟨rfl, Below.refl _ _⟩
end Go.Proofs.Ytophcdfaflehcaa
