import Derived.Test.YtnjlbkbhlcccmaaDoorBRep
namespace Go.Proofs.YtnjlbkbhlcccmaaDoor
open Go.RowKit
set_option linter.unusedVariables false
set_option linter.unusedSimpArgs false

/-- what is left of a word behind a shift, and the first bit that is set in it -/
theorem shf_some {x s : Nat} (hx : x < 18446744073709551616) (hs : s < 64) (h : x / 2 ^ s ≠ 0) :
    Lib.ctz 64 (x / 2 ^ s) < 64 ∧ s + Lib.ctz 64 (x / 2 ^ s) < 64 ∧ x.testBit (s + Lib.ctz 64 (x / 2 ^ s)) = true ∧ ∀ i, s ≤ i → i < s + Lib.ctz 64 (x / 2 ^ s) → x.testBit i = false := by
  have hl : x / 2 ^ s < 18446744073709551616 := Nat.lt_of_le_of_lt (Nat.div_le_self _ _) hx
  obtain ⟨h1, h2, h3⟩ := ctz_spec h hl
  generalize Lib.ctz 64 (x / 2 ^ s) = c at *
  rw [Nat.testBit_div_two_pow] at h2
  have hlt : s + c < 64 := by
    apply Nat.lt_of_not_le
    intro hc
    rw [Nat.add_comm, testBit_hi hx hc] at h2
    simp at h2
  refine ⟨h1, hlt, by rw [Nat.add_comm]; exact h2, fun i hi hi' => ?_⟩
  have := h3 (i - s) (by omega)
  rw [Nat.testBit_div_two_pow] at this
  rwa [show i - s + s = i by omega] at this
theorem shf_none {x s : Nat} (h : x / 2 ^ s = 0) : ∀ i, s ≤ i → x.testBit i = false := by
  intro i hi
  have : (x / 2 ^ s).testBit (i - s) = false := by rw [h]; simp
  rw [Nat.testBit_div_two_pow] at this
  rwa [show i - s + s = i by omega] at this

theorem wd_shf_some {B j : Nat} (h : wd B (j / 64) / 2 ^ (j % 64) ≠ 0) :
    Lib.ctz 64 (wd B (j / 64) / 2 ^ (j % 64)) < 64 ∧ B.testBit (j + Lib.ctz 64 (wd B (j / 64) / 2 ^ (j % 64))) = true ∧ ∀ i, j ≤ i → i < j + Lib.ctz 64 (wd B (j / 64) / 2 ^ (j % 64)) → B.testBit i = false := by
  have hs : j % 64 < 64 := Nat.mod_lt _ (by decide)
  obtain ⟨h1, h2, h3, h4⟩ := shf_some (wd_lt B (j / 64)) hs h
  generalize Lib.ctz 64 (wd B (j / 64) / 2 ^ (j % 64)) = c at *
  refine ⟨h1, ?_, fun i hi hi' => ?_⟩
  · rw [bit_of_wd, show (j + c) / 64 = j / 64 by omega, show (j + c) % 64 = j % 64 + c by omega]; exact h3
  · rw [bit_of_wd, show i / 64 = j / 64 by omega]; exact h4 (i % 64) (by omega) (by omega)
theorem wd_shf_none {B j : Nat} (h : wd B (j / 64) / 2 ^ (j % 64) = 0) : ∀ i, j ≤ i → i < (j / 64 + 1) * 64 → B.testBit i = false := by
  intro i hi hi'
  rw [bit_of_wd, show i / 64 = j / 64 by omega]
  exact shf_none h (i % 64) (by omega)

theorem ret_int {k : IntKind} {a b : Int} (h : a = b) : Ending.returned (.int k a) = .returned (.int k b) := by rw [h]

theorem nextWord_any {w : World} {L : BL} {n B : Nat} (h : BRep w L n B) (hT : TabAt w) (k : Nat) (hk : k ≤ 2000) :
    Calls Tryd.prog 59 #[PB L, .int .i64 (k : Int)] w fun e w' => e = .returned (.int .i64 (orN (fnd (fun j => decide (wd B j ≠ 0)) k (nW n - k)))) ∧ w' = w := by
  have c1 := h.c1
  have c2 := h.c2
  have hn : nW n ≤ 1024 := by have := h.n2; unfold nW; omega
  unfold PB
  generalize hRes : orN (fnd (fun j => decide (wd B j ≠ 0)) k (nW n - k)) = R
  have HRes := hide hRes
  clear hRes
  go_enter Tryd.func59, Tryd.ntmps59
  go_wp2_with fail
  go_loop [1] (fun i => ∃ j : Nat, i = .int .i64 (j : Int) ∧ k ≤ j ∧ j ≤ 4000 ∧ ∀ i, k ≤ i → i < j → i < nW n → wd B i = 0) (fun i => 5000 - (intOf i).toNat)
  case atStart => exact ⟨k, rfl, Nat.le_refl _, by omega, fun i h1 h2 => by omega⟩
  case round =>
    obtain ⟨j, rfl, hj1, hj2, hz⟩ := hrel
    have HZ := hide hz
    clear hz
    by_cases hlt : j < nW n
    · have hq : j / 64 < nW (nW n) := by unfold nW at *; omega
      have hc := h.ch hq
      have hw := wd_lt (up B (nW n)) (j / 64)
      have hs : ((wd (up B (nW n)) (j / 64) : Nat) : Int) / 2 ^ (j % 64) = ((wd (up B (nW n)) (j / 64) / 2 ^ (j % 64) : Nat) : Int) := by rw [Int.natCast_ediv]; simp
      have HB := hide (testBit_up B (nW n))
      by_cases h0 : wd (up B (nW n)) (j / 64) / 2 ^ (j % 64) = 0
      · have HN : Hid (∀ i, j ≤ i → i < (j / 64 + 1) * 64 → (up B (nW n)).testBit i = false) := hide (wd_shf_none h0)
        rw [h0] at hs
        simp only [Int.natCast_zero] at hs
        have h00 : (((0 : Nat) : Int) != 0) = false := rfl
        generalize wd (up B (nW n)) (j / 64) = u at hc hw hs
        clear h0 HB
        have HX : Hid (∀ i, k ≤ i → i < (j / 64 + 1) * 64 → i < nW n → wd B i = 0) := hide fun i h1 h2 h3 => by
          by_cases hi : i < j
          · exact HZ.out i h1 hi h3
          · have := HN.out i (by omega) h2
            rw [testBit_up] at this
            simpa [h3] using this
        clear HN HZ h HRes
        generalize nW (nW n) = m2 at *
        generalize nW n = m1 at *
        go_wp2_with fail
        go_round
        case rel => exact ⟨(j / 64 + 1) * 64, by go_num, by omega, by omega, HX.out⟩
        case measure => simp [intOf]; omega
      · obtain ⟨q1, q2, q3⟩ := wd_shf_some h0
        have hu : wd (up B (nW n)) (j / 64) / 2 ^ (j % 64) < 18446744073709551616 := Nat.lt_of_le_of_lt (Nat.div_le_self _ _) hw
        have HR : Hid (R = ((j + Lib.ctz 64 (wd (up B (nW n)) (j / 64) / 2 ^ (j % 64)) : Nat) : Int)) := hide (by
          rw [← HRes.out]
          generalize Lib.ctz 64 (wd (up B (nW n)) (j / 64) / 2 ^ (j % 64)) = c at *
          rw [testBit_up] at q2
          simp only [Bool.and_eq_true, decide_eq_true_eq] at q2
          rw [fnd_some (nW n - k) k (j + c) (by omega) (by omega) (by simpa using q2.2) (fun i hi hi' => by
            by_cases hij : i < j
            · simp [HZ.out i hi hij (by omega)]
            · have := q3 i (by omega) hi'
              rw [testBit_up] at this
              have h3 : i < nW n := by omega
              simpa [h3] using this)]
          rfl)
        have hne : ((((wd (up B (nW n)) (j / 64) / 2 ^ (j % 64) : Nat)) : Int) != 0) = true := by simp; omega
        generalize wd (up B (nW n)) (j / 64) / 2 ^ (j % 64) = r at *
        generalize wd (up B (nW n)) (j / 64) = u at *
        clear q2 q3 HB HZ h HRes
        have HT := hide hT
        clear hT
        generalize hcz : Lib.ctz 64 r = c at *
        have HCZ := hide hcz
        clear hcz
        generalize nW (nW n) = m2 at *
        generalize nW n = m1 at *
        go_wp2_with (go_at_call 58; refine (tz_any r hu h0 _ HT.out).mono ?_; rw [HCZ.out]; rintro e w' ⟨rfl, rfl⟩)
        go_ret
        exact ⟨ret_int (by rw [HR.out]; omega), rfl⟩
    · have HR : Hid (R = -1) := hide (by
        rw [← HRes.out, fnd_none _ _ (fun i h1 h2 => by simp [HZ.out i h1 (by omega) (by omega)])]; rfl)
      clear HZ h HRes
      generalize nW (nW n) = m2 at *
      generalize nW n = m1 at *
      go_wp2_with fail
      go_ret
      exact ⟨ret_int HR.out.symm, rfl⟩
end Go.Proofs.YtnjlbkbhlcccmaaDoor
