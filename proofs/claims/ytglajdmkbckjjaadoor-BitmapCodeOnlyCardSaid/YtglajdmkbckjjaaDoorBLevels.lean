import Derived.Test.YtglajdmkbckjjaaDoorBLayL2
namespace Go.Proofs.YtglajdmkbckjjaaDoor
open Go.RowKit Go.Shelf
set_option linter.unusedVariables false
set_option linter.unusedSimpArgs false
set_option maxRecDepth 20000

theorem cnt_remove {f g : Nat → Bool} {c : Nat} (hc : f c = true) (hg : ∀ i, g i = (f i && decide (i ≠ c))) : ∀ n, c < n → cnt f n = cnt g n + 1
  | 0, h => by omega
  | n + 1, h => by
    simp only [cnt]
    by_cases e : c = n
    · subst e
      have : cnt f c = cnt g c := cnt_congr c fun i hi => by rw [hg]; have : i ≠ c := by omega
                                                             simp [this]
      rw [this, hc, hg]; simp
    · rw [cnt_remove hc hg n (by omega), hg n]
      have : n ≠ c := by omega
      simp [this]; omega
theorem low_bit {x : Nat} (h0 : x ≠ 0) (hx : x < 18446744073709551616) (i : Nat) : (x &&& (x - 1)).testBit i = (x.testBit i && decide (i ≠ Lib.ctz 64 x)) := by
  obtain ⟨m, hm, hk⟩ := Lib.ctzFrom_spec 64 x (by omega) hx
  have e : Lib.ctz 64 x = Lib.ctzFrom 64 x := by simp [Lib.ctz, h0]
  rw [e]
  generalize Lib.ctzFrom 64 x = c at hm hk
  have hp : 0 < 2 ^ c := Nat.two_pow_pos c
  have e1 : x - 1 = 2 ^ c * (2 * m) + (2 ^ c - 1) := by rw [hm, Nat.mul_add]; omega
  have b1 : ∀ j, (x - 1).testBit j = if j < c then true else (2 * m).testBit (j - c) := fun j => by
    rw [e1, Nat.testBit_two_pow_mul_add _ (by omega), Nat.testBit_two_pow_sub_one]
    by_cases hj : j < c <;> simp [hj]
  have b2 : ∀ j, x.testBit j = if j < c then false else (2 * m + 1).testBit (j - c) := fun j => by
    rw [hm, Nat.mul_comm, Nat.testBit_mul_two_pow]
    by_cases hj : j < c
    · have : ¬ c ≤ j := by omega
      simp [hj, this]
    · have : c ≤ j := by omega
      simp [hj, this]
  rw [Nat.testBit_and, b1, b2]
  by_cases hj : i < c
  · simp [hj]
  · simp only [hj, if_false]
    by_cases ei : i = c
    · subst ei; simp
    · obtain ⟨d, hd⟩ : ∃ d, i - c = d + 1 := ⟨i - c - 1, by omega⟩
      rw [hd, Nat.testBit_succ, Nat.testBit_succ]
      have : (2 * m + 1) / 2 = 2 * m / 2 := by omega
      rw [this]
      simp [ei]
theorem cnt_low {x : Nat} (h0 : x ≠ 0) (hx : x < 18446744073709551616) : cnt x.testBit 64 = cnt (x &&& (x - 1)).testBit 64 + 1 := by
  obtain ⟨h1, h2, h3⟩ := ctz_spec h0 hx
  exact cnt_remove h2 (low_bit h0 hx) 64 h1

set_option maxHeartbeats 400000 in
theorem ones_law (x : Nat) (hx : x < 18446744073709551616) (w : World) : Calls Tryd.prog 56 #[.int .u64 (x : Int)] w fun e w' => e = .returned (.int .i64 ((cnt x.testBit 64 : Nat) : Int)) ∧ w' = w := by
  have hle := cnt_le x.testBit 64
  generalize hT : cnt x.testBit 64 = T at *
  have HT := hide hT
  clear hT
  go_enter Tryd.func56, Tryd.ntmps56
  go_wp2
  go_loop [0, 3] (fun y c => ∃ z k : Nat, z < 18446744073709551616 ∧ y = .int .u64 (z : Int) ∧ c = .int .i64 (k : Int) ∧ k + cnt z.testBit 64 = T) (fun y c => T - (intOf c).toNat)
  case atStart => exact ⟨x, 0, hx, rfl, rfl, by rw [HT.out]; omega⟩
  case round =>
    obtain ⟨z, k, hz, rfl, rfl, hs⟩ := hrel
    by_cases h0 : z = 0
    · subst h0
      have ek : k = T := by rw [cnt_zero 64 (fun i _ => by simp)] at hs; omega
      have HK := hide ek
      clear hs ek HT
      go_wp2
      go_ret
      exact ⟨ret_int (by rw [HK.out]), rfl⟩
    · have hl := cnt_low h0 hz
      have hand : z &&& (z - 1) < 18446744073709551616 := Nat.lt_of_le_of_lt Nat.and_le_left hz
      have ea := u64_and_nat z (z - 1) hz (by omega)
      have ew : ((z - 1 : Nat) : Int) = (z : Int) - 1 := by omega
      rw [ew] at ea
      have hne : ((z : Int) != 0) = true := by simp; exact h0
      have hkT : k < T := by omega
      have HS : Hid (k + 1 + cnt (z &&& (z - 1)).testBit 64 = T) := hide (by omega)
      have h01 : 1 ≤ z := by omega
      clear hs hl h0 ew
      generalize z &&& (z - 1) = y at *
      go_wp2
      go_round
      case rel => exact ⟨y, k + 1, hand, rfl, by go_num, HS.out⟩
      case measure => simp [intOf]; omega

/-- the bit that a shift and a mask tell -/
theorem bit_of_shift {B k : Nat} : bits BinOp.and IntKind.u64 (((wd B (k / 64) : Nat) : Int) / 2 ^ (k % 64)) 1 = (((B.testBit k).toNat : Nat) : Int) := by
  have hl : wd B (k / 64) / 2 ^ (k % 64) < 18446744073709551616 := Nat.lt_of_le_of_lt (Nat.div_le_self _ _) (wd_lt _ _)
  have e : ((wd B (k / 64) : Nat) : Int) / 2 ^ (k % 64) = ((wd B (k / 64) / 2 ^ (k % 64) : Nat) : Int) := by rw [Int.natCast_ediv]; simp
  have := u64_and_nat (wd B (k / 64) / 2 ^ (k % 64)) 1 hl (by decide)
  simp only [Int.natCast_one] at this
  rw [e, this, bit_of_wd, Nat.testBit, Nat.and_comm, Nat.shiftRight_eq_div_pow]
  generalize wd B (k / 64) / 2 ^ (k % 64) = y
  rw [Nat.one_and_eq_mod_two]
  rcases Nat.mod_two_eq_zero_or_one y with h | h <;> simp [h]
end Go.Proofs.YtglajdmkbckjjaaDoor
