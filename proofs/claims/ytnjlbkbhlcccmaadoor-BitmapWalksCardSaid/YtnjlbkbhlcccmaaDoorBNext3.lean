import Derived.Test.YtnjlbkbhlcccmaaDoorBNext2
namespace Go.Proofs.YtnjlbkbhlcccmaaDoor
open Go.RowKit
set_option linter.unusedVariables false
set_option linter.unusedSimpArgs false

theorem orNone_any {w : World} {L : BL} {n B : Nat} (h : BRep w L n B) (i : Nat) :
    Calls Tryd.prog 64 #[PB L, .int .i64 (i : Int)] w fun e w' => e = .returned (.int .i64 (if i < n then (i : Int) else -1)) ∧ w' = w := by
  have c0 := h.c0
  have hn := h.n2
  unfold PB
  by_cases hi : i < n
  · rw [if_pos hi]
    go_enter Tryd.func64, Tryd.ntmps64
    go_wp2
    go_ret
    exact ⟨rfl, rfl⟩
  · rw [if_neg hi]
    go_enter Tryd.func64, Tryd.ntmps64
    go_wp2
    go_ret
    exact ⟨rfl, rfl⟩

/-- the bits that are not set -/
def inv (u : Nat) : Nat := 18446744073709551616 - (u + 1)
theorem inv_lt (u : Nat) : inv u < 18446744073709551616 := by unfold inv; omega
theorem testBit_inv {u : Nat} (hu : u < 18446744073709551616) (i : Nat) : (inv u).testBit i = (decide (i < 64) && !u.testBit i) := Nat.testBit_two_pow_sub_succ (n := 64) hu i
theorem xor_inv {u : Nat} (hu : u < 18446744073709551616) : bits .xor .u64 IntKind.u64.max (u : Int) = (inv u : Nat) := by
  have e : IntKind.u64.max = ((18446744073709551615 : Nat) : Int) := by decide
  rw [e, u64_xor_nat _ _ (by decide) hu]
  congr 1
  apply Nat.eq_of_testBit_eq
  intro i
  rw [Nat.testBit_xor, testBit_inv hu, show (18446744073709551615 : Nat) = 2 ^ 64 - 1 from rfl, Nat.testBit_two_pow_sub_one]
  by_cases hi : i < 64
  · simp [hi]
  · simp [hi, testBit_hi hu (by omega : 64 ≤ i)]

theorem nc_some {B j : Nat} (h : inv (wd B (j / 64)) / 2 ^ (j % 64) ≠ 0) :
    Lib.ctz 64 (inv (wd B (j / 64)) / 2 ^ (j % 64)) < 64 ∧ B.testBit (j + Lib.ctz 64 (inv (wd B (j / 64)) / 2 ^ (j % 64))) = false ∧ ∀ i, j ≤ i → i < j + Lib.ctz 64 (inv (wd B (j / 64)) / 2 ^ (j % 64)) → B.testBit i = true := by
  have hs : j % 64 < 64 := Nat.mod_lt _ (by decide)
  obtain ⟨h1, h2, h3, h4⟩ := shf_some (inv_lt (wd B (j / 64))) hs h
  generalize Lib.ctz 64 (inv (wd B (j / 64)) / 2 ^ (j % 64)) = c at *
  refine ⟨h1, ?_, fun i hi hi' => ?_⟩
  · rw [testBit_inv (wd_lt _ _)] at h3
    rw [bit_of_wd, show (j + c) / 64 = j / 64 by omega, show (j + c) % 64 = j % 64 + c by omega]
    simpa [h2] using h3
  · have := h4 (i % 64) (by omega) (by omega)
    rw [testBit_inv (wd_lt _ _)] at this
    rw [bit_of_wd, show i / 64 = j / 64 by omega]
    have h64 : i % 64 < 64 := by omega
    simpa [h64] using this
theorem nc_none {B j : Nat} (h : inv (wd B (j / 64)) / 2 ^ (j % 64) = 0) : ∀ i, j ≤ i → i < (j / 64 + 1) * 64 → B.testBit i = true := by
  intro i hi hi'
  have := shf_none h (i % 64) (by omega)
  rw [testBit_inv (wd_lt _ _)] at this
  rw [bit_of_wd, show i / 64 = j / 64 by omega]
  have h64 : i % 64 < 64 := by omega
  simpa [h64] using this

theorem NextClear_any {w : World} {L : BL} {n B : Nat} (h : BRep w L n B) (hT : TabAt w) (i : Int) :
    Calls Tryd.prog 47 #[PB L, .int .i64 i] w fun e w' => e = .returned (.int .i64 (orN (nc B n i.toNat))) ∧ w' = w := by
  have c0 := h.c0
  have c1 := h.c1
  have hn := h.n2
  have hW : nW n ≤ 1024 := by unfold nW; omega
  generalize hRes : orN (nc B n i.toNat) = R
  have HRes := hide hRes
  clear hRes
  obtain ⟨k, hj⟩ : ∃ j : Nat, i.toNat = j := ⟨_, rfl⟩
  have hmx : (if i < 0 then 0 else i) = (k : Int) := by split <;> omega
  have HJ := hide hj
  clear hj
  unfold PB
  go_enter Tryd.func47, Tryd.ntmps47
  go_wp2_with fail
  go_loop [1] (fun i => ∃ j : Nat, i = .int .i64 (j : Int) ∧ k ≤ j ∧ (k < j → j ≤ 70000) ∧ ∀ i, k ≤ i → i < j → i < n → B.testBit i = true) (fun i => 80000 - (intOf i).toNat)
  case atStart => exact ⟨k, by first | rfl | (rw [hmx]), Nat.le_refl _, by omega, fun i h1 h2 => by omega⟩
  case round =>
    obtain ⟨j, rfl, hj1, hj2, hz⟩ := hrel
    have HZ := hide hz
    clear hz hmx
    by_cases hlt : j < n
    · have hq : j / 64 < nW n := by unfold nW; omega
      have hc := h.cl hq
      have hw := wd_lt B (j / 64)
      have hx1 : bits .xor .u64 (if IntKind.u64.signed = true then -1 else IntKind.u64.max) ((wd B (j / 64) : Nat) : Int) = ((inv (wd B (j / 64)) : Nat) : Int) := xor_inv hw
      have hx2 := xor_inv hw
      have hs : ((inv (wd B (j / 64)) : Nat) : Int) / 2 ^ (j % 64) = ((inv (wd B (j / 64)) / 2 ^ (j % 64) : Nat) : Int) := by rw [Int.natCast_ediv]; simp
      by_cases h0 : inv (wd B (j / 64)) / 2 ^ (j % 64) = 0
      · have HX : Hid (∀ i, k ≤ i → i < (j / 64 + 1) * 64 → i < n → B.testBit i = true) := hide fun i h1 h2 h3 => by
          by_cases hi : i < j
          · exact HZ.out i h1 hi h3
          · exact nc_none h0 i (by omega) h2
        rw [h0] at hs
        simp only [Int.natCast_zero] at hs
        clear HZ h0 HRes HJ h hT
        generalize inv (wd B (j / 64)) = v at *
        generalize wd B (j / 64) = u at *
        generalize nW n = m1 at *
        go_wp2_with fail
        go_round
        case rel => exact ⟨(j / 64 + 1) * 64, by go_num, by omega, by omega, HX.out⟩
        case measure => simp [intOf]; omega
      · obtain ⟨q1, q2, q3⟩ := nc_some h0
        have hu : inv (wd B (j / 64)) / 2 ^ (j % 64) < 18446744073709551616 := Nat.lt_of_le_of_lt (Nat.div_le_self _ _) (inv_lt _)
        have HR : Hid (R = if j + Lib.ctz 64 (inv (wd B (j / 64)) / 2 ^ (j % 64)) < n then ((j + Lib.ctz 64 (inv (wd B (j / 64)) / 2 ^ (j % 64)) : Nat) : Int) else -1) := hide (by
          rw [← HRes.out, HJ.out]
          generalize Lib.ctz 64 (inv (wd B (j / 64)) / 2 ^ (j % 64)) = c at *
          split
          · unfold nc
            rw [fnd_some (n - k) k (j + c) (by omega) (by omega) (by simpa using q2) (fun i hi hi' => by
              by_cases hij : i < j
              · simp [HZ.out i hi hij (by omega)]
              · simp [q3 i (by omega) hi'])]
            rfl
          · unfold nc
            rw [fnd_none (n - k) k (fun i hi hi' => by
              by_cases hij : i < j
              · simp [HZ.out i hi hij (by omega)]
              · simp [q3 i (by omega) (by omega)])]
            rfl)
        have hne : ((((inv (wd B (j / 64)) / 2 ^ (j % 64) : Nat)) : Int) != 0) = true := by simp; omega
        have hO := orNone_any h (j + Lib.ctz 64 (inv (wd B (j / 64)) / 2 ^ (j % 64)))
        rw [← HR.out] at hO
        have HO := hide hO
        clear q2 q3 HZ HRes HJ h hO
        generalize inv (wd B (j / 64)) / 2 ^ (j % 64) = r at *
        generalize inv (wd B (j / 64)) = v at *
        generalize wd B (j / 64) = u at *
        generalize hcz : Lib.ctz 64 r = c at *
        have HCZ := hide hcz
        clear hcz
        have HT := hide hT
        clear hT
        generalize nW n = m1 at *
        unfold PB at HO
        go_wp2_with (first
          | (go_at_call 58; refine (tz_any r hu h0 _ HT.out).mono ?_; rw [HCZ.out]; rintro e w' ⟨rfl, rfl⟩)
          | (go_at_call 64; rw [show (j : Int) + (c : Int) = ((j + c : Nat) : Int) by omega]; refine HO.out.mono ?_; rintro e w' ⟨rfl, rfl⟩))
        go_ret
        exact ⟨rfl, rfl⟩
    · have HR : Hid (R = -1) := hide (by
        rw [← HRes.out, HJ.out]
        unfold nc
        rw [fnd_none _ _ (fun i h1 h2 => by simp [HZ.out i h1 (by omega) (by omega)])]; rfl)
      clear HZ h HRes
      generalize nW n = m1 at *
      go_wp2_with fail
      go_ret
      exact ⟨ret_int HR.out.symm, rfl⟩

theorem endOfRun_any {w : World} {L : BL} {n B : Nat} (h : BRep w L n B) (hT : TabAt w) (i : Nat) :
    Calls Tryd.prog 54 #[PB L, .int .i64 (i : Int)] w fun e w' => e = .returned (.int .i64 (((nc B n i).getD n : Nat) : Int)) ∧ w' = w := by
  have c0 := h.c0
  have hn := h.n2
  have hcall := NextClear_any h hT (i : Int)
  rw [Int.toNat_natCast] at hcall
  cases hf : nc B n i with
  | none =>
    rw [hf] at hcall
    have HC := hide hcall
    clear hcall h hT hf
    simp only [Option.getD]
    unfold PB at *
    go_enter Tryd.func54, Tryd.ntmps54
    go_wp2_with (go_at_call 47; refine HC.out.mono ?_; rintro e w' ⟨rfl, rfl⟩; simp only [orN])
    go_ret
    exact ⟨rfl, rfl⟩
  | some k =>
    rw [hf] at hcall
    have HC := hide hcall
    clear hcall h hT hf
    simp only [Option.getD]
    unfold PB at *
    go_enter Tryd.func54, Tryd.ntmps54
    go_wp2_with (go_at_call 47; refine HC.out.mono ?_; rintro e w' ⟨rfl, rfl⟩; simp only [orN])
    go_ret
    exact ⟨rfl, rfl⟩
end Go.Proofs.YtnjlbkbhlcccmaaDoor
