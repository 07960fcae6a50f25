import Derived.Test.YtkjaaknlhmneoaaMtUm
import Derived.Test.YtkjaaknlhmneoaaMtAp
namespace Go.Proofs.Ytkjaaknlhmneoaa
open Go.RowKit
open Num
set_option linter.unusedVariables false
set_option linter.unusedSimpArgs false
set_option maxRecDepth 20000

theorem made_words_list (n : Nat) (hn : n ≤ 8388608) (w : World) : (Instr.makeSlice 35 (.int .i64 (n : Int)) (.int .i64 (n : Int))).run Try.prog w = .ok (.slice (some ⟨w.heap.size, 0, none⟩) n n) (w.alloc (.cells ((List.replicate n 0).map u64v).toArray 43)) := by
  rw [made_words n hn w]
  congr 3
  simp
theorem and1_u8 (Y : Nat) (h : Y < 256) : bits .and .u8 (Y : Int) 1 = ((Y % 2 : Nat) : Int) := by
  have : ∀ Y : Fin 256, bits .and .u8 ((Y.val : Nat) : Int) 1 = ((Y.val % 2 : Nat) : Int) := by decide +kernel
  exact this ⟨Y, h⟩
set_option maxHeartbeats 4000000 in
theorem runpack_ok (w : World) (O off cap n s : Nat) (B : Nat → List Nat) (hP : UB w O off ((n - 1) / (8 * s) + 1) s B) (hs : okSz (s : Int) = true) (h1 : 1 ≤ n) (h2 : n ≤ 65536) (h64 : ∀ k, k < (n + 63) / 64 → uW B s k < 18446744073709551616) :
    Calls Try.prog 28 #[.int .i64 (n : Int), .slice (some ⟨O, off, none⟩) ((n - 1) / (8 * s) + 1) cap, .int .i64 (s : Int)] w fun e w' => ∃ U, e = .returned (.tuple #[.slice (some ⟨U, 0, none⟩) ((n + 63) / 64) ((n + 63) / 64), .bool (lostN B ((n - 1) / (8 * s) + 1)), .int .i64 0]) ∧ WRow w' U (tW B s n) ∧ w.heap.size ≤ U ∧ Below w.heap.size w w' := by
  have hp := okSz_pos hs
  have hs4 : s = 128 ∨ s = 256 ∨ s = 512 ∨ s = 1024 := by have := okSz_cases hs; omega
  have hs2 : 0 < s ∧ s ≤ 1024 := by omega
  have HD := hide fun x => domain_any x (n : Int) (s : Int)
  rw [hs, decide_eq_true (by omega), decide_eq_true (by omega)] at HD
  have HU := hide fun x => rup_any x (n : Int) (8 * (s : Int)) (by omega) (by omega) (by omega) (by omega)
  rw [up_area hs (by omega), areaB_nat h1] at HU
  have HU2 := hide fun x => rup_any x (n : Int) 64 (by omega) (by omega) (by omega) (by omega)
  rw [show ((n : Int) + 64 - 1) / 64 = (((n + 63) / 64 : Nat) : Int) by omega] at HU2
  have hmb : (n - 1) / (8 * s) + 1 ≤ 65537 := by
    have := Nat.div_le_self (n - 1) (8 * s)
    omega
  have hin : ∀ i, i < n → i / (8 * s) < (n - 1) / (8 * s) + 1 := fun i hi => by
    have := Nat.div_le_div_right (c := 8 * s) (show i ≤ n - 1 by omega)
    omega
  have HIN := hide hin
  have ht64 : ∀ k, k < (n + 63) / 64 → (tW B s n).getD k 0 < 18446744073709551616 := fun k hk => by
    rw [tW_get h1 hk]
    split
    · exact Nat.lt_of_le_of_lt (Nat.mod_le _ _) (h64 k hk)
    · exact h64 k hk
  have HNX := hide fun i (hi : i < n) (hb : ∀ x ∈ B (i / (8 * s)), x < 256) => pW_next hs4 h1 hi hb ht64
  have HEN := hide (pW_end h1 h64)
  have HP0 := hide (pW_start B s n)
  have HPL := hide fun i => pW_len B s n i
  have HPG := hide fun i k (h : k < (n + 63) / 64) => (show (pW B s n i).getD k 0 < 18446744073709551616 by rw [pW_get h]; exact Nat.lt_of_le_of_lt (Nat.mod_le _ _) (ht64 k h))
  have hmk := made_words_list ((n + 63) / 64) (by omega) w
  have HWS : Hid (WRow (w.alloc (.cells ((List.replicate ((n + 63) / 64) 0).map u64v).toArray 43)) w.heap.size (pW B s n 0)) := hide (by unfold WRow; rw [HP0.out]; exact Go.heap_alloc_new w _)
  obtain ⟨ZW, hZW⟩ : ∃ ZW, ((List.replicate ((n + 63) / 64) 0).map u64v).toArray = ZW := ⟨_, rfl⟩
  rw [hZW] at hmk HWS
  have HBZ := hide ((Below.refl w.heap.size w).alloc (Nat.le_refl _) (.cells ZW 43))
  have hLb : (n + 63) / 64 ≤ 1024 := by omega
  have HLI : Hid (∀ i, i < n → i / 64 < (n + 63) / 64) := hide fun i hi => by omega
  have HNN := hide hP
  have HLS := hide fun j => lostN_succ B j
  have HL0 : Hid (lostN B 0 = false) := hide rfl
  rw [← HEN.out]
  clear hs hp hin ht64 h64 hP HP0 hZW HEN
  generalize hmm : (n - 1) / (8 * s) + 1 = m at *
  generalize hLL : (n + 63) / 64 = L at *
  clear hmm hLL
  go_enter Try.func28, Try.ntmps28
  go_wp2_with (first
    | (go_at_call 46; refine (HD.out _).mono ?_; rintro e w1 ⟨rfl, hw1⟩; have hws := hw1.symm; clear hw1; subst hws)
    | (go_at_call 37; refine (HU.out _).mono ?_; rintro e w1 ⟨rfl, hw1⟩; have hws := hw1.symm; clear hw1; subst hws))
  clear HD HU
  go_loopw [10, 11] (fun x i wr => ∃ j : Nat, j ≤ m ∧ i = .int .i64 (j : Int) ∧ x = .bool (lostN B j) ∧ wr = w) (fun _ i _ => m - (intOf i).toNat)
  case atStart => exact ⟨0, Nat.zero_le _, rfl, rfl, rfl⟩
  case round =>
    obtain ⟨j, hj, rfl, rfl, hwr⟩ := hrel
    have hwrs := hwr.symm
    clear hwr
    subst hwrs
    by_cases hlt : j < m
    · obtain ⟨a, c, c0, hO, q1, q2, q3, q4⟩ := HNN.out j hlt
      have j1 : (j : Int) < (m : Int) := by omega
      clear q3 q4
      have HLJ := hide (HLS.out j)
      by_cases e0 : (B j).length = 0
      · rw [e0] at c0 HLJ
        have HLJ2 : Hid (lostN B (j + 1) = true) := hide (by rw [HLJ.out]; simp)
        clear e0 HLJ q1 q2
        generalize lostN B j = lb at *
        go_wp2_with fail
        go_roundw
        case rel => exact ⟨j + 1, by omega, by go_num, by rw [HLJ2.out], by first | rfl | trivial⟩
        case measure => simp [intOf]; omega
      · have hl := q2.resolve_left e0
        rw [hl] at c0 HLJ
        have hs0 : (s == 0) = false := by simp; omega
        have HLJ2 : Hid (lostN B (j + 1) = lostN B j) := hide (by rw [HLJ.out, hs0, Bool.or_false])
        clear hs0
        clear e0 HLJ q1 q2 hl
        have e1 : ((s : Int) == 0) = false := by simp; omega
        have e2 : ((s : Int) != 0) = true := by simp; omega
        have e3 : ((s : Int) != (s : Int)) = false := by simp
        generalize hlb : lostN B j = lb at *
        go_wp2_with fail
        go_roundw
        case rel => exact ⟨j + 1, by omega, by go_num, by rw [HLJ2.out], by first | rfl | trivial⟩
        case measure => simp [intOf]; omega
    · obtain rfl : m = j := by omega
      have j1 : ¬ (m : Int) < (m : Int) := by omega
      generalize hlb : lostN B m = lb at *
      have HLB := hide hlb
      clear hlb
      go_wp2_with (go_at_call 37; refine (HU2.out _).mono ?_; rintro e w1 ⟨rfl, hw1⟩; have hws := hw1.symm; clear hw1; subst hws)
      go_loopw [13] (fun x wr => ∃ i : Nat, i ≤ n ∧ x = .int .i64 (i : Int) ∧ WRow wr w.heap.size (pW B s n i) ∧ Below w.heap.size w wr) (fun x _ => n - (intOf x).toNat)
      case atStart => exact ⟨0, Nat.zero_le _, rfl, HWS.out, HBZ.out⟩
      case round =>
        obtain ⟨i, hi, rfl, hw1, hw2⟩ := hrel
        have HW1 := hide hw1
        have HW2 := hide hw2
        clear hw1 hw2 HWS HBZ
        by_cases hin : i < n
        · have i1 : (i : Int) < (n : Int) := by omega
          obtain ⟨D, hD⟩ : ∃ D, 8 * s = D := ⟨_, rfl⟩
          have hDb : 0 < D ∧ D ≤ 8192 := by omega
          have hw8 : IntKind.i64.wrap (8 * (s : Int)) = (D : Int) := by rw [← hD]; simp [IntKind.wrap, IntKind.bits, IntKind.signed]; omega
          have hD0 : ¬ (D : Int) = 0 := by omega
          have hDn : ¬ D = 0 := by omega
          obtain ⟨T, hT⟩ : ∃ T, i % D = T := ⟨_, rfl⟩
          obtain ⟨Q, hQ⟩ : ∃ Q, i / D = Q := ⟨_, rfl⟩
          have hTl : T < D := by rw [← hT]; exact Nat.mod_lt _ hDb.1
          have hQl : Q ≤ 65536 := by rw [← hQ]; exact Nat.le_trans (Nat.div_le_self _ _) (by omega)
          have t1 : (i : Int) % (D : Int) = (T : Int) := by rw [← hT]; rfl
          have t2 : (i : Int).tmod (D : Int) = (T : Int) := by rw [Int.tmod_eq_emod_of_nonneg (by omega)]; exact t1
          have t3 : IntKind.i64.wrap (T : Int) = (T : Int) := by simp [IntKind.wrap, IntKind.bits, IntKind.signed]; omega
          have t4 : IntKind.i64.wrap ((i : Int) % (D : Int)) = (T : Int) := by rw [t1]; exact t3
          have q1 : (i : Int) / (D : Int) = (Q : Int) := by rw [← hQ]; rfl
          have q2 : (i : Int).tdiv (D : Int) = (Q : Int) := by rw [Int.tdiv_eq_ediv_of_nonneg (by omega)]; exact q1
          have q3 : IntKind.i64.wrap (Q : Int) = (Q : Int) := by simp [IntKind.wrap, IntKind.bits, IntKind.signed]; omega
          have q4 : IntKind.i64.wrap ((i : Int) / (D : Int)) = (Q : Int) := by rw [q1]; exact q3
          obtain ⟨T6, hT6⟩ : ∃ T6, i / 64 = T6 := ⟨_, rfl⟩
          obtain ⟨R6, hR6⟩ : ∃ R6, i % 64 = R6 := ⟨_, rfl⟩
          have d1 : (i : Int) / 64 = (T6 : Int) := by omega
          have d2 : (i : Int).tdiv 64 = (T6 : Int) := by rw [Int.tdiv_eq_ediv_of_nonneg (by omega)]; exact d1
          have d3 : IntKind.i64.wrap (T6 : Int) = (T6 : Int) := by simp [IntKind.wrap, IntKind.bits, IntKind.signed]; omega
          have d4 : IntKind.i64.wrap ((i : Int) / 64) = (T6 : Int) := by rw [d1]; exact d3
          have m1 : (i : Int) % 64 = (R6 : Int) := by omega
          have m2 : (i : Int).tmod 64 = (R6 : Int) := by rw [Int.tmod_eq_emod_of_nonneg (by omega)]; exact m1
          have m3 : IntKind.i64.wrap (R6 : Int) = (R6 : Int) := by simp [IntKind.wrap, IntKind.bits, IntKind.signed]; omega
          have m4 : IntKind.i64.wrap ((i : Int) % 64) = (R6 : Int) := by rw [m1]; exact m3
          have hR63 : R6 ≤ 63 := by omega
          obtain ⟨P, hP⟩ : ∃ P : Nat, 2 ^ R6 = P := ⟨_, rfl⟩
          have hPl : P ≤ 9223372036854775808 := by rw [← hP]; exact Nat.pow_le_pow_right (n := 2) (j := 63) (by decide) hR63
          have hsh6 : Op.shift .shl .u64 (1 : Int) .i64 (R6 : Int) = (pure (.int .u64 (P : Int)) : Sem Value) := by
            rw [shift_shl .u64 .i64 (1 : Int) (R6 : Int) (by omega) (by simp [IntKind.bits]; omega), Int.toNat_natCast]
            congr 2
            rw [Int.one_mul, show ((2 : Int) ^ R6) = ((P : Nat) : Int) by rw [← hP, Int.natCast_pow]; rfl]
            simp [IntKind.wrap, IntKind.bits, IntKind.signed]; omega
          have hTL := HLI.out i hin
          rw [hT6] at hTL
          have hQm := HIN.out i hin
          rw [hD, hQ] at hQm
          obtain ⟨ua, uc, c0, hO, u1, u2, u3, u4⟩ := HNN.out Q hQm
          have HNI := hide (HNX.out i hin (by rw [hD, hQ]; exact u3))
          have c0 := (HW2.out.cell (p := ⟨O, off + Q, none⟩) hO).trans c0
          have b1 : (0 : Int) ≤ (Q : Int) := by omega
          have b2 : (Q : Int) < (m : Int) := by omega
          have b3 : (0 : Int) ≤ (T6 : Int) := by omega
          have b4 : (T6 : Int) < (L : Int) := by omega
          obtain ⟨X, hX⟩ : ∃ X, (pW B s n i).getD T6 0 = X := ⟨_, rfl⟩
          obtain ⟨x1, x2⟩ := HW1.out.cell (show T6 < (pW B s n i).length by rw [HPL.out]; exact hTL)
          rw [hX] at x1
          have hbr : ∀ b : Bool, rbit B s i = b → pW B s n (i + 1) = (pW B s n i).set T6 (X + if b then P else 0) := fun b hb => by
            rw [HNI.out, hb, hT6, hX, hR6, hP]
          have HBR := hide hbr
          clear hbr HNI
          have hrb : rbit B s i = (decide ((B Q).length = 0) || ((B Q).getD (T / 8) 0).testBit (i % 8)) := by unfold rbit; rw [hD, hQ, hT]
          have HRB := hide hrb
          clear hrb
          have hset : rbit B s i = true → X + P < 18446744073709551616 ∧ WRow (wr.setCell ⟨w.heap.size, T6, none⟩ (.int .u64 ((X + P : Nat) : Int))) w.heap.size (pW B s n (i + 1)) := fun hb => by
            have e := HBR.out true hb
            simp only [if_true] at e
            refine ⟨?_, by rw [e]; exact HW1.out.set⟩
            have h9 := HPG.out (i + 1) T6 hTL
            rw [e, List.getD_eq_getElem?_getD, List.getElem?_set_self (by rw [HPL.out]; exact hTL)] at h9
            exact h9
          have HSET := hide hset
          have HSKIP : Hid (rbit B s i = false → WRow wr w.heap.size (pW B s n (i + 1))) := hide fun hb => by
            have e := HBR.out false hb
            simp only [Bool.false_eq_true, if_false, Nat.add_zero] at e
            have hself : (pW B s n i).set T6 X = pW B s n i := by
              rw [← hX]
              refine List.ext_getElem (by simp) fun k h1' h2' => ?_
              rw [List.getElem_set]
              split
              · rename_i ek; subst ek; rw [List.getD_eq_getElem?_getD, List.getElem?_eq_getElem h2']; rfl
              · rfl
            rw [e, hself]; exact HW1.out
          clear hset HBR HNX HPG HPL HLI HIN HNN
          by_cases hz : (B Q).length = 0
          · have HBIT : Hid (rbit B s i = true) := hide (by rw [HRB.out, decide_eq_true hz, Bool.true_or])
            rw [hz] at c0
            clear u1 u2 u3 u4 HRB
            obtain ⟨hlt6, hw6⟩ := HSET.out HBIT.out
            have HW6 := hide hw6
            clear hw6
            rw [Int.natCast_add] at HW6
            have e64 : ((X : Int) + 2 ^ (i % 64)) % 18446744073709551616 = ((X + P : Nat) : Int) := by
              have : ((2 : Int) ^ (i % 64)) = ((P : Nat) : Int) := by rw [← hP, hR6, Int.natCast_pow]; rfl
              rw [this]; omega
            have e65 : IntKind.u64.wrap ((X : Int) + IntKind.u64.wrap ((2 : Int) ^ R6)) = (X : Int) + (P : Int) := by
              rw [show ((2 : Int) ^ R6) = ((P : Nat) : Int) by rw [← hP, Int.natCast_pow]; rfl, IntKind.wrap_u64, IntKind.wrap_u64]; omega
            have E65 := hide e65
            clear e65
            have had : IntKind.u64.wrap ((X : Int) + (P : Int)) = ((X + P : Nat) : Int) := by simp [IntKind.wrap, IntKind.bits, IntKind.signed]; omega
            clear HSET HSKIP
            go_wp2_with fail
            refine wp_still_tail 9 (by kernel_rfl) (by kernel_rfl) ?_
            simp only [List.take_succ_cons, List.take_zero, List.drop_succ_cons, List.drop_zero]
            repeat still_step
            refine wpStill_nil ?_
            go_wp2_with fail
            go_roundw
            case rel => exact ⟨i + 1, by omega, by go_num, by first | (rw [E65.out]; exact HW6.out) | exact HW6.out, by first | exact (HW2.out.setCell (p := ⟨w.heap.size, T6, none⟩) (Nat.le_refl _) _).drew | exact (HW2.out.setCell (p := ⟨w.heap.size, T6, none⟩) (Nat.le_refl _) _)⟩
            case measure => simp [intOf]; omega
          · have hl := u2.resolve_left hz
            obtain ⟨gb, go', rfl, hgb, hcb⟩ := u4 (by omega)
            obtain ⟨R, hR⟩ : ∃ R, T / 8 = R := ⟨_, rfl⟩
            obtain ⟨B8, hB8⟩ : ∃ B8, T % 8 = B8 := ⟨_, rfl⟩
            have hRs : R < s := by omega
            have cb := (HW2.out.cell (p := ⟨gb, go' + R, none⟩) hgb).trans (hcb R (by rw [hl]; exact hRs))
            have hx8 : (B Q).getD R 0 < 256 := u3 _ (by rw [List.getD_eq_getElem?_getD, List.getElem?_eq_getElem (by rw [hl]; exact hRs)]; exact List.getElem_mem _)
            have hrb2 : rbit B s i = ((B Q).getD R 0).testBit B8 := by
              rw [HRB.out, decide_eq_false hz, Bool.false_or, hR]
              obtain ⟨p1, p2, p3⟩ := place8 (i := i) hs2.1
              rw [hD, hT, hB8] at p3
              rw [← p3]
            rw [hl] at c0
            generalize (B Q).getD R 0 = x at *
            obtain ⟨Y, hY⟩ : ∃ Y : Nat, x / 2 ^ B8 = Y := ⟨_, rfl⟩
            have hYl : Y < 256 := by rw [← hY]; exact Nat.lt_of_le_of_lt (Nat.div_le_self _ _) hx8
            have hYi : (x : Int) / 2 ^ B8 = (Y : Int) := by rw [← hY, Int.natCast_ediv, Int.natCast_pow]; rfl
            have r1 : (T : Int) / 8 = (R : Int) := by omega
            have r2 : (T : Int).tdiv 8 = (R : Int) := by rw [Int.tdiv_eq_ediv_of_nonneg (by omega)]; exact r1
            have r3 : IntKind.i64.wrap (R : Int) = (R : Int) := by simp [IntKind.wrap, IntKind.bits, IntKind.signed]; omega
            have r4 : IntKind.i64.wrap ((T : Int) / 8) = (R : Int) := by rw [r1]; exact r3
            have n1 : (T : Int) % 8 = (B8 : Int) := by omega
            have n2 : (T : Int).tmod 8 = (B8 : Int) := by rw [Int.tmod_eq_emod_of_nonneg (by omega)]; exact n1
            have n3 : IntKind.i64.wrap (B8 : Int) = (B8 : Int) := by simp [IntKind.wrap, IntKind.bits, IntKind.signed]; omega
            have n4 : IntKind.i64.wrap ((T : Int) % 8) = (B8 : Int) := by rw [n1]; exact n3
            have hsh8 : Op.shift .shr .u8 (x : Int) .i64 (B8 : Int) = (pure (.int .u8 (Y : Int)) : Sem Value) := by
              rw [shift_shr .u8 .i64 (x : Int) (B8 : Int) (by omega) (by simp [IntKind.bits]; omega), Int.toNat_natCast, hYi]
            have han : bits .and .u8 (Y : Int) 1 = ((Y % 2 : Nat) : Int) := by
              exact and1_u8 Y hYl
            have b5 : (0 : Int) ≤ (R : Int) := by omega
            have b6 : (R : Int) < (s : Int) := by omega
            have s0 : ((s : Int) == 0) = false := by simp; omega
            rw [Nat.testBit_eq_decide_div_mod_eq, hY] at hrb2
            have HR2 := hide hrb2
            clear hrb2 u1 u2 u3 u4 hcb HRB hl hz
            by_cases hy : Y % 2 = 1
            · have HBIT : Hid (rbit B s i = true) := hide (by rw [HR2.out, decide_eq_true hy])
              have hy1 : (((Y % 2 : Nat) : Int) == 1) = true := by rw [hy]; rfl
              have hy2 : ((Y : Int) % 2) = 1 := by omega
              obtain ⟨hlt6, hw6⟩ := HSET.out HBIT.out
              have HW6 := hide hw6
              clear hw6
              rw [Int.natCast_add] at HW6
              have e64 : ((X : Int) + 2 ^ (i % 64)) % 18446744073709551616 = ((X + P : Nat) : Int) := by
                have : ((2 : Int) ^ (i % 64)) = ((P : Nat) : Int) := by rw [← hP, hR6, Int.natCast_pow]; rfl
                rw [this]; omega
              have e65 : IntKind.u64.wrap ((X : Int) + IntKind.u64.wrap ((2 : Int) ^ R6)) = (X : Int) + (P : Int) := by
                rw [show ((2 : Int) ^ R6) = ((P : Nat) : Int) by rw [← hP, Int.natCast_pow]; rfl, IntKind.wrap_u64, IntKind.wrap_u64]; omega
              have E65 := hide e65
              clear e65
              have had : IntKind.u64.wrap ((X : Int) + (P : Int)) = ((X + P : Nat) : Int) := by simp [IntKind.wrap, IntKind.bits, IntKind.signed]; omega
              clear HSET HSKIP
              go_wp2_with fail
              refine wp_still_tail 9 (by kernel_rfl) (by kernel_rfl) ?_
              simp only [List.take_succ_cons, List.take_zero, List.drop_succ_cons, List.drop_zero]
              repeat still_step
              refine wpStill_nil ?_
              go_wp2_with fail
              go_roundw
              case rel => exact ⟨i + 1, by omega, by go_num, by first | (rw [E65.out]; exact HW6.out) | exact HW6.out, by first | exact (HW2.out.setCell (p := ⟨w.heap.size, T6, none⟩) (Nat.le_refl _) _).drew | exact (HW2.out.setCell (p := ⟨w.heap.size, T6, none⟩) (Nat.le_refl _) _)⟩
              case measure => simp [intOf]; omega
            · have HBIT : Hid (rbit B s i = false) := hide (by rw [HR2.out, decide_eq_false hy])
              have HW6 := hide (HSKIP.out HBIT.out)
              have hy0 : Y % 2 = 0 := by omega
              have hy2 : ((Y : Int) % 2) = 0 := by omega
              clear HSET HSKIP
              go_wp2_with fail
              go_roundw
              case rel => exact ⟨i + 1, by omega, by go_num, HW6.out, HW2.out⟩
              case measure => simp [intOf]; omega
        · obtain rfl : n = i := by omega
          go_wp2_with fail
          (try simp only [Exit.inBlock, Exit.then]); refine bodyPost_ret (results_tmp3 rfl _ _ _) rfl ?_
          exact ⟨w.heap.size, by rw [HLB.out]; rfl, HW1.out, Nat.le_refl _, HW2.out⟩
end Go.Proofs.Ytkjaaknlhmneoaa
