import Derived.Test.YtepgiomgkgfioaaMtUs
import Derived.Test.YtepgiomgkgfioaaMtWb
namespace Go.Proofs.Ytepgiomgkgfioaa
open Go.RowKit
open Num
set_option linter.unusedVariables false
set_option linter.unusedSimpArgs false
set_option maxRecDepth 20000

/-- blocks that Unpack reads: each nil or whole -/
def UB (w : World) (O off m s : Nat) (B : Nat → List Nat) : Prop := ∀ k, k < m → ∃ a c, w.cell? ⟨O, off + k, none⟩ = some (.slice a (B k).length c) ∧ O < w.heap.size ∧ (B k).length ≤ c ∧ ((B k).length = 0 ∨ (B k).length = s) ∧ (∀ x ∈ B k, x < 256) ∧ (0 < (B k).length → ∃ b o, a = some ⟨b, o, none⟩ ∧ b < w.heap.size ∧ ∀ i, i < (B k).length → w.cell? ⟨b, o + i, none⟩ = some (.int .u8 ((B k).getD i 0 : Nat)))
theorem UB.below {w w' : World} {O off m s : Nat} {B : Nat → List Nat} (h : UB w O off m s B) (hb : Below w.heap.size w w') : UB w' O off m s B := fun k hk => by
  obtain ⟨a, c, c0, hO, q1, q2, q3, q4⟩ := h k hk
  refine ⟨a, c, by rw [World.cell?_of_block (hb.block O hO)]; exact c0, Nat.lt_of_lt_of_le hO hb.size, q1, q2, q3, fun h0 => ?_⟩
  obtain ⟨b, o, e, hl, hc⟩ := q4 h0
  exact ⟨b, o, e, Nat.lt_of_lt_of_le hl hb.size, fun i hi => by rw [World.cell?_of_block (hb.block b hl)]; exact hc i hi⟩
/-- word i of the blocks, ahead of the mask -/
def uW (B : Nat → List Nat) (s i : Nat) : Nat := if (B (i * 8 / s)).length = 0 then 18446744073709551615 else lev ((B (i * 8 / s)).drop (i * 8 % s)) 8
def uL (B : Nat → List Nat) (s L : Nat) : List Nat := (List.range L).map (uW B s)
theorem uL_len (B : Nat → List Nat) (s L : Nat) : (uL B s L).length = L := by simp [uL]
theorem uL_get {B : Nat → List Nat} {s L i : Nat} (h : i < L) : (uL B s L).getD i 0 = uW B s i := by simp [uL, List.getD, h]
def lostN (B : Nat → List Nat) (j : Nat) : Bool := (List.range j).any fun k => (B k).length == 0
theorem lostN_succ (B : Nat → List Nat) (j : Nat) : lostN B (j + 1) = (lostN B j || ((B j).length == 0)) := by simp [lostN, List.range_succ]
theorem UB.word {w : World} {O off m s i : Nat} {B : Nat → List Nat} (h : UB w O off m s B) (hK : i * 8 / s < m) (hA : i * 8 % s + 8 ≤ s) (hs : s ≤ 1024) : ∃ a c, w.cell? ⟨O, off + i * 8 / s, none⟩ = some (.slice a (B (i * 8 / s)).length c) ∧ ∀ q, Calls Try.prog 38 #[.slice a (B (i * 8 / s)).length c, .int .i64 ((i * 8 % s : Nat) : Int)] (w.drewN q) fun e w' => e = .returned (.int .u64 (uW B s i : Nat)) ∧ ∃ k, w' = (w.drewN q).drewN k := by
  obtain ⟨a, c, c0, hO, q1, q2, q3, q4⟩ := h _ hK
  refine ⟨a, c, c0, fun q => ?_⟩
  unfold uW
  by_cases h0 : (B (i * 8 / s)).length = 0
  · rw [if_pos h0, h0]
    refine (wordB_nil _ _ _ _).mono ?_
    rintro e w' ⟨rfl, rfl⟩
    exact ⟨rfl, 0, rfl⟩
  · rw [if_neg h0]
    have hl := q2.resolve_left h0
    obtain ⟨b, o, rfl, _, hc⟩ := q4 (by omega)
    have := wordB_any (w.drewN q) b o c s (i * 8 % s) (B (i * 8 / s)) hc hl q3 hA hs (by omega)
    rw [hl]
    exact this
set_option maxHeartbeats 4000000 in
theorem unpack_any (w : World) (O off cap n s : Nat) (B : Nat → List Nat) (hP : UB w O off ((n - 1) / (8 * s) + 1) s B) (hs : okSz (s : Int) = true) (h1 : 1 ≤ n) (h2 : n ≤ 65536) (hx64 : uW B s ((n + 63) / 64 - 1) < 18446744073709551616) :
    Calls Try.prog 14 #[.int .i64 (n : Int), .slice (some ⟨O, off, none⟩) ((n - 1) / (8 * s) + 1) cap, .int .i64 (s : Int)] w fun e w' => e = .returned (.tuple #[.slice (some ⟨w.heap.size, 0, none⟩) ((n + 63) / 64) ((n + 63) / 64), .bool (lostN B ((n - 1) / (8 * s) + 1)), .int .i64 0]) ∧ WRow w' w.heap.size ((uL B s ((n + 63) / 64)).set ((n + 63) / 64 - 1) (uW B s ((n + 63) / 64 - 1) % 2 ^ lr n)) ∧ Below w.heap.size w w' := by
  have hp : s = 128 ∨ s = 256 ∨ s = 512 ∨ s = 1024 := by
    unfold okSz at hs
    simp at hs
    omega
  have hs1 : 1 ≤ s ∧ s ≤ 1024 := by omega
  have HVB := hide fun x => validBits_any x (n : Int)
  rw [decide_eq_true (by omega), decide_eq_true (by omega)] at HVB
  have HVS := hide fun x => validSize_any x (s : Int)
  rw [hs] at HVS
  have HWC := hide fun x => wordCount_any x n h2
  have HLM := hide fun x => lastMask_any x n h2
  have HAB := hide fun x => areaBlocks_any x (n : Int) (s : Int) hs (by omega) (by omega)
  rw [areaB_nat h1] at HAB
  have HWP := hide fun x i (hi : i ≤ 65536) => wordPlace_any x i s hs1.1 hs1.2 hi
  have HIN := hide fun i hi => word_in (i := i) hs h1 hi
  have hmb : (n - 1) / (8 * s) + 1 ≤ 65537 := by
    have := Nat.div_le_self (n - 1) (8 * s)
    omega
  have HAN : Hid (bits .and .u64 (uW B s ((n + 63) / 64 - 1) : Nat) (lm n : Nat) = ((uW B s ((n + 63) / 64 - 1) % 2 ^ lr n : Nat) : Int)) := hide (by
    rw [bits_and_u64_nat _ _ hx64 (lm_lt n), lm_eq, Nat.and_two_pow_sub_one_eq_mod])
  generalize (n - 1) / (8 * s) + 1 = m at *
  have hLb : 1 ≤ (n + 63) / 64 ∧ (n + 63) / 64 ≤ 1024 := by omega
  generalize (n + 63) / 64 = L at *
  have hmk := made_words L (by omega)
  have HP := hide hP
  clear hs hP hx64
  go_enter Try.func14, Try.ntmps14
  go_wp2_with (first
    | (go_at_call 22; refine (HVB.out _).mono ?_; rintro e w1 ⟨rfl, hw1⟩; have hws := hw1.symm; clear hw1; subst hws)
    | (go_at_call 23; refine (HVS.out _).mono ?_; rintro e w1 ⟨rfl, hw1⟩; have hws := hw1.symm; clear hw1; subst hws)
    | (go_at_call 26; refine (HAB.out _).mono ?_; rintro e w1 ⟨rfl, hw1⟩; have hws := hw1.symm; clear hw1; subst hws))
  clear HVB HVS HAB
  go_loopw [9, 32] (fun x i wr => ∃ j : Nat, j ≤ m ∧ i = .int .i64 (j : Int) ∧ x = .bool (lostN B j) ∧ wr = w) (fun _ i _ => m - (intOf i).toNat)
  case atStart => exact ⟨0, Nat.zero_le _, rfl, rfl, rfl⟩
  case round =>
    obtain ⟨j, hj, rfl, rfl, hwr⟩ := hrel
    have hwrs := hwr.symm
    clear hwr
    subst hwrs
    by_cases hlt : j < m
    · obtain ⟨a, c, c0, _, _, q2, _, _⟩ := HP.out j hlt
      have HLS := hide (lostN_succ B j)
      by_cases e0 : (B j).length = 0
      · rw [e0] at c0 HLS
        clear q2 e0
        cases hb : lostN B j with
        | false =>
          rw [hb] at HLS
          go_wp2_with fail
          go_roundw
          case rel => exact ⟨j + 1, by omega, by go_num, by rw [HLS.out]; rfl, by first | rfl | trivial⟩
          case measure => simp [intOf]; omega
        | true =>
          rw [hb] at HLS
          go_wp2_with fail
          go_roundw
          case rel => exact ⟨j + 1, by omega, by go_num, by rw [HLS.out]; rfl, by first | rfl | trivial⟩
          case measure => simp [intOf]; omega
      · have e1 := q2.resolve_left e0
        rw [e1] at c0 HLS
        rw [show (s == 0) = false by simp; omega, Bool.or_false] at HLS
        clear q2 e0 e1
        have e1 : ((s : Int) == 0) = false := by simp; omega
        have e2 : ((s : Int) != 0) = true := by simp; omega
        have e3 : ((s : Int) != (s : Int)) = false := by simp
        cases hb : lostN B j with
        | false =>
          rw [hb] at HLS
          go_wp2_with fail
          go_roundw
          case rel => exact ⟨j + 1, by omega, by go_num, by rw [HLS.out], by first | rfl | trivial⟩
          case measure => simp [intOf]; omega
        | true =>
          rw [hb] at HLS
          go_wp2_with fail
          go_roundw
          case rel => exact ⟨j + 1, by omega, by go_num, by rw [HLS.out], by first | rfl | trivial⟩
          case measure => simp [intOf]; omega
    · obtain rfl : j = m := by omega
      obtain ⟨LO, hLO⟩ : ∃ LO, lostN B j = LO := ⟨_, rfl⟩
      have HLO := hide hLO
      rw [hLO]
      clear hLO
      go_wp2_with (first
        | (go_at_call 24; refine (HWC.out _).mono ?_; rintro e w1 ⟨rfl, hw1⟩; have hws := hw1.symm; clear hw1; subst hws))
      have HR0 : Hid (WRow (w.alloc (.cells (Array.replicate L (u64v 0)) 57)) w.heap.size ((uL B s L).take 0 ++ List.replicate (L - 0) 0)) := hide (by unfold WRow; rw [Go.heap_alloc_new]; simp)
      have HB0 : Hid (Below w.heap.size w (w.alloc (.cells (Array.replicate L (u64v 0)) 57))) := hide ((Below.refl _ _).alloc (Nat.le_refl _) _)
      clear hmk HWC
      generalize w.alloc (.cells (Array.replicate L (u64v 0)) 57) = w2 at *
      go_loopw [57] (fun x wr => ∃ i : Nat, i ≤ L ∧ x = .int .i64 (i : Int) ∧ WRow wr w.heap.size ((uL B s L).take i ++ List.replicate (L - i) 0) ∧ Below w.heap.size w wr) (fun x _ => L - (intOf x).toNat)
      case atStart => exact ⟨0, Nat.zero_le _, rfl, HR0.out, HB0.out⟩
      case round =>
        clear HR0 HB0
        obtain ⟨i, hi, rfl, hR, hB⟩ := hrel
        have HR := hide hR
        have HB := hide hB
        by_cases hlt2 : i < L
        · obtain ⟨hK, hA, hKA⟩ := HIN.out i hlt2
          have HWQ := hide fun x => HWP.out x i (by omega)
          obtain ⟨aa, cc, c0, hWA⟩ := (HP.out.below hB).word hK hA hs1.2
          have HWA := hide hWA
          obtain ⟨c1, f1⟩ := hR.cell (i := i) (by simp [uL_len]; omega)
          have HST : Hid (((uL B s L).take i ++ List.replicate (L - i) 0).set i (uW B s i) = (uL B s L).take (i + 1) ++ List.replicate (L - (i + 1)) 0) := hide (by have := fill_set (ws := uL B s L) (i := i) (by rw [uL_len]; exact hlt2); rw [uL_len, uL_get hlt2] at this; exact this)
          have c0' : wr.cell? ⟨O, off + (i * 8 / s), none⟩ = some (.slice aa (B (i * 8 / s)).length cc) := c0
          clear hR hB HWP HIN hWA HAN HLM c0
          generalize ((uL B s L).take i ++ List.replicate (L - i) 0).getD i 0 = y0 at *
          generalize (B (i * 8 / s)).length = NN at *
          generalize i * 8 / s = K at *
          generalize i * 8 % s = A at *
          generalize uW B s i = wd at *
          go_wp2_with (first
            | (go_at_call 27; refine (HWQ.out _).mono ?_; rintro e w3 ⟨rfl, m3, h3⟩; subst h3)
            | (go_at_call 38; refine (HWA.out _).mono ?_; rintro e w4 ⟨rfl, m4, h4⟩; subst h4))
          go_roundw
          case rel =>
            have hr : WRow (wr.setCell ⟨w.heap.size, i, none⟩ (.int .u64 (wd : Int))) w.heap.size ((uL B s L).take (i + 1) ++ List.replicate (L - (i + 1)) 0) := by rw [← HST.out]; exact HR.out.set
            have hb := HB.out.setCell (p := ⟨w.heap.size, i, none⟩) (Nat.le_refl _) (.int .u64 (wd : Int))
            exact ⟨i + 1, by omega, by go_num, hr, ⟨hb.os, hb.tape, hb.output, hb.size, hb.block⟩⟩
          case measure => simp [intOf]; omega
        · obtain rfl : i = L := by omega
          rw [List.take_of_length_le (by rw [uL_len]; exact Nat.le_refl _), Nat.sub_self, List.replicate_zero, List.append_nil] at HR
          obtain ⟨L', rfl⟩ : ∃ L', i = L' + 1 := ⟨i - 1, by omega⟩
          obtain ⟨c1, f1⟩ := HR.out.cell (i := L') (by rw [uL_len]; omega)
          rw [uL_get (Nat.lt_succ_self _)] at c1
          rw [Nat.add_sub_cancel] at HAN
          have HRS := hide (HR.out.set (i := L') (x := uW B s L' % 2 ^ lr n))
          have HBS := hide (HB.out.setCell (p := ⟨w.heap.size, L', none⟩) (Nat.le_refl _) (.int .u64 (uW B s L' % 2 ^ lr n : Nat)))
          have hla := HAN.out
          obtain ⟨wm, hwm⟩ : ∃ wm, uW B s L' % 2 ^ lr n = wm := ⟨_, rfl⟩
          rw [hwm] at HRS HBS hla
          have HWM := hide hwm
          obtain ⟨wd, hwd⟩ : ∃ wd, uW B s L' = wd := ⟨_, rfl⟩
          rw [hwd] at c1 hla
          clear hR hB HP HIN HWP HAN hwm hwd
          have hli : ((L' : Int) + 1 - 1) = (L' : Int) := by omega
          have hwl : IntKind.i64.wrap ((L' : Int) + 1 - 1) = (L' : Int) := by rw [hli]; simp [IntKind.wrap, IntKind.bits, IntKind.signed]; omega
          have hwl2 : IntKind.i64.wrap (L' : Int) = (L' : Int) := by simp [IntKind.wrap, IntKind.bits, IntKind.signed]; omega
          have hb1 : (0 : Int) ≤ (L' : Int) := by omega
          have hb2 : (L' : Int) < (L' : Int) + 1 := by omega
          go_wp2_with fail
          refine wp_still_tail 10 (by kernel_rfl) (by kernel_rfl) ?_
          simp only [List.take_succ_cons, List.take_zero, List.drop_succ_cons, List.drop_zero]
          repeat (first | still_step | still_call (HLM.out _))
          refine wpStill_nil ?_
          go_wp2_with fail
          (try simp only [Exit.inBlock, Exit.then]); refine bodyPost_ret (results_tmp3 rfl _ _ _) rfl ?_
          have hb := HBS.out
          have hr := HRS.out
          rw [← HWM.out] at hr
          refine ⟨by rw [HLO.out]; rfl, ?_, ?_⟩
          · rw [Nat.add_sub_cancel]; first | exact hr | (rw [← HWM.out]; exact hr)
          · exact ⟨hb.os, hb.tape, hb.output, hb.size, hb.block⟩
end Go.Proofs.Ytepgiomgkgfioaa
