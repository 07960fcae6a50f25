import Derived.Test.YtkjaaknlhmneoaaMtBl
namespace Go.Proofs.Ytkjaaknlhmneoaa
open Go.RowKit
open Num
set_option linter.unusedVariables false
set_option linter.unusedSimpArgs false
set_option maxRecDepth 20000

set_option maxHeartbeats 4000000 in
theorem bits_yes (w : World) (n s : Nat) (turn : Int) (v : Value) (seed : List Nat) (hv : USl w v seed) (hs : okSz (s : Int) = true) (h1 : 1 ≤ n) (h2 : n ≤ 65536) : Calls Try.prog 6 #[.int .i64 (n : Int), v, .int .i64 (s : Int), .int .i64 turn] w fun e w' => e = .returned (.bool true) ∧ Below w.heap.size w w' := by
  have hs1 := okSz_pos hs
  have hup : ((n : Int) + 8 * (s : Int) - 1) / (8 * (s : Int)) = (((n - 1) / (8 * s) + 1 : Nat) : Int) := by
    rw [up_area hs (by omega)]
    unfold areaB
    rw [Int.natCast_add, Int.natCast_ediv, Int.natCast_mul]
    congr 2
    omega
  have hud : ((n : Int) + 8 * (s : Int) - 1).tdiv (8 * (s : Int)) = (((n - 1) / (8 * s) + 1 : Nat) : Int) := (Int.tdiv_eq_ediv_of_nonneg (by omega)).trans hup
  have hmb : (n - 1) / (8 * s) + 1 ≤ 65537 := by
    have := Nat.div_le_self (n - 1) (8 * s)
    omega
  have HBm := hide (Bm.words (n := n) (seed := seed) h1 (by obtain ⟨_, _, _, _, _, q, _⟩ := hv; exact q))
  have HSZ := hide fun x => sized_any x (s : Int)
  rw [hs] at HSZ
  have HW := hide (words_any w n v seed hv h1 h2)
  clear hv
  generalize wdL n seed = ws at *
  have HLEN := hide HBm.out.len
  have HPK := hide fun x u ws' (hb : Bm n ws') hu => pack_ok x n s u ws' hu hs h1 h2 hb.len (andNot_lm hb.last)
  have HUP := hide fun x O hP => unpack_ok x O n s (bkT ws s (ws.length * 8)) ws hP hs h1 h2 HBm.out.len (fun k hk => ⟨bkT_len _ _ _ _, bkT_lt _ _ _ _⟩) (fun i hi => lev_bk (by rw [HLEN.out]; exact hi) (word_in hs h1 hi).2.1 (word_in hs h1 hi).2.2 (HBm.out.lt i (by rw [HLEN.out]; exact hi))) (and_lm HBm.out.last)
  have hL : 1 ≤ (n + 63) / 64 ∧ (n + 63) / 64 ≤ 1024 := by omega
  have HLT : Hid (∀ t, t < n → t / 64 < (n + 63) / 64 ∧ t / 8 < ws.length * 8) := hide fun t ht => by have := HLEN.out; omega
  have HAR := hide fun x (t : Nat) => area_any x (t : Int) (s : Int)
  have HAN : Hid (∀ t : Nat, t < n → areaN (t : Int) (s : Int) = ((t / (8 * s) : Nat) : Int) ∧ areaE (t : Int) (s : Int) = 0 ∧ t / (8 * s) < (n - 1) / (8 * s) + 1) := hide fun t ht => by
    refine ⟨?_, ?_, ?_⟩
    · unfold areaN; rw [if_pos ⟨hs, by omega, by omega⟩, Int.natCast_ediv, Int.natCast_mul]; rfl
    · unfold areaE; rw [if_neg (by rw [hs]; simp), if_pos ⟨by omega, by omega⟩]
    · exact Nat.lt_succ_of_le (Nat.div_le_div_right (by omega))
  generalize (n - 1) / (8 * s) + 1 = m at *
  generalize (n + 63) / 64 = L at *
  have HUS : Hid (∀ x U ws', WRow x U ws' → Bm n ws' → ws'.length = L → USl x (.slice (some ⟨U, 0, none⟩) L L) ws') := hide fun x U ws' h hb hl => h.usl hl hb.lt (by omega)
  have HSW := hide fun x U V hU hV => sameWords_eq x U V L ws hU hV HLEN.out (by omega)
  have hz : ¬ 8 * (s : Int) = 0 := by omega
  by_cases ht : 0 ≤ turn ∧ turn < n
  case neg =>
    by_cases hneg : turn < 0
    · go_enter Try.func6, Try.ntmps6
      go_wp2_with (first
        | (go_at_call 13; refine (HSZ.out _).mono ?_; rintro e w1 ⟨rfl, hw1⟩; have hws := hw1.symm; clear hw1; subst hws)
        | (go_at_call 16; refine HW.out.mono ?_; rintro e w1 ⟨rfl, hr1, hb1⟩; have HR1 := hide hr1; have HB1 := hide hb1; clear hr1 hb1 HW))
      go_at_call 15
      refine (HPK.out _ _ ws HBm.out (HUS.out _ _ _ HR1.out HBm.out HLEN.out)).mono ?_
      rintro e w2 ⟨O, rfl, hP2, hO2, hb2⟩
      have HS2 : Hid (LSt w w2 O m s ws (bkT ws s (ws.length * 8))) := hide ⟨HB1.out.trans (hb2.mono HB1.out.size), HR1.out.below hb2, hP2, Nat.lt_of_lt_of_le (heap_lt HR1.out) hO2⟩
      clear hP2 hO2 hb2 HR1 HB1
      go_wp2_with (first
        | (go_at_call 17; refine (HUP.out _ _ HS2.out.blk).mono ?_; rintro e w3 ⟨V, rfl, hr3, hv3, hb3⟩; have HS3 := hide (HS2.out.step hb3); have HR3 := hide hr3; clear hr3 hv3 hb3 HS2)
        | (go_at_call 18; refine (HSW.out _ _ _ HR3.out HS3.out.row).mono ?_; rintro e w4 ⟨rfl, hb4⟩; have HS4 := hide (HS3.out.step hb4); clear hb4 HS3))
      go_ret
      exact ⟨rfl, HS4.out.below⟩
    · have hge : (n : Int) ≤ turn := by omega
      go_enter Try.func6, Try.ntmps6
      go_wp2_with (first
        | (go_at_call 13; refine (HSZ.out _).mono ?_; rintro e w1 ⟨rfl, hw1⟩; have hws := hw1.symm; clear hw1; subst hws)
        | (go_at_call 16; refine HW.out.mono ?_; rintro e w1 ⟨rfl, hr1, hb1⟩; have HR1 := hide hr1; have HB1 := hide hb1; clear hr1 hb1 HW))
      go_at_call 15
      refine (HPK.out _ _ ws HBm.out (HUS.out _ _ _ HR1.out HBm.out HLEN.out)).mono ?_
      rintro e w2 ⟨O, rfl, hP2, hO2, hb2⟩
      have HS2 : Hid (LSt w w2 O m s ws (bkT ws s (ws.length * 8))) := hide ⟨HB1.out.trans (hb2.mono HB1.out.size), HR1.out.below hb2, hP2, Nat.lt_of_lt_of_le (heap_lt HR1.out) hO2⟩
      clear hP2 hO2 hb2 HR1 HB1
      go_wp2_with (first
        | (go_at_call 17; refine (HUP.out _ _ HS2.out.blk).mono ?_; rintro e w3 ⟨V, rfl, hr3, hv3, hb3⟩; have HS3 := hide (HS2.out.step hb3); have HR3 := hide hr3; clear hr3 hv3 hb3 HS2)
        | (go_at_call 18; refine (HSW.out _ _ _ HR3.out HS3.out.row).mono ?_; rintro e w4 ⟨rfl, hb4⟩; have HS4 := hide (HS3.out.step hb4); clear hb4 HS3))
      go_ret
      exact ⟨rfl, HS4.out.below⟩
  case pos =>
    obtain ⟨t, rfl⟩ : ∃ t : Nat, turn = (t : Int) := ⟨turn.toNat, by omega⟩
    have htn : t < n := by omega
    obtain ⟨ha1, ha2, ha3⟩ := HAN.out t htn
    have HAT := hide fun x => HAR.out x t
    rw [ha1, ha2] at HAT
    have HTN := hide (HBm.out.turn htn)
    have HDS : Hid (∀ k, decide (bkT (tnW ws t) s (ws.length * 8) k = bkT ws s (ws.length * 8) k) = decide (¬ k = t / (8 * s))) := hide fun k => by
      by_cases e : k = t / (8 * s)
      · subst e
        rw [decide_eq_false (bk_diff (HLT.out t htn).2 (by omega)), decide_eq_false (by simp)]
      · rw [decide_eq_true (bk_same e (by omega)), decide_eq_true e]
    clear HAR HAN ha1 ha2
    generalize t / (8 * s) = K at *
    have hTL := (HLT.out t htn).1
    have HST : Hid (∀ y O0, LSt w y O0 m s ws (bkT ws s (ws.length * 8)) → LSt w (y.setCell ⟨w.heap.size, t / 64, none⟩ (.int .u64 ((ws.getD (t / 64) 0 ^^^ 2 ^ (t % 64) : Nat) : Int))) O0 m s (tnW ws t) (bkT ws s (ws.length * 8))) := hide fun y O0 h => h.store
    have hx64 := HBm.out.lt (t / 64) (by rw [HLEN.out]; exact hTL)
    have HXO : Hid (bits .xor .u64 ((ws.getD (t / 64) 0 : Nat) : Int) ((2 ^ (t % 64) : Nat) : Int) = ((ws.getD (t / 64) 0 ^^^ 2 ^ (t % 64) : Nat) : Int)) := hide (bits_xor_u64_nat _ _ hx64 (Nat.pow_lt_pow_right (by decide) (by omega) : 2 ^ (t % 64) < 2 ^ 64))
    have HCL : Hid (∀ y, WRow y w.heap.size ws → y.cell? ⟨w.heap.size, t / 64, none⟩ = some (.int .u64 (ws.getD (t / 64) 0 : Nat)) ∧ y.frozen? ⟨w.heap.size, t / 64, none⟩ = false) := hide fun y h => h.cell (by rw [HLEN.out]; exact hTL)
    generalize ws.getD (t / 64) 0 = x at *
    obtain ⟨T, hT0⟩ : ∃ T, t / 64 = T := ⟨_, rfl⟩
    obtain ⟨R, hR0⟩ : ∃ R, t % 64 = R := ⟨_, rfl⟩
    rw [hT0] at HST HCL hTL
    rw [hR0] at HST HXO
    have hRb : R ≤ 63 := by omega
    have hn1 : (t : Int) % 64 = (R : Int) := by omega
    have hd1 : (t : Int) / 64 = (T : Int) := by omega
    have hd2 : (t : Int).tdiv 64 = (T : Int) := by rw [Int.tdiv_eq_ediv_of_nonneg (by omega)]; exact hd1
    have hd3 : IntKind.i64.wrap (T : Int) = (T : Int) := by simp [IntKind.wrap, IntKind.bits, IntKind.signed]; omega
    have hd4 : IntKind.i64.wrap ((t : Int) / 64) = (T : Int) := by rw [hd1]; exact hd3
    have hrm1 : (t : Int).tmod 64 = (R : Int) := by rw [Int.tmod_eq_emod_of_nonneg (by omega)]; exact hn1
    have hrm2 : IntKind.i64.wrap (R : Int) = (R : Int) := by simp [IntKind.wrap, IntKind.bits, IntKind.signed]; omega
    have hrm3 : IntKind.i64.wrap ((t : Int) % 64) = (R : Int) := by rw [hn1]; exact hrm2
    have hpw : (2 : Nat) ^ R ≤ 2 ^ 63 := Nat.pow_le_pow_right (by decide) hRb
    obtain ⟨P, hP⟩ : ∃ P : Nat, 2 ^ R = P := ⟨_, rfl⟩
    rw [hP] at HST HXO hpw
    have hi8 : (0 : Int) ≤ (R : Int) := by omega
    have hi9 : (R : Int) ≤ 64 := by omega
    have HWQ : Hid (IntKind.u64.wrap ((2 : Int) ^ R) = (P : Int)) := hide (by
      have : ((2 : Int) ^ R) = ((P : Nat) : Int) := by rw [← hP, Int.natCast_pow]; rfl
      rw [this, IntKind.wrap_u64]
      omega)
    have hsh : Op.shift .shl .u64 (1 : Int) .i64 (R : Int) = (pure (.int .u64 (P : Int)) : Sem Value) := by
      rw [shift_shl .u64 .i64 (1 : Int) (R : Int) hi8 (by simpa [IntKind.bits] using hi9), Int.toNat_natCast]
      congr 2
      rw [Int.one_mul]
      exact HWQ.out
    have hb1 : (0 : Int) ≤ (T : Int) := by omega
    have hb2 : (T : Int) < (L : Int) := by omega
    go_enter Try.func6, Try.ntmps6
    go_wp2_with (first
      | (go_at_call 13; refine (HSZ.out _).mono ?_; rintro e w1 ⟨rfl, hw1⟩; have hws := hw1.symm; clear hw1; subst hws)
      | (go_at_call 16; refine HW.out.mono ?_; rintro e w1 ⟨rfl, hr1, hb1⟩; have HR1 := hide hr1; have HB1 := hide hb1; clear hr1 hb1 HW))
    go_at_call 15
    refine (HPK.out _ _ ws HBm.out (HUS.out _ _ _ HR1.out HBm.out HLEN.out)).mono ?_
    rintro e w2 ⟨O, rfl, hP2, hO2, hb2⟩
    have HS2 : Hid (LSt w w2 O m s ws (bkT ws s (ws.length * 8))) := hide ⟨HB1.out.trans (hb2.mono HB1.out.size), HR1.out.below hb2, hP2, Nat.lt_of_lt_of_le (heap_lt HR1.out) hO2⟩
    clear hP2 hO2 hb2 HR1 HB1
    go_wp2_with (first
      | (go_at_call 17; refine (HUP.out _ _ HS2.out.blk).mono ?_; rintro e w3 ⟨V, rfl, hr3, hv3, hb3⟩; have HS3 := hide (HS2.out.step hb3); have HR3 := hide hr3; clear hr3 hv3 hb3 HS2)
      | (go_at_call 18; refine (HSW.out _ _ _ HR3.out HS3.out.row).mono ?_; rintro e w4 ⟨rfl, hb4⟩; have HS4 := hide (HS3.out.step hb4); clear hb4 HS3))
    obtain ⟨c1, f1⟩ := HCL.out _ HS4.out.row
    refine wp_still_tail 12 (by kernel_rfl) (by kernel_rfl) ?_
    simp only [List.take_succ_cons, List.take_zero, List.drop_succ_cons, List.drop_zero]
    repeat still_step
    refine wpStill_nil ?_
    have e : bits .xor .u64 (x : Int) (IntKind.u64.wrap ((2 : Int) ^ R)) = ((x ^^^ P : Nat) : Int) := by rw [HWQ.out]; exact HXO.out
    have HS5 := hide ((HST.out _ _ HS4.out).step (Below.refl _ _).drew)
    go_wp2_with fail
    go_at_call 15
    clear c1 f1 e HXO HWQ hsh
    generalize (w4.setCell ⟨w.heap.size, T, none⟩ (.int .u64 ((x ^^^ P : Nat) : Int))).drew = w5 at *
    refine (HPK.out _ _ (tnW ws t) HTN.out (HUS.out _ _ _ HS5.out.row HTN.out (by rw [tnW_len]; exact HLEN.out))).mono ?_
    rintro e6 w6 ⟨O', rfl, hP6, hO6, hb6⟩
    have HS6 := hide (HS5.out.step hb6)
    rw [tnW_len] at hP6
    have HP6 := hide hP6
    clear hP6 hO6 hb6 HS5 HPK HUS HSW HUP HST HCL HLT
    have HCC : Hid (∀ q i, i < m → (w6.drewN q).cell? ⟨O', i, none⟩ = some (Value.slice (some ⟨O' + 1 + i, 0, none⟩) s s) ∧ (w6.drewN q).cell? ⟨O, i, none⟩ = some (Value.slice (some ⟨O + 1 + i, 0, none⟩) s s)) := hide fun q i hi => ⟨HP6.out.cell hi, HS6.out.blk.cell hi⟩
    have HSB : Hid (∀ q i, i < m → Calls Try.prog 19 #[.slice (some ⟨O' + 1 + i, 0, none⟩) s s, .slice (some ⟨O + 1 + i, 0, none⟩) s s] (w6.drewN q).drew fun e w' => e = .returned (.bool (decide (¬ i = K))) ∧ ∃ q', w' = (w6.drewN q).drew.drewN q') := hide fun q i hi => by
      refine (sameBlk (w6.drewN q).drew (O' + 1 + i) (O + 1 + i) s _ _ (HP6.out.blk i hi) (HS6.out.blk.blk i hi) (bkT_len _ _ _ _) (bkT_len _ _ _ _) (by omega)).mono ?_
      rintro e w' ⟨rfl, q', rfl⟩
      exact ⟨by rw [HDS.out i], q', rfl⟩
    have HF : Hid (∀ q, Below w.heap.size w (w6.drewN q)) := hide fun q => have h := HS6.out.below; ⟨h.os, h.tape, h.output, h.size, h.block⟩
    clear HP6 HS6 HDS HTN HBm HLEN
    go_wp2_with (go_at_call 9; refine (HAT.out _).mono ?_; rintro e w7 ⟨rfl, hw7⟩; have hws := hw7.symm; clear hw7; subst hws)
    go_loopw [22] (fun x wr => ∃ i q : Nat, i ≤ m ∧ x = .int .i64 (i : Int) ∧ wr = w6.drewN q) (fun x _ => m - (intOf x).toNat)
    case atStart => exact ⟨0, 0, Nat.zero_le _, rfl, rfl⟩
    case round =>
      obtain ⟨i, q, hi, rfl, hwr⟩ := hrel
      have HWR := hide hwr
      by_cases hlt : i < m
      · obtain ⟨cc1, cc2⟩ := HCC.out q i hlt
        rw [← hwr] at cc1 cc2
        have HSI := hide (HSB.out q i hlt)
        rw [← hwr] at HSI
        clear hwr
        by_cases hik : i = K
        · rw [decide_eq_false (by simpa using hik)] at HSI
          subst hik
          have hie : ((i : Int) == (i : Int)) = true := by simp
          go_wp2_with fail
          refine wp_still_tail 8 (by kernel_rfl) (by kernel_rfl) ?_
          simp only [List.take_succ_cons, List.take_zero, List.drop_succ_cons, List.drop_zero]
          repeat still_step
          refine wpStill_nil ?_
          go_wp2_with (go_at_call 19; refine HSI.out.mono ?_; rintro e8 w8 ⟨rfl, q8, hw8⟩; have HW8 := hide hw8; clear hw8)
          go_roundw
          case rel => exact ⟨i + 1, _, by omega, by go_num, by rw [HW8.out, HWR.out, World.drew_drewN]; exact World.drewN_drewN ..⟩
          case measure => simp [intOf]; omega
        · rw [decide_eq_true hik] at HSI
          have hie : ((i : Int) == (K : Int)) = false := by simp; omega
          go_wp2_with fail
          refine wp_still_tail 8 (by kernel_rfl) (by kernel_rfl) ?_
          simp only [List.take_succ_cons, List.take_zero, List.drop_succ_cons, List.drop_zero]
          repeat still_step
          refine wpStill_nil ?_
          go_wp2_with (go_at_call 19; refine HSI.out.mono ?_; rintro e8 w8 ⟨rfl, q8, hw8⟩; have HW8 := hide hw8; clear hw8)
          go_roundw
          case rel => exact ⟨i + 1, _, by omega, by go_num, by rw [HW8.out, HWR.out, World.drew_drewN]; exact World.drewN_drewN ..⟩
          case measure => simp [intOf]; omega
      · clear hwr
        go_wp2_with fail
        go_ret
        exact ⟨rfl, by rw [HWR.out]; exact HF.out _⟩
end Go.Proofs.Ytkjaaknlhmneoaa
