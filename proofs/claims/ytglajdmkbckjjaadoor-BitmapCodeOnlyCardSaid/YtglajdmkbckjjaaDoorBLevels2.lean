import Derived.Test.YtglajdmkbckjjaaDoorBLevels
namespace Go.Proofs.YtglajdmkbckjjaaDoor
open Go.RowKit Go.Shelf
set_option linter.unusedVariables false
set_option linter.unusedSimpArgs false
set_option maxRecDepth 20000

theorem WSl.parts {w : World} {v : Value} {l : List Nat} (h : WSl w v l) (h0 : 0 < l.length) : ∃ b off cap, v = .slice (some ⟨b, off, none⟩) l.length cap ∧ l.length ≤ cap ∧ cap ≤ 9223372036854775807 ∧ ∀ i, i < l.length → w.cell? ⟨b, off + i, none⟩ = some (.int .u64 (l.getD i 0 : Nat)) := by
  obtain ⟨a, cap, rfl, h1, h2, h3, h4, h5⟩ := h
  obtain ⟨b, off, rfl, hc⟩ := h5 h0
  exact ⟨b, off, cap, rfl, h1, by unfold maxLen at h2; omega, hc⟩

set_option maxHeartbeats 1000000 in
theorem levels_any {w : World} {L : BL} {n B : Nat} (h : BRep w L n B) :
    Calls Tryd.prog 30 #[PB L, .int .i64 (n : Int)] w fun e w' => e = .returned (.bool true) ∧ Below w.heap.size w w' := by
  have hn1 := h.n1
  have hn2 := h.n2
  have hm1 : nW n ≤ 1024 := by unfold nW; omega
  have hm0 : 1 ≤ nW n := by unfold nW; omega
  have hq : nW (nW n) ≤ 16 := by unfold nW; omega
  have hq0 : 1 ≤ nW (nW n) := by unfold nW; omega
  have H := hide h
  have HW := hide (Words_any h)
  have hbe : Hid (cnt B.testBit (64 * nW n) = cnt B.testBit n) := hide (by
    obtain ⟨d, hd⟩ : ∃ d, 64 * nW n = n + d := ⟨64 * nW n - n, by unfold nW; omega⟩
    rw [hd, cnt_add, cnt_zero d (fun i _ => bit_ge h.hB (by omega))]
    rfl)
  have hl1 : ((nW n : Nat) : Int) = ((n : Int) + 63) / 64 := by unfold nW; omega
  have hl2 : ((nW (nW n) : Nat) : Int) = (((nW n : Nat) : Int) + 63) / 64 := by unfold nW; omega
  have hne1 : (((nW n : Nat) : Int) != ((n : Int) + 63) / 64) = false := by rw [hl1]; simp
  have hne2 : (((nW (nW n) : Nat) : Int) != (((nW n : Nat) : Int) + 63) / 64) = false := by rw [hl2]; simp
  have hcov : nW n ≤ 64 * nW (nW n) := by unfold nW; omega
  have HNS : Hid (∀ k, k < nW n → cnt B.testBit (64 * (k + 1)) = cnt B.testBit (64 * k) + cnt (wd B k).testBit 64) := hide fun k _ => by rw [show 64 * (k + 1) = 64 * k + 64 by omega, cnt_add, cnt_wd]
  have HNL : Hid (∀ k, cnt B.testBit (64 * k) ≤ 64 * k) := hide fun k => cnt_le _ _
  clear hl1 hl2 h
  unfold PB at *
  go_enter Tryd.func30, Tryd.ntmps30
  go_wp2_with (first
    | (go_at_call 17; refine HW.out.mono ?_; rintro e w1 ⟨v1, rfl, hr1, hv1, hb1⟩; have HV1 := hide hv1; have HB1 := hide hb1; obtain ⟨g1, o1, cap1, rfl, hc1, hx1, -⟩ := hv1.parts (by rw [wds_len]; exact hm0); clear hr1 hv1 hb1; rw [wds_len] at *; have HS := hide (Summary_any (H.out.below HB1.out)))
    | (go_at_call 55; refine HS.out.mono ?_; rintro e w2 ⟨v2, rfl, hr2, hv2, hb2⟩; have HV2 := hide hv2; have HB2 := hide hb2; obtain ⟨g2, o2, cap2, rfl, hc2, hx2, -⟩ := hv2.parts (by rw [wds_len]; exact hq0); clear hr2 hv2 hb2; rw [wds_len] at *; have HVL := hide (HV1.out.below HB2.out)))
  have HCL : Hid (∀ k, k < nW n → w2.cell? ⟨g1, o1 + k, none⟩ = some (.int .u64 (wd B k : Nat))) := hide fun k hk => by
    obtain ⟨b, off, cap, e, _, _, hc⟩ := HVL.out.parts (by rw [wds_len]; exact hm0)
    simp only [Value.slice.injEq, Option.some.injEq, Addr.mk.injEq] at e
    obtain ⟨⟨rfl, rfl, -⟩, -⟩ := e
    have := hc k (by rw [wds_len]; exact hk)
    rwa [wds_get hk] at this
  have HCU : Hid (∀ k, k < nW (nW n) → w2.cell? ⟨g2, o2 + k, none⟩ = some (.int .u64 (wd (up B (nW n)) k : Nat))) := hide fun k hk => by
    obtain ⟨b, off, cap, e, _, _, hc⟩ := HV2.out.parts (by rw [wds_len]; exact hq0)
    simp only [Value.slice.injEq, Option.some.injEq, Addr.mk.injEq] at e
    obtain ⟨⟨rfl, rfl, -⟩, -⟩ := e
    have := hc k (by rw [wds_len]; exact hk)
    rwa [wds_get hk] at this
  have HBB : Hid (Below w.heap.size w w2) := hide (HB1.out.trans (HB2.out.mono HB1.out.size))
  have HR : Hid (BRep w2 L n B) := hide (H.out.below HBB.out)
  have HBIT : Hid (∀ k, bits BinOp.and IntKind.u64 (((wd (up B (nW n)) (k / 64) : Nat) : Int) / 2 ^ (k % 64)) 1 = ((((decide (k < nW n) && decide (wd B k ≠ 0)).toNat : Nat)) : Int)) := hide fun k => by rw [bit_of_shift, testBit_up]
  clear HVL HV1 HV2 HB1 HB2 HW HS hne1 hne2 H
  obtain ⟨N, hN⟩ : ∃ N : Nat → Nat, ∀ k, N k = cnt B.testBit (64 * k) := ⟨_, fun _ => rfl⟩
  have HN0 : Hid (0 = N 0) := hide (by rw [hN]; rfl)
  have HCNT := hide (Count_any HR.out)
  rw [← hbe.out] at HCNT
  simp only [← hN] at HNL HNS HCNT
  clear hN hbe
  generalize hm2' : nW (nW n) = m2 at *
  generalize hm1' : nW n = m1 at *
  clear hm1' hm2'
  go_loop [7, 8] (fun t i => ∃ k : Nat, k ≤ 64 * m2 ∧ i = .int .i64 (k : Int) ∧ t = .int .i64 ((N (min k m1) : Nat) : Int)) (fun t i => 64 * m2 - (intOf i).toNat)
  case atStart => exact ⟨0, Nat.zero_le _, rfl, by rw [Nat.zero_min, ← HN0.out]; rfl⟩
  case round =>
    obtain ⟨k, hk, rfl, rfl⟩ := hrel
    have hNk := HNL.out (min k m1)
    have hmn : min k m1 ≤ m1 := Nat.min_le_right _ _
    by_cases hlt : k < 64 * m2
    · have hcu := HCU.out (k / 64) (by omega)
      have hbit := HBIT.out k
      generalize wd (up B m1) (k / 64) = u at *
      by_cases hkm : k < m1
      · have hcl := HCL.out k hkm
        have hw := wd_lt B k
        have hmk : min k m1 = k := Nat.min_eq_left (by omega)
        have HS : Hid (N (min (k + 1) m1) = N k + cnt (wd B k).testBit 64) := hide (by rw [Nat.min_eq_left (by omega)]; exact HNS.out k hkm)
        have hcc := cnt_le (wd B k).testBit 64
        have HO := hide (fun w => ones_law (wd B k) hw w)
        rw [hmk] at hNk hmn ⊢
        by_cases h0 : wd B k = 0
        · have hd : (decide (k < m1) && decide (wd B k ≠ 0)).toNat = 0 := by simp [h0]
          rw [hd] at hbit
          simp only [Int.natCast_zero] at hbit
          clear hd
          have hne : (((wd B k : Nat) : Int) != 0) = false := by simp [h0]
          clear h0 hmk HNS HCL HCU HNL HN0 HBIT
          generalize cnt (wd B k).testBit 64 = c at *
          generalize wd B k = x at *
          go_wp2_with (go_at_call 56; refine (HO.out _).mono ?_; rintro e w' ⟨rfl, rfl⟩)
          go_round
          case rel => exact ⟨k + 1, by omega, by go_num, by rw [HS.out]; go_num⟩
          case measure => simp [intOf]; omega
        · have hd : (decide (k < m1) && decide (wd B k ≠ 0)).toNat = 1 := by simp [h0, hkm]
          rw [hd] at hbit
          simp only [Int.natCast_one] at hbit
          clear hd
          have hne : (((wd B k : Nat) : Int) != 0) = true := by simp; exact h0
          clear h0 hmk HNS HCL HCU HNL HN0 HBIT
          generalize cnt (wd B k).testBit 64 = c at *
          generalize wd B k = x at *
          go_wp2_with (go_at_call 56; refine (HO.out _).mono ?_; rintro e w' ⟨rfl, rfl⟩)
          go_round
          case rel => exact ⟨k + 1, by omega, by go_num, by rw [HS.out]; go_num⟩
          case measure => simp [intOf]; omega
      · have hmk : min k m1 = m1 := Nat.min_eq_right (by omega)
        have HS : Hid (min (k + 1) m1 = m1) := hide (Nat.min_eq_right (by omega))
        have hd : (decide (k < m1) && decide (wd B k ≠ 0)).toNat = 0 := by simp [hkm]
        rw [hd] at hbit
        simp only [Int.natCast_zero] at hbit
        rw [hmk] at hNk ⊢
        clear hd hmk hmn HNS HCL HCU HNL HN0 HBIT
        go_wp2_with fail
        go_round
        case rel => exact ⟨k + 1, by omega, by go_num, by rw [HS.out]⟩
        case measure => simp [intOf]; omega
    · have HK : Hid (min k m1 = m1) := hide (Nat.min_eq_right (by omega))
      rw [HK.out] at hNk ⊢
      clear HNS HCL HCU HNL HN0 HBIT
      unfold PB at HCNT
      go_wp2_with (go_at_call 14; refine HCNT.out.mono ?_; rintro e w' ⟨rfl, rfl⟩)
      go_ret
      exact ⟨by simp, HBB.out⟩
end Go.Proofs.YtglajdmkbckjjaaDoor
