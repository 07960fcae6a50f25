import Derived.Test.YtbkcenpohcjgnabDoorRefAbove
import Derived.Deep.RegionHeld3
namespace Go.Proofs.YtbkcenpohcjgnabDoor
open Go.RowKit
open Num
set_option linter.unusedVariables false
set_option linter.unusedSimpArgs false

def limbsL (x : Nat) : List Nat := [x % 65536, x / 65536 % 65536, x / 65536 / 65536]
theorem limbsL_val (x : Nat) : val (limbsL x) = x := by simp only [limbsL, val]; omega
theorem limbsL_lt {x : Nat} (hx : x < 281474976710656) : ∀ d ∈ limbsL x, d < 65536 := by
  intro d hd
  simp only [limbsL, List.mem_cons, List.not_mem_nil, or_false] at hd
  rcases hd with rfl | rfl | rfl <;> omega

set_option maxHeartbeats 1000000 in
theorem limbs_any (x : Nat) (hx : x < 281474976710656) (w : World) :
    Calls Tryd.prog 57 #[.int .i64 (x : Int)] w fun e w' => ∃ v', e = .returned v' ∧ DSl w' v' (limbsL x) ∧ Below w.heap.size w w' := by
  obtain ⟨a, ha⟩ : ∃ a, x % 65536 = a := ⟨_, rfl⟩
  obtain ⟨b, hb⟩ : ∃ b, x / 65536 = b := ⟨_, rfl⟩
  obtain ⟨c, hc⟩ : ∃ c, b % 65536 = c := ⟨_, rfl⟩
  obtain ⟨d, hd⟩ : ∃ d, b / 65536 = d := ⟨_, rfl⟩
  have h1 : (x : Int) % 65536 = (a : Int) := by omega
  have h2 : (x : Int) / 65536 = (b : Int) := by omega
  have h3 : (b : Int) % 65536 = (c : Int) := by omega
  have h4 : (b : Int) / 65536 = (d : Int) := by omega
  have HL : Hid (limbsL x = [a, c, d]) := by show _ = _; rw [limbsL, ha, hb, hc, hd]
  clear ha hb hc hd
  go_enter Tryd.func57, Tryd.ntmps57
  go_wp2
  go_ret
  refine ⟨_, rfl, ?_, below_alloc _ _⟩
  rw [HL.out]
  exact DSl.ofRow (l := [a, c, d]) (cap := 3) (Go.heap_alloc_new w _) (Nat.le_refl 3) (by decide)

set_option maxHeartbeats 1000000 in
theorem power_any (x k : Nat) (hx : x < 281474976710656) (hk : k = 2 ∨ k = 3) (w : World) :
    Calls Tryd.prog 51 #[.int .i64 (x : Int), .int .i64 (k : Int)] w fun e w' => ∃ v' c, e = .returned v' ∧ DSl w' v' c ∧ (∀ d ∈ c, d < 65536) ∧ val c = x ^ k ∧ Below w.heap.size w w' := by
  have HL := hide (limbs_any x hx w)
  have HLV := hide (limbsL_val x)
  have HLD := hide (limbsL_lt hx)
  have HLL : Hid ((limbsL x).length = 3) := Eq.refl _
  generalize limbsL x = l at *
  rcases hk with rfl | rfl
  · rw [show ((2 : Nat) : Int) = 2 from rfl]
    go_enter Tryd.func51, Tryd.ntmps51
    go_wp2_with fail
    refine HL.out.mono ?_
    rintro e w1 ⟨v1, rfl, hd1, hb1⟩
    go_wp2_with fail
    refine (times_any v1 v1 l l w1 hd1 hd1 (by rw [HLL.out]; decide) (by rw [HLL.out]; decide) HLD.out HLD.out).mono ?_
    rintro e w2 ⟨v2, c2, rfl, hd2, hl2, hg2, hv2, hb2⟩
    have HR := hide (show val c2 = x ^ 2 by rw [hv2, HLV.out, Nat.pow_two])
    have HB := hide (hb1.trans (hb2.mono hb1.size))
    have HD := hide hd2
    have HG := hide hg2
    clear hd1 hb1 hd2 hl2 hg2 hv2 hb2
    go_wp2
    go_ret
    exact ⟨_, c2, rfl, HD.out, HG.out, HR.out, HB.out⟩
  · rw [show ((3 : Nat) : Int) = 3 from rfl]
    go_enter Tryd.func51, Tryd.ntmps51
    go_wp2_with fail
    refine HL.out.mono ?_
    rintro e w1 ⟨v1, rfl, hd1, hb1⟩
    go_wp2_with fail
    refine (times_any v1 v1 l l w1 hd1 hd1 (by rw [HLL.out]; decide) (by rw [HLL.out]; decide) HLD.out HLD.out).mono ?_
    rintro e w2 ⟨v2, c2, rfl, hd2, hl2, hg2, hv2, hb2⟩
    have HT := hide (times_any v2 v1 c2 l w2 hd2 (hd1.below hb2) (by rw [hl2, HLL.out]; decide) (by rw [HLL.out]; decide) hg2 HLD.out)
    have HB2 := hide (hb1.trans (hb2.mono hb1.size))
    have HV2 := hide hv2
    clear hd1 hb1 hd2 hl2 hg2 hv2 hb2
    go_wp2_with fail
    refine HT.out.mono ?_
    rintro e w3 ⟨v3, c3, rfl, hd3, hl3, hg3, hv3, hb3⟩
    have HR := hide (show val c3 = x ^ 3 by rw [hv3, HV2.out, HLV.out, Nat.pow_succ, Nat.pow_two])
    have HB := hide (HB2.out.trans (hb3.mono HB2.out.size))
    have HD := hide hd3
    have HG := hide hg3
    clear hd3 hl3 hg3 hv3 hb3 HT
    go_wp2
    go_ret
    exact ⟨_, c3, rfl, HD.out, HG.out, HR.out, HB.out⟩

theorem rootGo_succ (p k n x : Nat) : rootGo p k (n + 1) x = rootGo p k n (if (x + 2 ^ n) ^ k ≤ p * 65536 ^ (2 * k) then x + 2 ^ n else x) := rfl
theorem most_val (p k : Nat) : val (List.replicate (2 * k) 0 ++ [p]) = p * 65536 ^ (2 * k) := by
  rw [val_append, val_zeros, List.length_replicate]; simp [val, Nat.mul_comm]

theorem dsl_of_own {w : World} {base n : Nat} {v : Value} {l : List Nat} (h : w.ownsRow base 3 1 v n (l.map intV)) (hn : n = l.length) (hp : 0 < l.length) (hb : l.length ≤ 4096) : DSl w v l := by
  subst hn
  have h' := h
  rcases h'.2 with ⟨_, h0⟩ | ⟨g, cap, cur, rfl, hbg, hg, hnc, hm, hs, ht⟩
  · omega
  · exact ⟨g, cap, rfl, hnc, ⟨hm, hb⟩, (Array.getElem?_eq_some_iff.1 hg).1, fun i hi => by rw [h.cellAt i (by omega), map_intV_getD hi]⟩

set_option maxRecDepth 100000 in
set_option maxHeartbeats 2000000 in
theorem root_any (p k : Nat) (hp : p < 65536) (hk : k = 2 ∨ k = 3) (w : World) :
    Calls Tryd.prog 40 #[.int .i64 (p : Int), .int .i64 (k : Int)] w fun e w' => e = .returned (.int .u32 (rootN p k : Nat)) ∧ Below w.heap.size w w' := by
  obtain ⟨i0, hi, hz0, hz1, hz2⟩ := info_parts Tryd.info3
  have hmk := run_make_row' (P := Tryd.prog) 23 3 (.int .i64 0) 8 Tryd.underlying23 Tryd.info3 rfl .i64 .i64 (2 * k) (by omega) (by omega)
  rw [made_zeros] at hmk
  have hk2 : k ≤ 3 := by omega
  obtain ⟨m, hm⟩ : ∃ m, 2 * k = m := ⟨_, rfl⟩
  have hkm : 2 * (k : Int) = (m : Int) := by omega
  rw [hm] at hmk
  obtain ⟨Z, hZ⟩ : ∃ Z, ((List.replicate m 0).map intV).toArray = Z := ⟨_, rfl⟩
  rw [hZ] at hmk
  have HZ := hide hZ
  have hm6 : m ≤ 6 := by omega
  have HM := hide hm
  clear hZ hm
  have hZl : Z.toList = (List.replicate m 0).map intV := by rw [← HZ.out]
  have hZs : Z.size = m := by rw [← Array.length_toList, hZl]; simp
  have how : (w.alloc (.cells Z 3)).ownsRow w.heap.size 3 1 (.slice (some ⟨w.heap.size, 0, none⟩) m m) m Z.toList :=
    ⟨by rw [Array.length_toList, hZs, Nat.mul_one], .inr ⟨w.heap.size, m, Z, rfl, Nat.le_refl _, Go.heap_alloc_new w _, Nat.le_refl _, by unfold maxLen; omega, by rw [hZs, Nat.mul_one], by rw [List.take_of_length_le (by rw [Array.length_toList, hZs, Nat.mul_one]; exact Nat.le_refl _)]⟩⟩
  have HZL := hide hZl
  clear hZl
  go_enter Tryd.func40, Tryd.ntmps40
  go_wp2_with (at_builtin; refine wpList_append_own _ rfl (.tmp 12) (.tmp 14) 23 rfl w.heap.size 3 i0 (.int .i64 0) 1 8 Tryd.underlying23 hi hz0 hz1 hz2 rfl (by decide) _ _ _ rfl (how.alloc _) ⟨w.heap.size + 1, 0, none⟩ 1 1 [.int .i64 (p : Int)] rfl rfl (by have h := cell_one_new (w.alloc (.cells Z 3)) (.int .i64 (p : Int)) 3; simpa using h) (by simp [Value.oneCell']) (by unfold maxLen; omega) (by omega) (by simp; omega) ?_)
  intro v1 w1 hown hg hiff
  have hML : Z.toList ++ [.int .i64 (p : Int)] = ((List.replicate m 0 ++ [p]).map intV) := by rw [HZL.out, List.map_append]; rfl
  rw [hML] at hown
  have hds := dsl_of_own hown (by simp) (by simp) (by simp; omega)
  have HB1 : Hid (Below w.heap.size w w1) := (below_alloc2 w (.cells Z 3) (.cells #[.int .i64 (p : Int)] 3)).grown hg (by simp; omega) (by simp [Value.ownBlock])
  have HMV : Hid (val (List.replicate m 0 ++ [p]) = p * 65536 ^ (2 * k)) := by show _ = _; rw [← HM.out]; exact most_val p k
  have HMD : Hid (∀ d ∈ List.replicate m 0 ++ [p], d < 65536) := by
    intro d hd
    rcases List.mem_append.1 hd with h | h
    · rw [List.eq_of_mem_replicate h]; decide
    · simp only [List.mem_singleton] at h; omega
  have HRT : Hid (rootN p k = rootGo p k 40 0 % 4294967296) := Eq.refl _
  generalize List.replicate m 0 ++ [p] = ML at *
  have HDS := hide hds
  clear hown hg hiff hML hds HZL hZs how hmk HZ HM hm6 hkm
  go_wp2
  go_loopw [6, 7] (fun xv bv wr => ∃ n x : Nat, n ≤ 40 ∧ xv = .int .i64 x ∧ bv = .int .i64 ((n : Int) - 1) ∧ x + 2 ^ n ≤ 2 ^ 40 ∧ rootGo p k n x = rootGo p k 40 0 ∧ Below w1.heap.size w1 wr) (fun _ bv _ => (intOf bv + 1).toNat)
  case atStart => exact ⟨40, 0, Nat.le_refl _, rfl, rfl, by simp, rfl, Below.refl _ _⟩
  case round =>
    obtain ⟨n, x, hn, rfl, rfl, hx, hgo, hbel⟩ := hrel
    have hx40 : x < 1099511627776 := by
      have h1 : (2 : Nat) ^ 40 = 1099511627776 := by decide
      have h2 : 0 < 2 ^ n := Nat.two_pow_pos n
      omega
    by_cases hn0 : n = 0
    · subst hn0
      have HR : Hid ((rootN p k : Nat) = x % 4294967296) := by show _ = _; rw [HRT.out, ← hgo]; rfl
      have hxI : (x : Int) % 4294967296 = ((x % 4294967296 : Nat) : Int) := by omega
      have HBL := hide (HB1.out.trans (hbel.mono HB1.out.size))
      have hxb : x % 4294967296 < 4294967296 := by omega
      generalize x % 4294967296 = r at *
      clear hgo hbel hx
      go_wp2
      go_ret
      exact ⟨by rw [HR.out]; rfl, HBL.out⟩
    · obtain ⟨q, rfl⟩ : ∃ q, n = q + 1 := ⟨n - 1, by omega⟩
      rw [show ((q + 1 : Nat) : Int) - 1 = (q : Int) by omega]
      have hq : q < 40 := by omega
      have HBL := hide hbel
      have HGO := hide hgo
      have HX := hide hx
      obtain ⟨t, ht⟩ : ∃ t, 2 ^ q = t := ⟨_, rfl⟩
      obtain ⟨y, hy⟩ : ∃ y, x + t = y := ⟨_, rfl⟩
      have h2 : (2 : Nat) ^ 40 = 1099511627776 := by decide
      have h2q : (2 : Nat) ^ (q + 1) = t + t := by rw [Nat.pow_succ, ht]; omega
      rw [h2q, h2] at hx
      have htI : (2 : Int) ^ q = (t : Int) := by rw [← ht]; simp
      have hyI : (x : Int) + (t : Int) = (y : Int) := by omega
      have ht40 : t < 1099511627776 := by omega
      have hy40 : y ≤ 1099511627776 := by omega
      have HYX : Hid (y + t ≤ 2 ^ 40) := by show _ ≤ _; rw [h2]; omega
      have HXX : Hid (x + t ≤ 2 ^ 40) := by show _ ≤ _; rw [h2]; omega
      have HT2 := hide ht
      rw [rootGo_succ, ht, hy] at HGO
      clear hbel hgo hx ht hy h2 h2q HX
      go_wp2_with fail
      refine (power_any y k (by omega) hk wr).mono ?_
      rintro e w2 ⟨v2, c2, rfl, hd2, hg2, hv2, hb2⟩
      have HBB := hide (HBL.out.trans (hb2.mono HBL.out.size))
      have HAB := hide (above_any v2 v1 c2 ML w2 hd2 (HDS.out.below HBB.out) hg2 HMD.out)
      rw [hv2, HMV.out] at HAB
      clear hd2 hg2 hv2 hb2 HBL
      by_cases hle : y ^ k ≤ p * 65536 ^ (2 * k)
      · rw [if_pos hle] at HGO
        rw [decide_eq_false (by omega)] at HAB
        clear hle
        go_wp2_with fail
        refine HAB.out.mono ?_
        rintro e w' ⟨rfl, rfl⟩
        go_wp2
        go_roundw
        case rel => exact ⟨q, y, by omega, rfl, by go_num, by rw [HT2.out]; exact HYX.out, HGO.out, HBB.out⟩
        case measure => simp [intOf]
      · rw [if_neg hle] at HGO
        rw [decide_eq_true (by omega)] at HAB
        clear hle
        go_wp2_with fail
        refine HAB.out.mono ?_
        rintro e w' ⟨rfl, rfl⟩
        go_wp2
        go_roundw
        case rel => exact ⟨q, x, by omega, rfl, by go_num, by rw [HT2.out]; exact HXX.out, HGO.out, HBB.out⟩
        case measure => simp [intOf]
end Go.Proofs.YtbkcenpohcjgnabDoor
