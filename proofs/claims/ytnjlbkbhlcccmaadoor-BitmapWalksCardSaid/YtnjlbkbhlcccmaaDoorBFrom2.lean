import Derived.Test.YtnjlbkbhlcccmaaDoorBMerge
namespace Go.Proofs.YtnjlbkbhlcccmaaDoor
open Go.RowKit
set_option linter.unusedVariables false
set_option linter.unusedSimpArgs false
set_option maxRecDepth 20000

theorem From_no {w : World} {v : Value} {l : List Nat} (n : Int) (h : ¬ (1 ≤ n ∧ n ≤ 65536)) (hv : WSl w v l) :
    Calls Tryd.prog 10 #[.int .i64 n, v] w fun e w' => e = .returned (.tuple #[.pointer none, .int .i64 1]) ∧ w' = w := by
  have HN := hide (New_no w n h)
  obtain ⟨a, cap, rfl, q1, q2, q3, q4, q5⟩ := hv
  clear q5 q4
  generalize l.length = len at *
  go_enter Tryd.func10, Tryd.ntmps10
  go_wp2_with (go_at_call 14; refine HN.out.mono ?_; rintro e w' ⟨rfl, rfl⟩)
  go_ret2
  exact ⟨rfl, rfl⟩

theorem From_bad {w : World} {v : Value} {l : List Nat} (n : Nat) (h1 : 1 ≤ n) (h2 : n ≤ 65536) (hv : WSl w v l) (he : cwErr n l ≠ 0) :
    Calls Tryd.prog 10 #[.int .i64 (n : Int), v] w fun e w' => e = .returned (.tuple #[.pointer none, .int .i64 ((cwErr n l : Nat) : Int)]) ∧ Below w.heap.size w w' := by
  have HN := hide (New_any w n h1 h2)
  have HV := hide hv
  have hne' : ((((cwErr n l : Nat)) : Int) != 0) = true := by simpa using he
  have HE := hide he
  obtain ⟨a, cap, rfl, q1, q2, q3, q4, q5⟩ := hv
  clear q5 q4 he
  generalize hee : cwErr n l = ee at *
  have HEE := hide hee
  clear hee
  generalize hlen : l.length = len at *
  have HLEN := hide hlen
  clear hlen
  unfold PB at HN
  go_enter Tryd.func10, Tryd.ntmps10
  go_wp2_with (first
    | (go_at_call 14; refine HN.out.mono ?_; rintro e w1 ⟨L, rfl, hnew⟩; have HNEW := hide hnew; clear hnew)
    | (go_at_call 25; refine (Merge_no HNEW.out.1 (HV.out.below HNEW.out.2.1) (by rw [HEE.out]; exact HE.out)).mono ?_; rw [HEE.out]; rintro e w' ⟨rfl, rfl⟩))
  go_ret2
  exact ⟨rfl, HNEW.out.2.1⟩

theorem From_any {w : World} {v : Value} {l : List Nat} (n : Nat) (h1 : 1 ≤ n) (h2 : n ≤ 65536) (hv : WSl w v l) (he : cwErr n l = 0) :
    Calls Tryd.prog 10 #[.int .i64 (n : Int), v] w fun e w' => ∃ L, e = .returned (.tuple #[PB L, .int .i64 0]) ∧ BNewAt w w' L n (valW l) := by
  have HN := hide (New_any w n h1 h2)
  have HV := hide hv
  have HE := hide he
  have hl := hv.lt
  have hlen0 : 0 < l.length := by rw [(valW_listed h1 hl he).1]; unfold nW; omega
  have hblk : ∀ g, blockOf v = some g → g < w.heap.size := by
    obtain ⟨a, cap, rfl, q1, q2, q3, q4, q5⟩ := hv
    obtain ⟨b, off, rfl, hc⟩ := q5 hlen0
    intro g hg
    simp only [blockOf, Option.some.injEq] at hg
    subst hg
    exact World.block_lt_of_cell? w _ (hc 0 hlen0)
  have HBLK := hide hblk
  clear hblk
  obtain ⟨a, cap, rfl, q1, q2, q3, q4, q5⟩ := hv
  clear q5 q4 he
  unfold PB at *
  go_enter Tryd.func10, Tryd.ntmps10
  go_wp2_with (first
    | (go_at_call 14; refine HN.out.mono ?_; rintro e w1 ⟨L, rfl, hnew⟩; have HNEW := hide hnew; clear hnew)
    | (go_at_call 25; refine (Merge_any HNEW.out.1 (HV.out.below HNEW.out.2.1) (fun g hg hu => by have := HNEW.out.2.2 g hu; have := HBLK.out g hg; omega) HE.out).mono ?_; rintro e w2 ⟨rfl, hrep, hchg, hsz⟩; have HREP := hide hrep; have HCHG := hide hchg; clear hrep hchg hsz))
  go_ret2
  refine ⟨L, rfl, by have := HREP.out; rwa [Nat.zero_or] at this, ?_, HNEW.out.2.2⟩
  have hb := HNEW.out.2.1
  have hc := HCHG.out.below (N := w.heap.size) hb.size HNEW.out.2.2
  exact hb.trans hc

theorem cnt_wd (B k : Nat) : cnt (wd B k).testBit 64 = cnt (fun j => B.testBit (64 * k + j)) 64 := cnt_congr 64 fun i hi => by rw [testBit_wd]; simp [hi]
theorem Count_any {w : World} {L : BL} {n B : Nat} (h : BRep w L n B) :
    Calls Tryd.prog 43 #[PB L] w fun e w' => e = .returned (.int .i64 ((cnt B.testBit n : Nat) : Int)) ∧ w' = w := by
  have c1 := h.c1
  have hn := h.n2
  have hW : nW n ≤ 1024 := by unfold nW; omega
  have HEND : Hid (cnt B.testBit (64 * nW n) = cnt B.testBit n) := hide (by
    obtain ⟨d, hd⟩ : ∃ d, 64 * nW n = n + d := ⟨64 * nW n - n, by unfold nW; omega⟩
    rw [hd, cnt_add, cnt_zero d (fun i _ => bit_ge h.hB (by omega))]
    rfl)
  rw [← HEND.out]
  have HNL : Hid (∀ k, cnt B.testBit (64 * k) ≤ 64 * k) := hide fun k => cnt_le _ _
  have HNS : Hid (∀ k, cnt B.testBit (64 * (k + 1)) = cnt B.testBit (64 * k) + cnt (wd B k).testBit 64) := hide fun k => by rw [show 64 * (k + 1) = 64 * k + 64 by omega, cnt_add, cnt_wd]
  have HCL : Hid (∀ k, k < nW n → w.cell? ⟨L.lo, k, none⟩ = some (.int .u64 (wd B k : Nat))) := hide fun k hk => h.cl hk
  clear h HEND
  obtain ⟨N, hN⟩ : ∃ N : Nat → Nat, ∀ k, N k = cnt B.testBit (64 * k) := ⟨_, fun _ => rfl⟩
  have HN0 : Hid (0 = N 0) := hide (by rw [hN]; rfl)
  simp only [← hN] at HNL HNS ⊢
  clear hN
  generalize nW n = m1 at *
  unfold PB
  go_enter Tryd.func43, Tryd.ntmps43
  go_wp2_with fail
  go_loop [3, 11] (fun c i => ∃ k : Nat, k ≤ m1 ∧ i = .int .i64 (k : Int) ∧ c = .int .i64 ((N k : Nat) : Int)) (fun c i => m1 - (intOf i).toNat)
  case atStart => exact ⟨0, Nat.zero_le _, rfl, by rw [← HN0.out]; rfl⟩
  case round =>
    obtain ⟨k, hk, rfl, rfl⟩ := hrel
    have hNk := HNL.out k
    by_cases hlt : k < m1
    · have hc := HCL.out k hlt
      have hl := wd_lt B k
      have hcc := cnt_le (wd B k).testBit 64
      have HS := hide (HNS.out k)
      generalize wd B k = x at *
      clear HNS HCL HNL HN0
      have HO := hide (fun w => ones_any x hl w)
      generalize cnt x.testBit 64 = c at *
      go_wp2_with (go_at_call 63; refine (HO.out _).mono ?_; rintro e w' ⟨rfl, rfl⟩)
      go_round
      case rel => exact ⟨k + 1, by omega, by go_num, by rw [HS.out]; go_num⟩
      case measure => simp [intOf]; omega
    · have ek : k = m1 := by omega
      have HK := hide ek
      clear ek HNS HCL HN0
      go_wp2_with fail
      go_ret
      exact ⟨ret_int (by rw [← HK.out]), rfl⟩

/-- what may be wrong with a range -/
def rgErr (n : Nat) (a c : Int) : Nat := if c < 0 then 1 else if a < 0 ∨ (n : Int) < a ∨ (n : Int) - a < c then 2 else 0
theorem checkRange_any {w : World} {L : BL} {n B : Nat} (h : BRep w L n B) (a c : Int) :
    Calls Tryd.prog 60 #[PB L, .int .i64 a, .int .i64 c] w fun e w' => e = .returned (.int .i64 ((rgErr n a c : Nat) : Int)) ∧ w' = w := by
  have c0 := h.c0
  have hn := h.n2
  unfold PB rgErr
  clear h
  by_cases h1 : c < 0
  · rw [if_pos h1]
    go_enter Tryd.func60, Tryd.ntmps60
    go_wp2
    go_ret
    exact ⟨rfl, rfl⟩
  · rw [if_neg h1]
    by_cases h2 : a < 0
    · rw [if_pos (.inl h2)]
      go_enter Tryd.func60, Tryd.ntmps60
      go_wp2
      go_ret
      exact ⟨rfl, rfl⟩
    · by_cases h3 : (n : Int) < a
      · rw [if_pos (.inr (.inl h3))]
        go_enter Tryd.func60, Tryd.ntmps60
        go_wp2
        go_ret
        exact ⟨rfl, rfl⟩
      · by_cases h4 : (n : Int) - a < c
        · rw [if_pos (.inr (.inr h4))]
          go_enter Tryd.func60, Tryd.ntmps60
          go_wp2
          go_ret
          exact ⟨rfl, rfl⟩
        · rw [if_neg (by omega)]
          go_enter Tryd.func60, Tryd.ntmps60
          go_wp2
          go_ret
          exact ⟨rfl, rfl⟩
end Go.Proofs.YtnjlbkbhlcccmaaDoor
