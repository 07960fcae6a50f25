import Derived.Test.YtkjaaknlhmneoaaMtBm
namespace Go.Proofs.Ytkjaaknlhmneoaa
open Go.RowKit
open Num
set_option linter.unusedVariables false
set_option linter.unusedSimpArgs false
set_option maxRecDepth 20000

/-- the words as the law makes them, ahead of the mask -/
def padW (L : Nat) (seed : List Nat) : List Nat := (List.range L).map fun i => seed.getD i 0
def wdL (n : Nat) (seed : List Nat) : List Nat := (padW ((n + 63) / 64) seed).set ((n + 63) / 64 - 1) (seed.getD ((n + 63) / 64 - 1) 0 % 2 ^ lr n)
theorem padW_len (L : Nat) (seed : List Nat) : (padW L seed).length = L := by simp [padW]
theorem padW_get {L i : Nat} {seed : List Nat} (h : i < L) : (padW L seed).getD i 0 = seed.getD i 0 := by simp [padW, List.getD, h]
theorem padW_end {L i : Nat} {seed : List Nat} (hi : i ≤ L) (h : i = L ∨ seed.length ≤ i) : (padW L seed).take i ++ List.replicate (L - i) 0 = padW L seed := by
  refine List.ext_getElem (by simp [padW]; omega) fun k h1 h2 => ?_
  rw [padW_len] at h2
  by_cases hk : k < i
  · rw [List.getElem_append_left (by simp [padW]; omega), List.getElem_take]
  · rw [List.getElem_append_right (by simp [padW]; omega)]
    simp only [List.getElem_replicate, padW, List.getElem_map, List.getElem_range]
    rcases h with h | h
    · omega
    · rw [List.getD_eq_getElem?_getD, List.getElem?_eq_none (by omega)]; rfl
theorem pack_bad (w : World) (n s : Int) (v : Value) (h : (decide (1 ≤ n) && decide (n ≤ 65536)) = false ∨ okSz s = false) : Calls Try.prog 15 #[.int .i64 n, v, .int .i64 s] w fun e w' => e = .returned (.tuple #[.slice none 0 0, .int .i64 1]) ∧ w' = w := by
  have HVB := hide fun x => validBits_any x n
  have HVS := hide fun x => validSize_any x s
  cases hb : (decide (1 ≤ n) && decide (n ≤ 65536)) with
  | false =>
    rw [hb] at HVB
    clear h hb
    go_enter Try.func15, Try.ntmps15
    go_wp2_with (first
      | (go_at_call 41; refine (HVB.out _).mono ?_; rintro e w1 ⟨rfl, hw1⟩; have hws := hw1.symm; clear hw1; subst hws))
    (try simp only [Exit.inBlock, Exit.then]); refine bodyPost_ret (results_tmp2 rfl _ _ _) rfl ?_
    exact ⟨rfl, rfl⟩
  | true =>
    rw [hb] at HVB
    have hs : okSz s = false := h.resolve_left (by rw [hb]; simp)
    rw [hs] at HVS
    clear h hb
    go_enter Try.func15, Try.ntmps15
    go_wp2_with (first
      | (go_at_call 41; refine (HVB.out _).mono ?_; rintro e w1 ⟨rfl, hw1⟩; have hws := hw1.symm; clear hw1; subst hws)
      | (go_at_call 30; refine (HVS.out _).mono ?_; rintro e w1 ⟨rfl, hw1⟩; have hws := hw1.symm; clear hw1; subst hws))
    (try simp only [Exit.inBlock, Exit.then]); refine bodyPost_ret (results_tmp2 rfl _ _ _) rfl ?_
    exact ⟨rfl, rfl⟩
set_option maxHeartbeats 2000000 in
theorem words_any (w : World) (n : Nat) (v : Value) (seed : List Nat) (hv : USl w v seed) (h1 : 1 ≤ n) (h2 : n ≤ 65536) : Calls Try.prog 16 #[.int .i64 (n : Int), v] w fun e w' => e = .returned (.slice (some ⟨w.heap.size, 0, none⟩) ((n + 63) / 64) ((n + 63) / 64)) ∧ WRow w' w.heap.size (wdL n seed) ∧ Below w.heap.size w w' := by
  have hLb : 1 ≤ (n + 63) / 64 ∧ (n + 63) / 64 ≤ 1024 := by omega
  have HWD : Hid (wdL n seed = (padW ((n + 63) / 64) seed).set ((n + 63) / 64 - 1) (seed.getD ((n + 63) / 64 - 1) 0 % 2 ^ lr n)) := hide rfl
  have hq : ((n : Int) + 63) / 64 = (((n + 63) / 64 : Nat) : Int) := by omega
  generalize (n + 63) / 64 = L at *
  have hmk := made_words L (by omega)
  obtain ⟨a, cap, rfl, q1, q2, q3, q4⟩ := hv
  unfold maxLen at q2
  have HC : Hid (∀ x, Below w.heap.size w x → ∀ i, i < seed.length → ∃ b off, a = some ⟨b, off, none⟩ ∧ x.cell? ⟨b, off + i, none⟩ = some (.int .u64 (seed.getD i 0 : Nat))) := hide fun x hb i hi => by
    obtain ⟨b, off, e, hlb, hc⟩ := q4 (by omega)
    exact ⟨b, off, e, by rw [World.cell?_of_block (hb.block b hlb)]; exact hc i hi⟩
  clear q4
  go_enter Try.func16, Try.ntmps16
  go_wp2_with fail
  have HR0 : Hid (WRow (w.alloc (.cells (Array.replicate L (u64v 0)) 43)) w.heap.size ((padW L seed).take 0 ++ List.replicate (L - 0) 0)) := hide (by unfold WRow; rw [Go.heap_alloc_new]; simp)
  have HB0 : Hid (Below w.heap.size w (w.alloc (.cells (Array.replicate L (u64v 0)) 43))) := hide ((Below.refl _ _).alloc (Nat.le_refl _) _)
  clear hmk
  generalize w.alloc (.cells (Array.replicate L (u64v 0)) 43) = w2 at *
  go_loopw [6] (fun x wr => ∃ i : Nat, i ≤ L ∧ x = .int .i64 (i : Int) ∧ WRow wr w.heap.size ((padW L seed).take i ++ List.replicate (L - i) 0) ∧ Below w.heap.size w wr) (fun x _ => L - (intOf x).toNat)
  case atStart => exact ⟨0, Nat.zero_le _, rfl, HR0.out, HB0.out⟩
  case round =>
    clear HR0 HB0
    obtain ⟨i, hi, rfl, hR, hB⟩ := hrel
    have HR := hide hR
    have HB := hide hB
    by_cases hlt : i < L ∧ i < seed.length
    · obtain ⟨hl1, hl2⟩ := hlt
      obtain ⟨b, off, rfl, cs⟩ := HC.out _ hB i hl2
      obtain ⟨c1, f1⟩ := hR.cell (i := i) (by simp [padW_len]; omega)
      have HST : Hid (((padW L seed).take i ++ List.replicate (L - i) 0).set i (seed.getD i 0) = (padW L seed).take (i + 1) ++ List.replicate (L - (i + 1)) 0) := hide (by
        have := fill_set (ws := padW L seed) (i := i) (by rw [padW_len]; exact hl1)
        rw [padW_len, padW_get hl1] at this
        exact this)
      have HRS := hide (hR.set (i := i) (x := seed.getD i 0))
      rw [HST.out] at HRS
      have HBS := hide (hB.setCell (p := ⟨w.heap.size, i, none⟩) (Nat.le_refl _) (.int .u64 (seed.getD i 0 : Nat)))
      clear hR hB HST
      generalize ((padW L seed).take i ++ List.replicate (L - i) 0).getD i 0 = y0 at *
      generalize seed.getD i 0 = wd at *
      generalize seed.length = SL at *
      go_wp2_with fail
      go_roundw
      case rel => exact ⟨i + 1, by omega, by go_num, HRS.out, HBS.out⟩
      case measure => simp [intOf]; omega
    · have HE := hide (padW_end (L := L) (i := i) (seed := seed) hi (by omega))
      rw [HE.out] at HR
      obtain ⟨L', rfl⟩ : ∃ L', L = L' + 1 := ⟨L - 1, by omega⟩
      rw [Nat.add_sub_cancel] at HWD
      obtain ⟨c1, f1⟩ := HR.out.cell (i := L') (by rw [padW_len]; omega)
      rw [padW_get (Nat.lt_succ_self _)] at c1
      clear hR hB HE
      have hx64 : seed.getD L' 0 < 18446744073709551616 := by
        by_cases hh : L' < seed.length
        · exact q3 _ (by simp [List.getD, hh])
        · rw [List.getD_eq_getElem?_getD, List.getElem?_eq_none (Nat.le_of_not_lt hh)]; decide
      have hli : ((L' : Int) + 1 - 1) = (L' : Int) := by omega
      by_cases hn0 : n % 64 = 0
      · have HRF : Hid (WRow wr w.heap.size (wdL n seed)) := hide (by
          rw [HWD.out, show lr n = 64 by unfold lr lmS; omega, Nat.mod_eq_of_lt (show seed.getD L' 0 < 2 ^ 64 from hx64)]
          have e : (padW (L' + 1) seed).set L' (seed.getD L' 0) = padW (L' + 1) seed := by
            refine List.ext_getElem (by simp) fun k h1 h2 => ?_
            rw [List.getElem_set]
            split
            · rename_i e; subst e; simp [padW, List.getD]
            · rfl
          rw [e]
          exact HR.out)
        have hn1 : (n : Int) % 64 = 0 := by omega
        clear HWD hx64 q3 HC
        generalize seed.length = SL at *
        generalize seed.getD L' 0 = x at *
        by_cases hi2 : i < L' + 1
        · have hi3 : ¬ i < SL := by omega
          go_wp2_with fail
          go_ret
          exact ⟨rfl, HRF.out, HB.out⟩
        · go_wp2_with fail
          go_ret
          exact ⟨rfl, HRF.out, HB.out⟩
      · have hlr : lr n = n % 64 := by unfold lr lmS; omega
        obtain ⟨R, hR0⟩ : ∃ R, n % 64 = R := ⟨_, rfl⟩
        have hn1 : (n : Int) % 64 = (R : Int) := by omega
        have hn2 : ¬ (R : Int) = 0 := by omega
        have hrm1 : (n : Int).tmod 64 = (R : Int) := by rw [Int.tmod_eq_emod_of_nonneg (by omega)]; exact hn1
        have hrm2 : IntKind.i64.wrap (R : Int) = (R : Int) := by simp [IntKind.wrap, IntKind.bits, IntKind.signed]; omega
        have hrm3 : IntKind.i64.wrap ((n : Int) % 64) = (R : Int) := by rw [hn1]; exact hrm2
        have hn3 : ((R : Int) != 0) = true := by simp; omega
        have HRF : Hid (WRow (wr.setCell ⟨w.heap.size, L', none⟩ (.int .u64 (seed.getD L' 0 % 2 ^ R : Nat))) w.heap.size (wdL n seed)) := hide (by
          rw [HWD.out, hlr, hR0]
          exact HR.out.set)
        have HBF := hide (HB.out.setCell (p := ⟨w.heap.size, L', none⟩) (Nat.le_refl _) (.int .u64 (seed.getD L' 0 % 2 ^ R : Nat)))
        have hRb : R ≤ 63 := by omega
        have hpw : (2 : Nat) ^ R ≤ 2 ^ 63 := Nat.pow_le_pow_right (by decide) hRb
        have hpp : 0 < (2 : Nat) ^ R := Nat.pow_pos (by decide)
        have HAN : Hid (bits .and .u64 (seed.getD L' 0 : Nat) ((2 ^ R - 1 : Nat) : Int) = ((seed.getD L' 0 % 2 ^ R : Nat) : Int)) := hide (by
          rw [bits_and_u64_nat _ _ hx64 (by omega), Nat.and_two_pow_sub_one_eq_mod])
        clear HWD hx64 q3 HC HR
        generalize seed.length = SL at *
        generalize seed.getD L' 0 = x at *
        obtain ⟨P, hP⟩ : ∃ P : Nat, 2 ^ R = P := ⟨_, rfl⟩
        rw [hP] at HRF HBF HAN hpw hpp
        have hi8 : (0 : Int) ≤ (R : Int) := by omega
        have hi9 : (R : Int) ≤ 64 := by omega
        have hsh : Op.shift .shl .u64 (1 : Int) .i64 (R : Int) = (pure (.int .u64 (P : Int)) : Sem Value) := by
          rw [shift_shl .u64 .i64 (1 : Int) (R : Int) hi8 (by simpa [IntKind.bits] using hi9), Int.toNat_natCast]
          congr 2
          have : ((1 : Int) * 2 ^ R) = ((P : Nat) : Int) := by rw [← hP, Int.natCast_pow, Int.one_mul]; rfl
          rw [this, IntKind.wrap_u64]
          omega
        have HWPP : Hid (IntKind.u64.wrap ((P : Int) - 1) = ((P - 1 : Nat) : Int)) := hide (by rw [IntKind.wrap_u64]; omega)
        have HWQ : Hid (IntKind.u64.wrap ((2 : Int) ^ R) = (P : Int)) := hide (by
          have : ((2 : Int) ^ R) = ((P : Nat) : Int) := by rw [← hP, Int.natCast_pow]; rfl
          rw [this, IntKind.wrap_u64]
          omega)
        have hwl : IntKind.i64.wrap ((L' : Int) + 1 - 1) = (L' : Int) := by rw [hli]; simp [IntKind.wrap, IntKind.bits, IntKind.signed]; omega
        have hwl2 : IntKind.i64.wrap (L' : Int) = (L' : Int) := by simp [IntKind.wrap, IntKind.bits, IntKind.signed]; omega
        have hb1 : (0 : Int) ≤ (L' : Int) := by omega
        have hb2 : (L' : Int) < (L' : Int) + 1 := by omega
        by_cases hi2 : i < L' + 1
        · have hi3 : ¬ i < SL := by omega
          go_wp2_with fail
          refine wp_still_tail 16 (by kernel_rfl) (by kernel_rfl) ?_
          simp only [List.take_succ_cons, List.take_zero, List.drop_succ_cons, List.drop_zero]
          repeat still_step
          refine wpStill_nil ?_
          go_wp2_with fail
          go_ret
          have hb := HBF.out
          have e : bits .and .u64 (x : Int) (IntKind.u64.wrap (IntKind.u64.wrap ((2 : Int) ^ R) - 1)) = ((x % P : Nat) : Int) := by rw [HWQ.out, HWPP.out]; exact HAN.out
          refine ⟨rfl, ?_, ?_⟩
          · rw [e]; exact HRF.out
          · rw [e]; exact ⟨hb.os, hb.tape, hb.output, hb.size, hb.block⟩
        · skip
          go_wp2_with fail
          refine wp_still_tail 16 (by kernel_rfl) (by kernel_rfl) ?_
          simp only [List.take_succ_cons, List.take_zero, List.drop_succ_cons, List.drop_zero]
          repeat still_step
          refine wpStill_nil ?_
          go_wp2_with fail
          go_ret
          have hb := HBF.out
          have e : bits .and .u64 (x : Int) (IntKind.u64.wrap (IntKind.u64.wrap ((2 : Int) ^ R) - 1)) = ((x % P : Nat) : Int) := by rw [HWQ.out, HWPP.out]; exact HAN.out
          refine ⟨rfl, ?_, ?_⟩
          · rw [e]; exact HRF.out
          · rw [e]; exact ⟨hb.os, hb.tape, hb.output, hb.size, hb.block⟩
end Go.Proofs.Ytkjaaknlhmneoaa
