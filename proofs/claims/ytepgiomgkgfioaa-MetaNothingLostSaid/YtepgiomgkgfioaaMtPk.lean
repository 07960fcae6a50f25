import Derived.Test.YtepgiomgkgfioaaMtBt
import Derived.Test.YtepgiomgkgfioaaArr
namespace Go.Proofs.Ytepgiomgkgfioaa
open Go.RowKit
open Num
set_option linter.unusedVariables false
set_option linter.unusedSimpArgs false
set_option maxRecDepth 20000

theorem Try.infoBy : (Try.prog.info? 23).map (fun i => (i.zero, i.size, i.bytes)) = some (some (.slice none 0 0), 1, 24) := by kernel_rfl
theorem made_rows (n : Nat) (hn : n ≤ 8388608) (w : World) : (Instr.makeSlice 33 (.int .i64 (n : Int)) (.int .i64 (n : Int))).run Try.prog w = .ok (.slice (some ⟨w.heap.size, 0, none⟩) n n) (w.alloc (.cells (Array.replicate n (Value.slice none 0 0)) 23)) := by
  obtain ⟨i0, hi, hz0, hz1, hz2⟩ := info_parts Try.infoBy
  have hr := run_make (P := Try.prog) w 33 23 i0 (.slice none 0 0) Try.underlying33 hi hz0 .i64 .i64 (n : Int) (n : Int) (by omega) (by omega) (by rw [hz2]; omega) (by omega)
  simp only [Int.toNat_natCast] at hr
  rw [hz1] at hr
  rw [hr]
  congr 3
  apply Array.ext'
  apply List.ext_getElem?
  intro i
  by_cases h : i < n
  · simp [madeCells, Value.cells, h, Nat.mod_one]
  · simp [madeCells, Value.cells, h, Nat.mod_one]
theorem made_bytes (n : Nat) (hn : n ≤ 8388608) (w : World) : (Instr.makeSlice 23 (.int .i64 (n : Int)) (.int .i64 (n : Int))).run Try.prog w = .ok (.slice (some ⟨w.heap.size, 0, none⟩) n n) (w.alloc (.cells ((List.replicate n 0).map byteV).toArray 5)) := by
  obtain ⟨i0, hi, hz0, hz1, hz2⟩ := info_parts Try.info5
  have hr := run_make (P := Try.prog) w 23 5 i0 (.int .u8 0) Try.underlying23 hi hz0 .i64 .i64 (n : Int) (n : Int) (by omega) (by omega) (by rw [hz2]; omega) (by omega)
  simp only [Int.toNat_natCast] at hr
  rw [hz1] at hr
  rw [hr]
  congr 3
  apply Array.ext'
  apply List.ext_getElem?
  intro i
  by_cases h : i < n
  · simp [madeCells, byteV, Value.cells, h, Nat.mod_one]
  · simp [madeCells, byteV, Value.cells, h, Nat.mod_one]
theorem PM.start (w : World) (m s : Nat) : PM (w.alloc (.cells (Array.replicate m (Value.slice none 0 0)) 23)) w.heap.size m s 0 := by
  refine ⟨?_, fun k hk => by omega, by simp⟩
  rw [Go.heap_alloc_new]
  congr 2
  apply Array.ext'
  refine List.ext_getElem (by simp) fun i h1 h2 => ?_
  simp
/-- where a word lies -/
theorem word_in {n s i : Nat} (hs : okSz (s : Int) = true) (h1 : 1 ≤ n) (hi : i < (n + 63) / 64) : i * 8 / s < (n - 1) / (8 * s) + 1 ∧ i * 8 % s + 8 ≤ s ∧ i * 8 / s * s + i * 8 % s = i * 8 := by
  have hp : s = 128 ∨ s = 256 ∨ s = 512 ∨ s = 1024 := by
    unfold okSz at hs
    simp at hs
    omega
  rcases hp with rfl | rfl | rfl | rfl <;> omega
set_option maxHeartbeats 4000000 in
theorem pack_ok (w : World) (n s : Nat) (v : Value) (ws : List Nat) (hv : USl w v ws) (hs : okSz (s : Int) = true) (h1 : 1 ≤ n) (h2 : n ≤ 65536) (hl : ws.length = (n + 63) / 64) (hlast : (bits BinOp.andNot IntKind.u64 (ws.getD ((n + 63) / 64 - 1) 0 : Nat) (lm n : Nat) != 0) = false) :
    Calls Try.prog 8 #[.int .i64 (n : Int), v, .int .i64 (s : Int)] w fun e w' => ∃ O, e = .returned (.tuple #[.slice (some ⟨O, 0, none⟩) ((n - 1) / (8 * s) + 1) ((n - 1) / (8 * s) + 1), .int .i64 0]) ∧ PB w' O ((n - 1) / (8 * s) + 1) s (bkT ws s (ws.length * 8)) ∧ w.heap.size ≤ O ∧ Below w.heap.size w w' := by
  have hp : s = 128 ∨ s = 256 ∨ s = 512 ∨ s = 1024 := by
    unfold okSz at hs
    simp at hs
    omega
  have hs1 : 1 ≤ s ∧ s ≤ 1024 := by omega
  have HVB := hide fun x => validBits_any x (n : Int)
  rw [decide_eq_true (by omega), decide_eq_true (by omega)] at HVB
  have HVS := hide fun x => validSize_any x (s : Int)
  rw [hs] at HVS
  have HWC := hide fun x => wordCount_any x n h2
  have HLM := hide fun x => lastMask_any x n h2
  have HAB := hide fun x => areaBlocks_any x (n : Int) (s : Int) hs (by omega) (by omega)
  have hab : areaB (n : Int) (s : Int) = (((n - 1) / (8 * s) + 1 : Nat) : Int) := by
    unfold areaB
    rw [Int.natCast_add, Int.natCast_ediv, Int.natCast_mul]
    congr 2
    omega
  rw [hab] at HAB
  have HWP := hide fun x i (hi : i ≤ 65536) => wordPlace_any x i s hs1.1 hs1.2 hi
  have HIN := hide fun i hi => word_in (i := i) hs h1 hi
  have hmb : (n - 1) / (8 * s) + 1 ≤ 65537 := by
    have := Nat.div_le_self (n - 1) (8 * s)
    omega
  generalize (n - 1) / (8 * s) + 1 = m at *
  have hmk := made_rows m (by omega)
  have hmk2 := made_bytes s (by omega)
  have HPM := hide fun x => PM.start x m s
  obtain ⟨a, cap, rfl, q1, q2, q3, q4⟩ := hv
  obtain ⟨b, off, rfl, hlb, hc⟩ := q4 (by omega)
  have HC : Hid (∀ x, Below w.heap.size w x → ∀ i, i < ws.length → x.cell? ⟨b, off + i, none⟩ = some (.int .u64 (ws.getD i 0 : Nat))) := hide fun x hb i hi => by
    rw [World.cell?_of_block (hb.block b hlb)]; exact hc i hi
  have HW64 : Hid (∀ i, i < ws.length → ws.getD i 0 < 18446744073709551616) := hide fun i hi => q3 _ (by simp [List.getD, hi])
  have cl := hc (ws.length - 1) (by omega)
  rw [hl] at cl q1 ⊢
  have HL := hide hl
  unfold maxLen at q2
  clear hs hab q3 q4 hc hl
  have hLb : 1 ≤ (n + 63) / 64 ∧ (n + 63) / 64 ≤ 1024 := by omega
  generalize (n + 63) / 64 = L at *
  generalize hx : ws.getD (L - 1) 0 = x at *
  obtain ⟨L', rfl⟩ : ∃ L', L = L' + 1 := ⟨L - 1, by omega⟩
  rw [Nat.add_sub_cancel] at cl
  have hli : ((L' : Int) + 1 - 1) = (L' : Int) := by omega
  go_enter Try.func8, Try.ntmps8
  go_wp2_with (first
    | (go_at_call 22; refine (HVB.out _).mono ?_; rintro e w1 ⟨rfl, hw1⟩; have hws := hw1.symm; clear hw1; subst hws)
    | (go_at_call 23; refine (HVS.out _).mono ?_; rintro e w1 ⟨rfl, hw1⟩; have hws := hw1.symm; clear hw1; subst hws)
    | (go_at_call 24; refine (HWC.out _).mono ?_; rintro e w1 ⟨rfl, hw1⟩; have hws := hw1.symm; clear hw1; subst hws))
  go_quiet ((go_at_call 25; exact Calls.quiet_of_same (HLM.out _)))
  go_wp2_with (first
    | (go_at_call 26; refine (HAB.out _).mono ?_; rintro e w1 ⟨rfl, hw1⟩; have hws := hw1.symm; clear hw1; subst hws))
  have HP0 := hide (HPM.out (w.drewN nq))
  have HB0 : Hid (Below w.heap.size w ((w.drewN nq).alloc (.cells (Array.replicate m (Value.slice none 0 0)) 23))) := hide (by
    have h := (Below.refl w.heap.size (w.drewN nq)).alloc (Nat.le_refl _) (.cells (Array.replicate m (Value.slice none 0 0)) 23)
    exact ⟨h.os, h.tape, h.output, h.size, h.block⟩)
  clear hmk HPM HVB HVS HWC HLM HAB
  change Hid (PM _ w.heap.size m s 0) at HP0
  generalize (w.drewN nq).alloc (.cells (Array.replicate m (Value.slice none 0 0)) 23) = w2 at *
  go_loopw [44] (fun i wr => ∃ j : Nat, j ≤ m ∧ i = .int .i64 (j : Int) ∧ PM wr w.heap.size m s j ∧ Below w.heap.size w wr) (fun i _ => m - (intOf i).toNat)
  case atStart => exact ⟨0, Nat.zero_le _, rfl, HP0.out, HB0.out⟩
  case round =>
    clear HP0 HB0
    obtain ⟨j, hj, rfl, hP, hB⟩ := hrel
    have HP := hide hP
    have HB := hide hB
    by_cases hlt : j < m
    · have hO : w.heap.size < wr.heap.size := by rw [hP.size]; omega
      have c0 : (wr.alloc (.cells ((List.replicate s 0).map byteV).toArray 5)).cell? ⟨w.heap.size, j, none⟩ = some (.slice none 0 0) := by
        rw [World.cell?_of_block (RowKit.Below.heap_alloc _ _ _ hO), cell_of_row _ _ _ _ _ _ hP.row]
        simp [hlt]
      have f0 : (wr.alloc (.cells ((List.replicate s 0).map byteV).toArray 5)).frozen? ⟨w.heap.size, j, none⟩ = false := frozen_of_row _ _ _ _ 23 ((RowKit.Below.heap_alloc _ _ _ hO).trans hP.row)
      have HN := hide (hP.next hlt)
      have HBN : Hid (Below w.heap.size w ((wr.setCell ⟨w.heap.size, j, none⟩ (.slice (some ⟨wr.heap.size, 0, none⟩) s s)).alloc (.cells ((List.replicate s 0).map byteV).toArray 5))) := hide ((hB.setCell (p := ⟨w.heap.size, j, none⟩) (Nat.le_refl _) _).alloc (by rw [World.size_setCell]; exact hB.size) _)
      clear hP hB
      generalize ((List.replicate s 0).map byteV).toArray = ZZ at *
      go_wp2_with fail
      go_roundw
      case rel => exact ⟨j + 1, by omega, by go_num, HN.out, HBN.out⟩
      case measure => simp [intOf]; omega
    · obtain rfl : j = m := by omega
      have HPB := hide (hP.done ws)
      clear hP hB HP hmk2 hlt
      go_wp2_with fail
      have HPB0 : Hid (PB wr w.heap.size j s (bkT ws s (0 * 8))) := hide HPB.out
      clear HPB
      go_loopw [55] (fun i wr => ∃ i' : Nat, i' ≤ L' + 1 ∧ i = .int .i64 (i' : Int) ∧ PB wr w.heap.size j s (bkT ws s (i' * 8)) ∧ Below w.heap.size w wr) (fun i _ => L' + 1 - (intOf i).toNat)
      case atStart => exact ⟨0, Nat.zero_le _, rfl, HPB0.out, HB.out⟩
      case round =>
        clear HPB0 HB
        obtain ⟨i, hi, rfl, hP, hB⟩ := hrel
        have HP := hide hP
        have HB := hide hB
        by_cases hlt : i < L' + 1
        · have cw := HC.out _ hB i (by rw [HL.out]; exact hlt)
          have hw64 := HW64.out i (by rw [HL.out]; exact hlt)
          have HWQ := hide fun x => HWP.out x i (by omega)
          obtain ⟨hK, hA, hKA⟩ := HIN.out i hlt
          have HPX : Hid (∀ t, t < 8 → pb ws (i * 8 + t) = ws.getD i 0 / 2 ^ (8 * t) % 256) := hide fun t ht => by
            unfold pb
            rw [show (i * 8 + t) / 8 = i by omega, show (i * 8 + t) % 8 = t by omega]
          clear hP hB HWP HIN
          generalize ws.getD i 0 = wd at *
          generalize i * 8 / s = K at *
          generalize i * 8 % s = A at *
          go_wp2_with (first
            | (go_at_call 27; refine (HWQ.out _).mono ?_; rintro e w3 ⟨rfl, m3, h3⟩; subst h3))
          have HP3 : Hid (PB (wr.drewN m3) w.heap.size j s (bkT ws s (i * 8 + 0))) := hide ⟨HP.out.row, HP.out.blk⟩
          have HB3 : Hid (Below w.heap.size w (wr.drewN m3)) := hide ⟨HB.out.os, HB.out.tape, HB.out.output, HB.out.size, HB.out.block⟩
          clear HP HB HWQ cw
          generalize wr.drewN m3 = w4 at *
          go_loopw [66] (fun x wr => ∃ t : Nat, t ≤ 8 ∧ x = .int .i64 (t : Int) ∧ PB wr w.heap.size j s (bkT ws s (i * 8 + t)) ∧ Below w.heap.size w wr) (fun x _ => 8 - (intOf x).toNat)
          case atStart => exact ⟨0, Nat.zero_le _, rfl, HP3.out, HB3.out⟩
          case round =>
            clear HP3 HB3
            obtain ⟨t, ht, rfl, hP, hB⟩ := hrel
            have HP := hide hP
            have HB := hide hB
            by_cases htn : t < 8
            · have c0 : wr.cell? ⟨w.heap.size, K, none⟩ = some (.slice (some ⟨w.heap.size + 1 + K, 0, none⟩) s s) := by
                rw [cell_of_row _ _ _ _ _ _ hP.row]
                simp [hK]
              obtain ⟨y, c1⟩ : ∃ y, wr.cell? ⟨w.heap.size + 1 + K, A + t, none⟩ = some y := by
                rw [cell_of_row _ _ _ _ _ _ (hP.blk K hK)]
                exact ⟨_, Array.getElem?_eq_getElem (by simp [bkT_len]; omega)⟩
              have f1 : wr.frozen? ⟨w.heap.size + 1 + K, A + t, none⟩ = false := frozen_of_row _ _ _ _ 5 (hP.blk K hK)
              have HPN := hide (hP.set (R := A + t) (x := wd / 2 ^ (8 * t) % 256) (B' := bkT ws s (i * 8 + (t + 1))) hK (by rw [← HPX.out t htn]; exact bkT_set (t := i * 8 + t) (by omega) (by omega)) (fun k hk => bkT_other (K := K) (t := i * 8 + t) hk (by omega) (by omega)))
              have HBN := hide (hB.setCell (p := ⟨w.heap.size + 1 + K, A + t, none⟩) (by show w.heap.size ≤ w.heap.size + 1 + K; omega) (.int .u8 ((wd / 2 ^ (8 * t) % 256 : Nat) : Int)))
              have hi1 : (0 : Int) ≤ (A : Int) + (t : Int) := by omega
              have hi2 : (A : Int) + (t : Int) < (s : Int) := by omega
              have hi3 : IntKind.i64.wrap ((A : Int) + (t : Int)) = (A : Int) + (t : Int) := by simp [IntKind.wrap, IntKind.bits, IntKind.signed]; omega
              have hi4 : ((A : Int) + (t : Int)).toNat = A + t := by omega
              obtain ⟨T8, hT8⟩ : ∃ T8, 8 * t = T8 := ⟨_, rfl⟩
              have hi5 : (8 : Int) * (t : Int) = (T8 : Int) := by omega
              have hi8 : (0 : Int) ≤ (T8 : Int) := by omega
              have hi9 : (T8 : Int) ≤ 64 := by omega
              have hsh : Op.shift .shr .u64 (wd : Int) .i64 (T8 : Int) = (pure (.int .u64 ((wd / 2 ^ T8 : Nat) : Int)) : Sem Value) := by
                rw [shift_shr .u64 .i64 (wd : Int) (T8 : Int) hi8 (by simpa [IntKind.bits] using hi9), Int.toNat_natCast, Int.natCast_ediv, Int.natCast_pow]
                rfl
              have hwt : IntKind.i64.wrap ((8 : Int) * (t : Int)) = (T8 : Int) := by simp [IntKind.wrap, IntKind.bits, IntKind.signed]; omega
              clear hi5
              rw [hT8] at HPN HBN
              clear hP hB
              go_wp2_with fail
              refine wp_still_tail 13 (by kernel_rfl) (by kernel_rfl) ?_
              simp only [List.take_succ_cons, List.take_zero, List.drop_succ_cons, List.drop_zero]
              repeat still_step
              refine wpStill_nil ?_
              go_wp2_with fail
              go_roundw
              case rel =>
                have e : ((wd / 2 ^ T8 % 256 : Nat) : Int) = (wd : Int) / 2 ^ T8 % 256 := by
                  rw [Int.natCast_emod, Int.natCast_ediv, Int.natCast_pow]
                  rfl
                have p := HPN.out
                have q := HBN.out
                rw [e] at p q
                exact ⟨t + 1, by omega, by go_num, ⟨p.row, p.blk⟩, ⟨q.os, q.tape, q.output, q.size, q.block⟩⟩
              case measure => simp [intOf]; omega
            · obtain rfl : t = 8 := by omega
              clear hP hB
              go_wp2_with fail
              go_roundw
              case rel => exact ⟨i + 1, by omega, by go_num, by rw [show (i + 1) * 8 = i * 8 + 8 by omega]; exact HP.out, HB.out⟩
              case measure => simp [intOf]; omega
        · obtain rfl : i = L' + 1 := by omega
          clear hP hB
          go_wp2_with fail
          (try simp only [Exit.inBlock, Exit.then]); refine bodyPost_ret (results_tmp2 rfl _ _ _) rfl ?_
          exact ⟨w.heap.size, rfl, HP.out, Nat.le_refl _, HB.out⟩
end Go.Proofs.Ytepgiomgkgfioaa
