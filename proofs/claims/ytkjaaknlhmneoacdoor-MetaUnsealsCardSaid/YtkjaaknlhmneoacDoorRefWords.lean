import Derived.Test.YtkjaaknlhmneoacDoorRefTurn
import Derived.Test.YtkjaaknlhmneoacDoorShaMac
namespace Go.Proofs.YtkjaaknlhmneoacDoor
open Go.RowKit
open Num
set_option linter.unusedVariables false
set_option linter.unusedSimpArgs false

theorem chunk_getD {M : List Nat} {at' i : Nat} (hi : i < 64) (h : at' + 64 ≤ M.length) : ((M.drop at').take 64).getD i 0 = M.getD (at' + i) 0 := by
  simp only [List.getD]
  rw [List.getElem?_take, if_pos hi, List.getElem?_drop]

theorem words_row {w wr : World} {ys : Array Value} {c : List Nat} {k z : Nat} (h1 : wr.heap[w.heap.size]? = some (.cells zeroW 93 (0, 0)))
    (hb : Below w.heap.size w wr) (hy1 : ys.size = 64) (hy2 : ys.toList.take k = (sched c k).map wordV) (h2 : wr.heap[w.heap.size + 1]? = some (.cells ys 93 (0, 0))) (hk : k < 64) (hz : wordAt c (sched c k) k = z) :
    (wr.drew.setCell ⟨w.heap.size + 1, k, none⟩ (.int .u32 (z : Int))).heap[w.heap.size]? = some (.cells zeroW 93 (0, 0)) ∧
    Below w.heap.size w (wr.drew.setCell ⟨w.heap.size + 1, k, none⟩ (.int .u32 (z : Int))) ∧
    ∃ ys' : Array Value, ys'.size = 64 ∧ ys'.toList.take (k + 1) = (sched c (k + 1)).map wordV ∧ (wr.drew.setCell ⟨w.heap.size + 1, k, none⟩ (.int .u32 (z : Int))).heap[w.heap.size + 1]? = some (.cells ys' 93 (0, 0)) := by
  refine ⟨?_, hb.drew.setCell (by show w.heap.size ≤ w.heap.size + 1; omega) _, ys.setIfInBounds k (.int .u32 (z : Int)), by simpa using hy1, ?_, ?_⟩
  · rw [Go.heap_setCell_other _ _ _ _ (by show w.heap.size ≠ w.heap.size + 1; omega)]; exact h1
  · rw [take_succ_set (by omega) hy2, sched, List.map_append, hz]; rfl
  · exact Go.heap_setCell_same wr.drew _ k ys 93 _ h2

set_option maxRecDepth 100000 in
set_option maxHeartbeats 8000000 in
theorem words_any (v : Value) (M : List Nat) (p : Nat) (w : World) (h : BSl w v M) (hp : p + 64 ≤ M.length) (hM : M.length ≤ 140737488355328 + 128) :
    Calls Tryd.prog 64 #[v, .int .i64 (p : Int)] w fun e w' => e = .returned (.agg ((sched ((M.drop p).take 64) 64).map wordV).toArray) ∧ Below w.heap.size w w' := by
  have hcb : ∀ x ∈ (M.drop p).take 64, x < 256 := take_lt h.bytes p 64
  have hV := h
  obtain ⟨a, cap, rfl, hl, hm, _, _, hcell⟩ := h
  obtain ⟨b, off, rfl, hc⟩ := hcell (by omega)
  have hblt : b < w.heap.size := World.block_lt_of_cell? w ⟨b, off + 0, none⟩ (hc 0 (by omega))
  have HX : Hid (∀ i, i < 64 → w.cell? ⟨b, off + (p + i), none⟩ = some (.int .u8 (((M.drop p).take 64).getD i 0 : Nat))) := by
    intro i hi; rw [hc _ (by omega), chunk_getD hi hp]
  have HB : Hid (∀ i, i < 64 → ((M.drop p).take 64).getD i 0 < 256) := fun i hi => hcb _ (mem_getD (by simp; omega))
  have HW := hide (fun t => sched_lt hcb t)
  generalize (M.drop p).take 64 = c at *
  unfold maxLen at hm
  clear hc hcell hV hcb
  go_enter Tryd.func64, Tryd.ntmps64
  go_wp2_with (refine wpList_alloc_as rfl 93 rfl (.agg zeroW) zeroW Tryd.zeroW rfl ?_)
  have R1 := hide (heap_more (.cells zeroW 93) (Go.heap_alloc_new w (.cells zeroW 93)))
  have R2 := hide (heap_alloc2_new w (.cells zeroW 93) (.cells zeroW 93))
  have RB := hide (below_alloc2 w (.cells zeroW 93) (.cells zeroW 93))
  generalize ((w.alloc (.cells zeroW 93)).alloc (.cells zeroW 93)) = w0 at *
  go_loopw [6] (fun i wr => ∃ k : Nat, k ≤ 16 ∧ i = .int .i64 k ∧ wr.heap[w.heap.size]? = some (.cells zeroW 93 (0, 0)) ∧ Below w.heap.size w wr ∧
      ∃ ys : Array Value, ys.size = 64 ∧ ys.toList.take k = (sched c k).map wordV ∧ wr.heap[w.heap.size + 1]? = some (.cells ys 93 (0, 0))) (fun i _ => 16 - (intOf i).toNat)
  case atStart => exact ⟨0, Nat.zero_le _, rfl, R1.out, RB.out, _, rfl, rfl, R2.out⟩
  case round =>
    clear R1 R2 RB
    obtain ⟨k, hk, rfl, hr1, hbel, ys, hy1, hy2, hr2⟩ := hrel
    by_cases hlt : k < 16
    · have hx : ∀ i, i < 64 → wr.cell? ⟨b, off + (p + i), none⟩ = some (.int .u8 (c.getD i 0 : Nat)) := fun i hi => by
        rw [hbel.cell (p := ⟨b, off + (p + i), none⟩) hblt]; exact HX.out i hi
      obtain ⟨v0, hv0⟩ : ∃ v, ys[k]? = some v := ⟨ys[k]'(by omega), by simp⟩
      have hst : wr.cell? ⟨w.heap.size + 1, k, none⟩ = some v0 := by rw [cell_of_row _ _ k ys 93 (0, 0) hr2]; exact hv0
      have hfz : wr.frozen? ⟨w.heap.size + 1, k, none⟩ = false := frozen_of_row _ _ k ys 93 hr2
      have c0 := hx (4 * k) (by omega)
      have c1 := hx (4 * k + 1) (by omega)
      have c2 := hx (4 * k + 2) (by omega)
      have c3 := hx (4 * k + 3) (by omega)
      have b0 := HB.out (4 * k) (by omega)
      have b1 := HB.out (4 * k + 1) (by omega)
      have b2 := HB.out (4 * k + 2) (by omega)
      have b3 := HB.out (4 * k + 3) (by omega)
      have HWA : Hid (wordAt c (sched c k) k = ((c.getD (4 * k) 0 * 16777216 ||| c.getD (4 * k + 1) 0 * 65536) ||| c.getD (4 * k + 2) 0 * 256) ||| c.getD (4 * k + 3) 0) := by
        show _ = _; rw [wordAt, if_pos hlt]
      generalize c.getD (4 * k) 0 = x0 at *
      generalize c.getD (4 * k + 1) 0 = x1 at *
      generalize c.getD (4 * k + 2) 0 = x2 at *
      generalize c.getD (4 * k + 3) 0 = x3 at *
      obtain ⟨i0, e0⟩ : ∃ i, p + 4 * k = i := ⟨_, rfl⟩
      obtain ⟨i1, e1⟩ : ∃ i, p + (4 * k + 1) = i := ⟨_, rfl⟩
      obtain ⟨i2, e2⟩ : ∃ i, p + (4 * k + 2) = i := ⟨_, rfl⟩
      obtain ⟨i3, e3⟩ : ∃ i, p + (4 * k + 3) = i := ⟨_, rfl⟩
      obtain ⟨k4, ek⟩ : ∃ i, 4 * k = i := ⟨_, rfl⟩
      rw [e0] at c0
      rw [e1] at c1
      rw [e2] at c2
      rw [e3] at c3
      have mk : IntKind.i64.wrap (4 * (k : Int)) = (k4 : Int) := by rw [wrap_i64 (by omega) (by omega)]; omega
      have m0 : IntKind.i64.wrap ((p : Int) + (k4 : Int)) = (i0 : Int) := by rw [wrap_i64 (by omega) (by omega)]; omega
      have m1 : IntKind.i64.wrap ((i0 : Int) + 1) = (i1 : Int) := by rw [wrap_i64 (by omega) (by omega)]; omega
      have m2 : IntKind.i64.wrap ((i0 : Int) + 2) = (i2 : Int) := by rw [wrap_i64 (by omega) (by omega)]; omega
      have m3 : IntKind.i64.wrap ((i0 : Int) + 3) = (i3 : Int) := by rw [wrap_i64 (by omega) (by omega)]; omega
      have l0 : (i0 : Int) < (M.length : Int) := by omega
      have l1 : (i1 : Int) < (M.length : Int) := by omega
      have l2 : (i2 : Int) < (M.length : Int) := by omega
      have l3 : (i3 : Int) < (M.length : Int) := by omega
      have lk : (k : Int) < 64 := by omega
      have lk16 : (k : Int) < 16 := by omega
      obtain ⟨y0, ey0⟩ : ∃ y, x0 * 16777216 = y := ⟨_, rfl⟩
      obtain ⟨y1, ey1⟩ : ∃ y, x1 * 65536 = y := ⟨_, rfl⟩
      obtain ⟨y2, ey2⟩ : ∃ y, x2 * 256 = y := ⟨_, rfl⟩
      have q0 : IntKind.u32.wrap ((x0 : Int) * 16777216) = (y0 : Int) := by rw [IntKind.wrap_u32']; omega
      have q1 : IntKind.u32.wrap ((x1 : Int) * 65536) = (y1 : Int) := by rw [IntKind.wrap_u32']; omega
      have q2 : IntKind.u32.wrap ((x2 : Int) * 256) = (y2 : Int) := by rw [IntKind.wrap_u32']; omega
      have q3 : IntKind.u32.wrap (x0 : Int) = (x0 : Int) := by rw [IntKind.wrap_u32']; omega
      have q4 : IntKind.u32.wrap (x1 : Int) = (x1 : Int) := by rw [IntKind.wrap_u32']; omega
      have q5 : IntKind.u32.wrap (x2 : Int) = (x2 : Int) := by rw [IntKind.wrap_u32']; omega
      have q6 : IntKind.u32.wrap (x3 : Int) = (x3 : Int) := by rw [IntKind.wrap_u32']; omega
      rw [ey0, ey1, ey2] at HWA
      have o1 := or_u32 (show y0 < 4294967296 by omega) (show y1 < 4294967296 by omega)
      have ol1 : y0 ||| y1 < 4294967296 := Nat.or_lt_two_pow (n := 32) (by omega) (by omega)
      have o2 := or_u32 ol1 (show y2 < 4294967296 by omega)
      have ol2 : (y0 ||| y1) ||| y2 < 4294967296 := Nat.or_lt_two_pow (n := 32) ol1 (by omega)
      have o3 := or_u32 ol2 (show x3 < 4294967296 by omega)
      generalize y0 ||| y1 = z1 at *
      generalize z1 ||| y2 = z2 at *
      generalize z2 ||| x3 = z3 at *
      clear e0 e1 e2 e3 ek ey0 ey1 ey2 b0 b1 b2 b3 ol1 ol2 hx
      have HR1 := hide hr1
      have HR2 := hide hr2
      have HY1 := hide hy1
      have HY2 := hide hy2
      have HBL := hide hbel
      clear hr1 hr2 hy1 hy2 hbel hv0
      go_wp2
      refine wp_still_tail 43 (by kernel_rfl) (by kernel_rfl) ?_
      simp only [List.take_succ_cons, List.take_zero, List.drop_succ_cons, List.drop_zero]
      repeat still_step
      refine wpStill_nil ?_
      go_wp2
      go_roundw
      case rel => exact ⟨k + 1, by omega, by go_num, words_row HR1.out HBL.out HY1.out HY2.out HR2.out (by omega) HWA.out⟩
      case measure => simp [intOf]; omega
    · have hk16 : k = 16 := by omega
      subst hk16
      have S1 := hide hr1
      have S2 := hide hr2
      have SB := hide hbel
      have SY1 := hide hy1
      have SY2 := hide hy2
      clear hr1 hr2 hbel hy1 hy2 hlt hk
      go_wp2_with fail
      rw [show ((16 : Nat) : Int) = 16 from rfl]
      go_loopw [7] (fun i wr => ∃ k : Nat, 16 ≤ k ∧ k ≤ 64 ∧ i = .int .i64 k ∧ wr.heap[w.heap.size]? = some (.cells zeroW 93 (0, 0)) ∧ Below w.heap.size w wr ∧
          ∃ ys : Array Value, ys.size = 64 ∧ ys.toList.take k = (sched c k).map wordV ∧ wr.heap[w.heap.size + 1]? = some (.cells ys 93 (0, 0))) (fun i _ => 64 - (intOf i).toNat)
      case atStart => exact ⟨16, Nat.le_refl _, by omega, rfl, S1.out, SB.out, _, SY1.out, SY2.out, S2.out⟩
      case round =>
        clear S1 S2 SB SY1 SY2
        obtain ⟨k, hk0, hk, rfl, hr1, hbel, ys, hy1, hy2, hr2⟩ := hrel
        by_cases hlt : k < 64
        · obtain ⟨v0, hv0⟩ : ∃ v, ys[k]? = some v := ⟨ys[k]'(by omega), by simp⟩
          have hst : wr.cell? ⟨w.heap.size + 1, k, none⟩ = some v0 := by rw [cell_of_row _ _ k ys 93 (0, 0) hr2]; exact hv0
          have hfz : wr.frozen? ⟨w.heap.size + 1, k, none⟩ = false := frozen_of_row _ _ k ys 93 hr2
          have hl := sched_len c k
          have hcell : ∀ j, j < k → wr.cell? ⟨w.heap.size + 1, j, none⟩ = some (.int .u32 ((sched c k).getD j 0 : Nat)) := by
            intro j hj
            rw [cell_of_row _ _ j ys 93 (0, 0) hr2, ← map_wordV_getD (by omega), ← hy2, List.getElem?_take, if_pos hj, Array.getElem?_toList]
          have hlt2 : ∀ j, j < k → (sched c k).getD j 0 < 4294967296 := fun j hj => HW.out k _ (mem_getD (by omega))
          have c0 := hcell (k - 2) (by omega)
          have c1 := hcell (k - 7) (by omega)
          have c2 := hcell (k - 15) (by omega)
          have c3 := hcell (k - 16) (by omega)
          have b0 := hlt2 (k - 2) (by omega)
          have b1 := hlt2 (k - 7) (by omega)
          have b2 := hlt2 (k - 15) (by omega)
          have b3 := hlt2 (k - 16) (by omega)
          have HWA : Hid (wordAt c (sched c k) k = (sSig1 ((sched c k).getD (k - 2) 0) + (sched c k).getD (k - 7) 0 + sSig0 ((sched c k).getD (k - 15) 0) + (sched c k).getD (k - 16) 0) % 4294967296) := by
            show _ = _; rw [wordAt, if_neg (by omega)]
          clear hcell hlt2
          generalize (sched c k).getD (k - 2) 0 = x0 at *
          generalize (sched c k).getD (k - 7) 0 = x1 at *
          generalize (sched c k).getD (k - 15) 0 = x2 at *
          generalize (sched c k).getD (k - 16) 0 = x3 at *
          obtain ⟨i0, e0⟩ : ∃ i, k - 2 = i := ⟨_, rfl⟩
          obtain ⟨i1, e1⟩ : ∃ i, k - 7 = i := ⟨_, rfl⟩
          obtain ⟨i2, e2⟩ : ∃ i, k - 15 = i := ⟨_, rfl⟩
          obtain ⟨i3, e3⟩ : ∃ i, k - 16 = i := ⟨_, rfl⟩
          rw [e0] at c0
          rw [e1] at c1
          rw [e2] at c2
          rw [e3] at c3
          have m0 : (k : Int) - 2 = (i0 : Int) := by omega
          have m1 : (k : Int) - 7 = (i1 : Int) := by omega
          have m2 : (k : Int) - 15 = (i2 : Int) := by omega
          have m3 : (k : Int) - 16 = (i3 : Int) := by omega
          have n1 : IntKind.i64.wrap ((k : Int) - 7) = (i1 : Int) := by rw [wrap_i64 (by omega) (by omega)]; omega
          have n3 : IntKind.i64.wrap ((k : Int) - 16) = (i3 : Int) := by rw [wrap_i64 (by omega) (by omega)]; omega
          have l0 : (i0 : Int) < 64 := by omega
          have l1 : (i1 : Int) < 64 := by omega
          have l2 : (i2 : Int) < 64 := by omega
          have l3 : (i3 : Int) < 64 := by omega
          have lk : (k : Int) < 64 := by omega
          have s1 := sSig1_lt b0
          have s0 := sSig0_lt b2
          have T17 := hide (fun wx => turn_17 x0 b0 wx)
          have T19 := hide (fun wx => turn_19 x0 b0 wx)
          have T7 := hide (fun wx => turn_7 x2 b2 wx)
          have T18 := hide (fun wx => turn_18 x2 b2 wx)
          have g1 := xor_u32 (rot_lt (n := 17) b0) (rot_lt (n := 19) b0)
          have g2 : bits BinOp.xor IntKind.u32 ((rot 17 x0 ^^^ rot 19 x0 : Nat) : Int) ((x0 : Int) / 1024) = ((sSig1 x0 : Nat) : Int) := by
            have h := xor_u32 (xor_lt (rot_lt (n := 17) b0) (rot_lt (n := 19) b0)) (show x0 / 1024 < 4294967296 by omega)
            rw [show ((x0 / 1024 : Nat) : Int) = (x0 : Int) / 1024 from by omega] at h
            exact h
          have g3 := xor_u32 (rot_lt (n := 7) b2) (rot_lt (n := 18) b2)
          have g4 : bits BinOp.xor IntKind.u32 ((rot 7 x2 ^^^ rot 18 x2 : Nat) : Int) ((x2 : Int) / 8) = ((sSig0 x2 : Nat) : Int) := by
            have h := xor_u32 (xor_lt (rot_lt (n := 7) b2) (rot_lt (n := 18) b2)) (show x2 / 8 < 4294967296 by omega)
            rw [show ((x2 / 8 : Nat) : Int) = (x2 : Int) / 8 from by omega] at h
            exact h
          generalize sSig1 x0 = y0 at *
          generalize sSig0 x2 = y2 at *
          generalize rot 17 x0 ^^^ rot 19 x0 = w1 at *
          generalize rot 7 x2 ^^^ rot 18 x2 = w2 at *
          generalize rot 17 x0 = r17 at *
          generalize rot 19 x0 = r19 at *
          generalize rot 7 x2 = r7 at *
          generalize rot 18 x2 = r18 at *
          obtain ⟨z1, ez1⟩ : ∃ z, (y0 + x1) % 4294967296 = z := ⟨_, rfl⟩
          obtain ⟨z2, ez2⟩ : ∃ z, (z1 + y2) % 4294967296 = z := ⟨_, rfl⟩
          obtain ⟨z3, ez3⟩ : ∃ z, (z2 + x3) % 4294967296 = z := ⟨_, rfl⟩
          have HWB : Hid (wordAt c (sched c k) k = z3) := by show _ = _; rw [HWA.out]; omega
          have a1 : IntKind.u32.wrap ((y0 : Int) + (x1 : Int)) = (z1 : Int) := by rw [IntKind.wrap_u32']; omega
          have a2 : IntKind.u32.wrap ((z1 : Int) + (y2 : Int)) = (z2 : Int) := by rw [IntKind.wrap_u32']; omega
          have a3 : IntKind.u32.wrap ((z2 : Int) + (x3 : Int)) = (z3 : Int) := by rw [IntKind.wrap_u32']; omega
          have HR1 := hide hr1
          have HR2 := hide hr2
          have HY1 := hide hy1
          have HY2 := hide hy2
          have HBL := hide hbel
          clear hr1 hr2 hy1 hy2 hbel hv0 e0 e1 e2 e3 ez1 ez2 ez3 HWA hl s1 s0 b1 b3
          go_wp2_with fail
          refine (T17.out _).mono ?_
          rintro e w' ⟨rfl, rfl⟩
          go_wp2_with fail
          refine (T19.out _).mono ?_
          rintro e w' ⟨rfl, rfl⟩
          go_wp2_with fail
          refine (T7.out _).mono ?_
          rintro e w' ⟨rfl, rfl⟩
          go_wp2_with fail
          refine (T18.out _).mono ?_
          rintro e w' ⟨rfl, rfl⟩
          go_wp2
          clear m1 m3
          refine wp_still_tail 15 (by kernel_rfl) (by kernel_rfl) ?_
          simp only [List.take_succ_cons, List.take_zero, List.drop_succ_cons, List.drop_zero]
          repeat still_step
          refine wpStill_nil ?_
          go_wp2
          go_roundw
          case rel => exact ⟨k + 1, by omega, by omega, by go_num, words_row HR1.out HBL.out HY1.out HY2.out HR2.out (by omega) HWB.out⟩
          case measure => simp [intOf]; omega
        · have hk64 : k = 64 := by omega
          subst hk64
          have hys : ys = ((sched c 64).map wordV).toArray := by
            rw [List.take_of_length_le (by simp [hy1])] at hy2
            rw [← hy2]
          have hone : ys.all (·.oneCell') = true := by rw [hys]; exact wordV_one _
          have hsz : (Tryd.prog.info? 93).map (·.size) = some ys.size := by rw [hy1]; exact Tryd.sizeW
          have hzs : zeroW.size = ys.size := by rw [hy1]; rfl
          have HE : Hid (Ending.returned (.agg ys) = .returned (.agg ((sched c 64).map wordV).toArray)) := by show _ = _; rw [hys]
          have HR1 := hide hr1
          have HR2 := hide hr2
          have HBL := hide hbel
          have HRS := hide (setRow_heap wr w.heap.size zeroW ys 93 (0, 0) hr1)
          clear hr1 hr2 hy1 hy2 hbel hys
          go_wp2_with (first
            | refine wpList_load_row rfl 93 _ rfl (w.heap.size + 1) rfl 93 ys (0, 0) _ HR2.out Tryd.underlying93 rfl hsz ?_
            | refine wpList_store_row rfl 93 _ _ rfl w.heap.size ys rfl rfl 93 zeroW HR1.out hsz hzs hone ?_)
          exact bodyPost_ret (v := .agg ys) (results_cell_row rfl _ _ w.heap.size 93 ys (0, 0) _ rfl HRS.out Tryd.underlying93 rfl hsz) rfl ⟨HE.out, below_setRow HBL.out (Nat.le_refl _) _⟩
end Go.Proofs.YtkjaaknlhmneoacDoor
