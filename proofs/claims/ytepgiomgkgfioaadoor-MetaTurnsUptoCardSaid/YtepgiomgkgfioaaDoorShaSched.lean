import Derived.Test.YtepgiomgkgfioaaDoorShaFn
import Derived.Test.YtepgiomgkgfioaaDoorArr
import Derived.StillTailTactics
import Derived.Laws.CopyOwn
namespace Go.Proofs.YtepgiomgkgfioaaDoor
open Go.RowKit
open Num
set_option linter.unusedVariables false

def wordV (n : Nat) : Value := .int .u32 (n : Int)
def zeroW : Array Value := ((List.replicate 64 0).map wordV).toArray
theorem Tryd.zeroW : (Tryd.prog.info? 102).map (·.zero) = some (some (.agg zeroW)) := by kernel_rfl
theorem Tryd.sizeW : (Tryd.prog.info? 102).map (·.size) = some 64 := by kernel_rfl

theorem map_wordV_getD {l : List Nat} {i : Nat} (hi : i < l.length) : (l.map wordV)[i]? = some (.int .u32 (l.getD i 0 : Nat)) := by
  simp [List.getD, hi, wordV]
theorem wordV_one (l : List Nat) : (l.map wordV).toArray.all (·.oneCell') = true := all_oneCell_toArray (fun v hv => by obtain ⟨_, _, rfl⟩ := List.mem_map.1 hv; rfl)

theorem take_succ_set {ys : Array Value} {k : Nat} {A : List Value} (hs : k < ys.size) (h : ys.toList.take k = A) (u : Value) :
    (ys.setIfInBounds k u).toList.take (k + 1) = A ++ [u] := by
  subst h
  have hs' : k < ys.toList.length := by simpa using hs
  simp only [Array.toList_setIfInBounds]
  rw [List.take_succ_eq_append_getElem (by simp; omega)]
  simp [List.take_set_of_le]

theorem wrap_i64 {x : Int} (h1 : -9223372036854775808 ≤ x) (h2 : x ≤ 9223372036854775807) : IntKind.i64.wrap x = x := by
  simp [IntKind.wrap, IntKind.bits, IntKind.signed]; omega

theorem heap_kept {w w' : World} {g : Nat} {o : Obj} (hb : Below w.heap.size w w') (h : w.heap[g]? = some o) : w'.heap[g]? = some o := by
  rw [hb.block g (Array.getElem?_eq_some_iff.1 h).1]; exact h
theorem heap_more {w : World} {g : Nat} {o : Obj} (o2 : Obj) (h : w.heap[g]? = some o) : (w.alloc o2).heap[g]? = some o := heap_kept (below_alloc w o2) h
theorem heap3_new (w : World) (A B C : Obj) : (((w.alloc A).alloc B).alloc C).heap[w.heap.size + 1 + 1]? = some C := by
  have h := Go.heap_alloc_new ((w.alloc A).alloc B) C
  have e : ((w.alloc A).alloc B).heap.size = w.heap.size + 1 + 1 := by simp
  rwa [e] at h

theorem round_row {w wr : World} {cs ys : Array Value} {c : List Nat} {k z : Nat} (h0 : wr.heap[w.heap.size]? = some (.cells cs 89 (0, 0))) (h1 : wr.heap[w.heap.size + 1]? = some (.cells zeroW 102 (0, 0)))
    (hb : Below w.heap.size w wr) (hy1 : ys.size = 64) (hy2 : ys.toList.take k = (sched c k).map wordV) (h2 : wr.heap[w.heap.size + 1 + 1]? = some (.cells ys 102 (0, 0))) (hk : k < 64) (hz : wordAt c (sched c k) k = z) :
    (wr.drew.setCell ⟨w.heap.size + 1 + 1, k, none⟩ (.int .u32 (z : Int))).heap[w.heap.size]? = some (.cells cs 89 (0, 0)) ∧
    (wr.drew.setCell ⟨w.heap.size + 1 + 1, k, none⟩ (.int .u32 (z : Int))).heap[w.heap.size + 1]? = some (.cells zeroW 102 (0, 0)) ∧
    Below w.heap.size w (wr.drew.setCell ⟨w.heap.size + 1 + 1, k, none⟩ (.int .u32 (z : Int))) ∧
    ∃ ys' : Array Value, ys'.size = 64 ∧ ys'.toList.take (k + 1) = (sched c (k + 1)).map wordV ∧ (wr.drew.setCell ⟨w.heap.size + 1 + 1, k, none⟩ (.int .u32 (z : Int))).heap[w.heap.size + 1 + 1]? = some (.cells ys' 102 (0, 0)) := by
  refine ⟨?_, ?_, hb.drew.setCell (by show w.heap.size ≤ w.heap.size + 1 + 1; omega) _, ys.setIfInBounds k (.int .u32 (z : Int)), by simpa using hy1, ?_, ?_⟩
  · rw [Go.heap_setCell_other _ _ _ _ (by show w.heap.size ≠ w.heap.size + 1 + 1; omega)]; exact h0
  · rw [Go.heap_setCell_other _ _ _ _ (by show w.heap.size + 1 ≠ w.heap.size + 1 + 1; omega)]; exact h1
  · rw [take_succ_set (by omega) hy2, sched, List.map_append, hz]; rfl
  · exact Go.heap_setCell_same wr.drew _ k ys 102 _ h2

set_option maxRecDepth 100000 in
set_option maxHeartbeats 4000000 in
theorem sched_any (c : List Nat) (hl : c.length = 64) (hb : ∀ b ∈ c, b < 256) (w : World) :
    Calls Tryd.prog 46 #[.agg (c.map byteV).toArray] w fun e w' => e = .returned (.agg ((sched c 64).map wordV).toArray) ∧ Below w.heap.size w w' := by
  have HX : Hid (∀ i, i < 64 → (c.map byteV).toArray[i]? = some (.int .u8 (c.getD i 0 : Nat))) := by
    intro i hi; rw [List.getElem?_toArray, map_byteV_getD (by omega)]
  have HB : Hid (∀ i, i < 64 → c.getD i 0 < 256) := fun i hi => hb _ (mem_getD (by omega))
  have HW := hide (fun t => sched_lt hb t)
  generalize (c.map byteV).toArray = cs at *
  clear hl hb
  go_enter Tryd.func46, Tryd.ntmps46
  go_wp2_with (refine wpList_alloc_as rfl 102 rfl (.agg zeroW) zeroW Tryd.zeroW rfl ?_)
  have hr0 : (((w.alloc (.cells cs 89)).alloc (.cells zeroW 102)).alloc (.cells zeroW 102)).heap[w.heap.size]? = some (.cells cs 89 (0, 0)) := heap_more _ (heap_more _ (Go.heap_alloc_new w _))
  have hr1 : (((w.alloc (.cells cs 89)).alloc (.cells zeroW 102)).alloc (.cells zeroW 102)).heap[w.heap.size + 1]? = some (.cells zeroW 102 (0, 0)) := heap_more _ (heap_alloc2_new w _ _)
  have hr2 : (((w.alloc (.cells cs 89)).alloc (.cells zeroW 102)).alloc (.cells zeroW 102)).heap[w.heap.size + 1 + 1]? = some (.cells zeroW 102 (0, 0)) := heap3_new w _ _ _
  have hb3 := below_alloc3 w (.cells cs 89) (.cells zeroW 102) (.cells zeroW 102)
  generalize (((w.alloc (.cells cs 89)).alloc (.cells zeroW 102)).alloc (.cells zeroW 102)) = w0 at *
  have R0 := hide hr0
  have R1 := hide hr1
  have R2 := hide hr2
  have RB := hide hb3
  clear hr0 hr1 hr2 hb3
  go_loopw [5] (fun i wr => ∃ k : Nat, k ≤ 64 ∧ i = .int .i64 k ∧ wr.heap[w.heap.size]? = some (.cells cs 89 (0, 0)) ∧ wr.heap[w.heap.size + 1]? = some (.cells zeroW 102 (0, 0)) ∧ Below w.heap.size w wr ∧
      ∃ ys : Array Value, ys.size = 64 ∧ ys.toList.take k = (sched c k).map wordV ∧ wr.heap[w.heap.size + 1 + 1]? = some (.cells ys 102 (0, 0))) (fun i _ => 64 - (intOf i).toNat)
  case atStart => exact ⟨0, Nat.zero_le _, rfl, R0.out, R1.out, RB.out, _, rfl, rfl, R2.out⟩
  case round =>
    clear R0 R1 R2 RB
    obtain ⟨k, hk, rfl, hr0, hr1, hbel, ys, hy1, hy2, hr2⟩ := hrel
    by_cases hlt : k < 64
    · obtain ⟨v0, hv0⟩ : ∃ v, ys[k]? = some v := ⟨ys[k]'(by omega), by simp⟩
      have hst : wr.cell? ⟨w.heap.size + 1 + 1, k, none⟩ = some v0 := by rw [cell_of_row _ _ k ys 102 (0, 0) hr2]; exact hv0
      have hfz : wr.frozen? ⟨w.heap.size + 1 + 1, k, none⟩ = false := frozen_of_row _ _ k ys 102 hr2
      by_cases h16 : k < 16
      · have c0 : wr.cell? ⟨w.heap.size, 4 * k, none⟩ = some (.int .u8 (c.getD (4 * k) 0 : Nat)) := by rw [cell_of_row _ _ _ cs 89 (0, 0) hr0]; exact HX.out _ (by omega)
        have c1 : wr.cell? ⟨w.heap.size, 4 * k + 1, none⟩ = some (.int .u8 (c.getD (4 * k + 1) 0 : Nat)) := by rw [cell_of_row _ _ _ cs 89 (0, 0) hr0]; exact HX.out _ (by omega)
        have c2 : wr.cell? ⟨w.heap.size, 4 * k + 2, none⟩ = some (.int .u8 (c.getD (4 * k + 2) 0 : Nat)) := by rw [cell_of_row _ _ _ cs 89 (0, 0) hr0]; exact HX.out _ (by omega)
        have c3 : wr.cell? ⟨w.heap.size, 4 * k + 3, none⟩ = some (.int .u8 (c.getD (4 * k + 3) 0 : Nat)) := by rw [cell_of_row _ _ _ cs 89 (0, 0) hr0]; exact HX.out _ (by omega)
        have b0 := HB.out (4 * k) (by omega)
        have b1 := HB.out (4 * k + 1) (by omega)
        have b2 := HB.out (4 * k + 2) (by omega)
        have b3 := HB.out (4 * k + 3) (by omega)
        have HWA : Hid (wordAt c (sched c k) k = ((c.getD (4 * k) 0 * 16777216 ||| c.getD (4 * k + 1) 0 * 65536) ||| c.getD (4 * k + 2) 0 * 256) ||| c.getD (4 * k + 3) 0) := by
          show _ = _; rw [wordAt, if_pos h16]
        generalize c.getD (4 * k) 0 = x0 at *
        generalize c.getD (4 * k + 1) 0 = x1 at *
        generalize c.getD (4 * k + 2) 0 = x2 at *
        generalize c.getD (4 * k + 3) 0 = x3 at *
        obtain ⟨i0, e0⟩ : ∃ i, 4 * k = i := ⟨_, rfl⟩
        obtain ⟨i1, e1⟩ : ∃ i, 4 * k + 1 = i := ⟨_, rfl⟩
        obtain ⟨i2, e2⟩ : ∃ i, 4 * k + 2 = i := ⟨_, rfl⟩
        obtain ⟨i3, e3⟩ : ∃ i, 4 * k + 3 = i := ⟨_, rfl⟩
        rw [e0] at c0
        rw [e1] at c1
        rw [e2] at c2
        rw [e3] at c3
        have m0 : IntKind.i64.wrap (4 * (k : Int)) = (i0 : Int) := by rw [wrap_i64 (by omega) (by omega)]; omega
        have m1 : IntKind.i64.wrap ((i0 : Int) + 1) = (i1 : Int) := by rw [wrap_i64 (by omega) (by omega)]; omega
        have m2 : IntKind.i64.wrap ((i0 : Int) + 2) = (i2 : Int) := by rw [wrap_i64 (by omega) (by omega)]; omega
        have m3 : IntKind.i64.wrap ((i0 : Int) + 3) = (i3 : Int) := by rw [wrap_i64 (by omega) (by omega)]; omega
        have l0 : (i0 : Int) < 64 := by omega
        have l1 : (i1 : Int) < 64 := by omega
        have l2 : (i2 : Int) < 64 := by omega
        have l3 : (i3 : Int) < 64 := by omega
        have lk : (k : Int) < 64 := by omega
        obtain ⟨y0, ey0⟩ : ∃ y, x0 * 16777216 = y := ⟨_, rfl⟩
        obtain ⟨y1, ey1⟩ : ∃ y, x1 * 65536 = y := ⟨_, rfl⟩
        obtain ⟨y2, ey2⟩ : ∃ y, x2 * 256 = y := ⟨_, rfl⟩
        have q0 : IntKind.u32.wrap ((x0 : Int) * 16777216) = (y0 : Int) := by rw [IntKind.wrap_u32']; omega
        have q1 : IntKind.u32.wrap ((x1 : Int) * 65536) = (y1 : Int) := by rw [IntKind.wrap_u32']; omega
        have q2 : IntKind.u32.wrap ((x2 : Int) * 256) = (y2 : Int) := by rw [IntKind.wrap_u32']; omega
        have q3 : IntKind.u32.wrap (x0 : Int) = (x0 : Int) := by rw [IntKind.wrap_u32']; omega
        have q4 : IntKind.u32.wrap (x1 : Int) = (x1 : Int) := by rw [IntKind.wrap_u32']; omega
        have q5 : IntKind.u32.wrap (x2 : Int) = (x2 : Int) := by rw [IntKind.wrap_u32']; omega
        have q6 : IntKind.u32.wrap (x3 : Int) = (x3 : Int) := by rw [IntKind.wrap_u32']; omega
        rw [ey0, ey1, ey2] at HWA
        have o1 := or_u32 (show y0 < 4294967296 by omega) (show y1 < 4294967296 by omega)
        have ol1 : y0 ||| y1 < 4294967296 := Nat.or_lt_two_pow (n := 32) (by omega) (by omega)
        have o2 := or_u32 ol1 (show y2 < 4294967296 by omega)
        have ol2 : (y0 ||| y1) ||| y2 < 4294967296 := Nat.or_lt_two_pow (n := 32) ol1 (by omega)
        have o3 := or_u32 ol2 (show x3 < 4294967296 by omega)
        generalize y0 ||| y1 = z1 at *
        generalize z1 ||| y2 = z2 at *
        generalize z2 ||| x3 = z3 at *
        clear e0 e1 e2 e3 ey0 ey1 ey2 b0 b1 b2 b3 ol1 ol2
        have HR0 := hide hr0
        have HR1 := hide hr1
        have HR2 := hide hr2
        have HY1 := hide hy1
        have HY2 := hide hy2
        have HBL := hide hbel
        clear hr0 hr1 hr2 hy1 hy2 hbel hv0
        go_wp2
        refine wp_still_tail 31 (by kernel_rfl) (by kernel_rfl) ?_
        simp only [List.take_succ_cons, List.take_zero, List.drop_succ_cons, List.drop_zero]
        repeat still_step
        refine wpStill_nil ?_
        go_wp2
        go_roundw
        case rel => exact ⟨k + 1, by omega, by go_num, round_row HR0.out HR1.out HBL.out HY1.out HY2.out HR2.out hlt HWA.out⟩
        case measure => simp [intOf]; omega
      · have hl := sched_len c k
        have hcell : ∀ j, j < k → wr.cell? ⟨w.heap.size + 1 + 1, j, none⟩ = some (.int .u32 ((sched c k).getD j 0 : Nat)) := by
          intro j hj
          rw [cell_of_row _ _ j ys 102 (0, 0) hr2, ← map_wordV_getD (by omega), ← hy2, List.getElem?_take, if_pos hj, Array.getElem?_toList]
        have hlt2 : ∀ j, j < k → (sched c k).getD j 0 < 4294967296 := fun j hj => HW.out k _ (mem_getD (by omega))
        have c0 := hcell (k - 2) (by omega)
        have c1 := hcell (k - 7) (by omega)
        have c2 := hcell (k - 15) (by omega)
        have c3 := hcell (k - 16) (by omega)
        have b0 := hlt2 (k - 2) (by omega)
        have b1 := hlt2 (k - 7) (by omega)
        have b2 := hlt2 (k - 15) (by omega)
        have b3 := hlt2 (k - 16) (by omega)
        have HWA : Hid (wordAt c (sched c k) k = (sSig1 ((sched c k).getD (k - 2) 0) + (sched c k).getD (k - 7) 0 + sSig0 ((sched c k).getD (k - 15) 0) + (sched c k).getD (k - 16) 0) % 4294967296) := by
          show _ = _; rw [wordAt, if_neg h16]
        clear hcell hlt2
        generalize (sched c k).getD (k - 2) 0 = x0 at *
        generalize (sched c k).getD (k - 7) 0 = x1 at *
        generalize (sched c k).getD (k - 15) 0 = x2 at *
        generalize (sched c k).getD (k - 16) 0 = x3 at *
        obtain ⟨i0, e0⟩ : ∃ i, k - 2 = i := ⟨_, rfl⟩
        obtain ⟨i1, e1⟩ : ∃ i, k - 7 = i := ⟨_, rfl⟩
        obtain ⟨i2, e2⟩ : ∃ i, k - 15 = i := ⟨_, rfl⟩
        obtain ⟨i3, e3⟩ : ∃ i, k - 16 = i := ⟨_, rfl⟩
        rw [e0] at c0
        rw [e1] at c1
        rw [e2] at c2
        rw [e3] at c3
        have m0 : IntKind.i64.wrap ((k : Int) - 2) = (i0 : Int) := by rw [wrap_i64 (by omega) (by omega)]; omega
        have m1 : IntKind.i64.wrap ((k : Int) - 7) = (i1 : Int) := by rw [wrap_i64 (by omega) (by omega)]; omega
        have m2 : IntKind.i64.wrap ((k : Int) - 15) = (i2 : Int) := by rw [wrap_i64 (by omega) (by omega)]; omega
        have m3 : IntKind.i64.wrap ((k : Int) - 16) = (i3 : Int) := by rw [wrap_i64 (by omega) (by omega)]; omega
        have l0 : (i0 : Int) < 64 := by omega
        have l1 : (i1 : Int) < 64 := by omega
        have l2 : (i2 : Int) < 64 := by omega
        have l3 : (i3 : Int) < 64 := by omega
        have lk : (k : Int) < 64 := by omega
        have s1 := sSig1_lt b0
        have s0 := sSig0_lt b2
        have H1 := hide (fun wx => sSig1_any x0 b0 wx)
        have H0 := hide (fun wx => sSig0_any x2 b2 wx)
        generalize sSig1 x0 = y0 at *
        generalize sSig0 x2 = y2 at *
        obtain ⟨z1, ez1⟩ : ∃ z, (y0 + x1) % 4294967296 = z := ⟨_, rfl⟩
        obtain ⟨z2, ez2⟩ : ∃ z, (z1 + y2) % 4294967296 = z := ⟨_, rfl⟩
        obtain ⟨z3, ez3⟩ : ∃ z, (z2 + x3) % 4294967296 = z := ⟨_, rfl⟩
        have HWB : Hid (wordAt c (sched c k) k = z3) := by show _ = _; rw [HWA.out]; omega
        have a1 : IntKind.u32.wrap ((y0 : Int) + (x1 : Int)) = (z1 : Int) := by rw [IntKind.wrap_u32']; omega
        have a2 : IntKind.u32.wrap ((z1 : Int) + (y2 : Int)) = (z2 : Int) := by rw [IntKind.wrap_u32']; omega
        have a3 : IntKind.u32.wrap ((z2 : Int) + (x3 : Int)) = (z3 : Int) := by rw [IntKind.wrap_u32']; omega
        have HR0 := hide hr0
        have HR1 := hide hr1
        have HR2 := hide hr2
        have HY1 := hide hy1
        have HY2 := hide hy2
        have HBL := hide hbel
        clear hr0 hr1 hr2 hy1 hy2 hbel hv0 e0 e1 e2 e3 ez1 ez2 ez3 HWA hl s1 s0 b0 b1 b2 b3
        go_wp2
        refine wp_still_tail 23 (by kernel_rfl) (by kernel_rfl) ?_
        simp only [List.take_succ_cons, List.take_zero, List.drop_succ_cons, List.drop_zero]
        repeat (first | still_step | still_call (H1.out _) | still_call (H0.out _))
        refine wpStill_nil ?_
        go_wp2
        go_roundw
        case rel => exact ⟨k + 1, by omega, by go_num, round_row HR0.out HR1.out HBL.out HY1.out HY2.out HR2.out hlt HWB.out⟩
        case measure => simp [intOf]; omega
    · have hk64 : k = 64 := by omega
      subst hk64
      have hys : ys = ((sched c 64).map wordV).toArray := by
        rw [List.take_of_length_le (by simp [hy1])] at hy2
        rw [← hy2]
      have hone : ys.all (·.oneCell') = true := by rw [hys]; exact wordV_one _
      have hsz : (Tryd.prog.info? 102).map (·.size) = some ys.size := by rw [hy1]; exact Tryd.sizeW
      have hzs : zeroW.size = ys.size := by rw [hy1]; rfl
      have HE : Hid (Ending.returned (.agg ys) = .returned (.agg ((sched c 64).map wordV).toArray)) := by show _ = _; rw [hys]
      have HR1 := hide hr1
      have HR2 := hide hr2
      have HBL := hide hbel
      have HRS := hide (setRow_heap wr (w.heap.size + 1) zeroW ys 102 (0, 0) hr1)
      clear hr0 hr1 hr2 hy1 hy2 hbel hys
      go_wp2_with (first
        | refine wpList_load_row rfl 102 (.tmp 3) rfl (w.heap.size + 1 + 1) rfl 102 ys (0, 0) _ HR2.out Tryd.underlying102 rfl hsz ?_
        | refine wpList_store_row rfl 102 _ _ rfl (w.heap.size + 1) ys rfl rfl 102 zeroW HR1.out hsz hzs hone ?_)
      exact bodyPost_ret (v := .agg ys) (results_cell_row rfl _ _ (w.heap.size + 1) 102 ys (0, 0) _ rfl HRS.out Tryd.underlying102 rfl hsz) rfl ⟨HE.out, below_setRow HBL.out (by omega) _⟩
end Go.Proofs.YtepgiomgkgfioaaDoor
