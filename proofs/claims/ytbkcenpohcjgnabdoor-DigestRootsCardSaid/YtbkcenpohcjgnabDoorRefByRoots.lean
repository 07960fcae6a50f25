import Derived.Test.YtbkcenpohcjgnabDoorRefPrimes
import Derived.Test.YtbkcenpohcjgnabDoorRefSum
namespace Go.Proofs.YtbkcenpohcjgnabDoor
open Go.RowKit
open Num
set_option linter.unusedVariables false
set_option linter.unusedSimpArgs false

theorem root_at {P K : List Nat} {f : Nat → Nat} {j : Nat} (h : P.map f = K) (hj : j < P.length) : f (P.getD j 0) = K.getD j 0 := by
  subst h; simp [List.getD, hj]
theorem root_at8 {P K : List Nat} {f : Nat → Nat} {j : Nat} (h : (P.take 8).map f = K) (hj : j < 8) (hl : 8 ≤ P.length) : f (P.getD j 0) = K.getD j 0 := by
  subst h
  have : j < P.length := by omega
  simp [List.getD, hj, this]
theorem root3_at {j : Nat} (h : j < 64) : rootN ((prL 312).getD j 0) 3 = Ks.getD j 0 := root_at (f := fun p => rootN p 3) roots3 (by rw [prL_len]; exact h)
theorem root2_at {j : Nat} (h : j < 8) : rootN ((prL 312).getD j 0) 2 = H0.getD j 0 := root_at8 (f := fun p => rootN p 2) roots2 h (by rw [prL_len]; decide)
/-- the two tables, the first j words laid -/
structure RInv (w1 wr : World) (j : Nat) (hs ks : Array Value) : Prop where
  ih : wr.heap[w1.heap.size]? = some (.cells hs 52 (0, 0))
  ik : wr.heap[w1.heap.size + 1]? = some (.cells ks 67 (0, 0))
  sh : hs.size = 8
  sk : ks.size = 64
  th : hs.toList.take (min j 8) = (H0.take (min j 8)).map wordV
  tk : ks.toList.take j = (Ks.take j).map wordV
  ib : Below w1.heap.size w1 wr
theorem RInv.below {w1 wr wy : World} {j : Nat} {hs ks : Array Value} (h : RInv w1 wr j hs ks) (hb : Below wr.heap.size wr wy) : RInv w1 wy j hs ks :=
  ⟨heap_kept hb h.ih, heap_kept hb h.ik, h.sh, h.sk, h.th, h.tk, h.ib.trans (hb.mono h.ib.size)⟩
theorem take_getD_snoc {l : List Nat} {j : Nat} (h : j < l.length) : l.take (j + 1) = l.take j ++ [l.getD j 0] := by
  rw [List.take_succ_eq_append_getElem h]; simp [List.getD, h]

set_option maxRecDepth 100000 in
set_option maxHeartbeats 4000000 in
theorem byRoots_any (v : Value) (l : List Nat) (w : World) (h : BSl w v l) (hr : l.length + 72 ≤ 140737488355328) :
    Calls Tryd.prog 29 #[v] w fun e w' => e = .returned (.agg ((shaL l).map byteV).toArray) ∧ Below w.heap.size w w' := by
  have HV := hide h
  clear h
  go_enter Tryd.func29, Tryd.ntmps29
  go_wp2_with (first
    | refine wpList_alloc_as rfl 29 rfl (.agg zero32) zero32 Tryd.zero32 rfl ?_)
  refine (primes_any _).mono ?_
  rintro e w1 ⟨vp, rfl, hdp, hb1⟩
  go_wp2_with (first
    | refine wpList_alloc_as rfl 52 rfl (.agg zero8w) zero8w Tryd.zero8w rfl ?_
    | refine wpList_alloc_as rfl 67 rfl (.agg zeroW) zeroW Tryd.zeroW rfl ?_)
  have HB1 := hide ((below_alloc w (.cells zero32 29)).trans (hb1.mono (by simp)))
  have HZ := hide (heap_kept hb1 (Go.heap_alloc_new w (.cells zero32 29)))
  have HIN : Hid (RInv w1 ((w1.alloc (.cells zero8w 52)).alloc (.cells zeroW 67)) 0 zero8w zeroW) :=
    ⟨heap_more _ (Go.heap_alloc_new _ _), heap_alloc2_new _ _ _, rfl, rfl, rfl, rfl, below_alloc2 _ _ _⟩
  generalize ((w1.alloc (.cells zero8w 52)).alloc (.cells zeroW 67)) = W at *
  have HDP := hide hdp
  have HPS := hide prL_small
  have HR3 : Hid (∀ j, j < 64 → rootN ((prL 312).getD j 0) 3 = Ks.getD j 0) := fun j h => root3_at h
  have HR2 : Hid (∀ j, j < 8 → rootN ((prL 312).getD j 0) 2 = H0.getD j 0) := fun j h => root2_at h
  have HPL := hide prL_len
  generalize prL 312 = P at *
  clear hb1
  obtain ⟨gp, cp, rfl, hp1, hp2, hp3, hp4⟩ := hdp
  have HPC := hide hp4
  clear hp4
  go_loopw [6] (fun iv wr => ∃ (j : Nat) (hs ks : Array Value), j ≤ 64 ∧ iv = .int .i64 j ∧ RInv w1 wr j hs ks) (fun iv _ => 64 - (intOf iv).toNat)
  case atStart => exact ⟨0, _, _, Nat.zero_le _, rfl, HIN.out⟩
  case round =>
    clear HIN
    obtain ⟨j, hs, ks, hj, rfl, hinv⟩ := hrel
    by_cases hlt : j < 64
    · have hpj := HPS.out _ (mem_getD (show j < P.length by have := HPL.out; omega))
      have hc : wr.cell? ⟨gp, j, none⟩ = some (.int .i64 (P.getD j 0 : Nat)) := by rw [hinv.ib.cell (p := ⟨gp, j, none⟩) hp3]; exact HPC.out j (by have := HPL.out; omega)
      have C3 := hide (root_any (P.getD j 0) 3 hpj (.inr rfl) wr)
      rw [HR3.out j hlt, show ((3 : Nat) : Int) = 3 from rfl] at C3
      have C2 : Hid (j < 8 → ∀ wx, Calls Tryd.prog 40 #[.int .i64 (P.getD j 0 : Nat), .int .i64 2] wx fun e w' => e = .returned (.int .u32 (H0.getD j 0 : Nat)) ∧ Below wx.heap.size wx w') := fun h8 wx => by
        have h := root_any (P.getD j 0) 2 hpj (.inl rfl) wx
        rw [HR2.out j h8, show ((2 : Nat) : Int) = 2 from rfl] at h
        exact h
      have hlI : (j : Int) < (P.length : Int) := by have := HPL.out; omega
      have hl64 : (j : Int) < 64 := by omega
      have HCB := hide hpj
      obtain ⟨x3, hx3⟩ : ∃ x, Ks.getD j 0 = x := ⟨_, rfl⟩
      rw [hx3] at C3
      have hKs : (ks.setIfInBounds j (.int .u32 (x3 : Int))).toList.take (j + 1) = (Ks.take (j + 1)).map wordV := by
        rw [take_succ_set (by rw [hinv.sk]; exact hlt) hinv.tk, take_getD_snoc (by rw [Ks_len]; exact hlt), List.map_append, hx3]; rfl
      have HKs := hide hKs
      have HINV := hide hinv
      have HPJ : Hid (∀ wx, Below w1.heap.size w1 wx → wx.cell? ⟨gp, j, none⟩ = some (.int .i64 (P.getD j 0 : Nat))) := fun wx hb => by rw [hb.cell (p := ⟨gp, j, none⟩) hp3]; exact HPC.out j (by have := HPL.out; omega)
      clear hKs hinv hx3 hpj HCB
      generalize P.getD j 0 = pj at *
      go_wp2_with fail
      refine C3.out.mono ?_
      rintro e wr1 ⟨rfl, hb2⟩
      have hinv1 := HINV.out.below hb2
      obtain ⟨v0, hst0⟩ := row_some (k := j) hinv1.ik (by rw [hinv1.sk]; exact hlt)
      have hfz0 : wr1.frozen? ⟨w1.heap.size + 1, j, none⟩ = false := frozen_of_row _ _ _ _ 67 hinv1.ik
      have hik : (wr1.setCell ⟨w1.heap.size + 1, j, none⟩ (.int .u32 (x3 : Int))).heap[w1.heap.size + 1]? = some (.cells (ks.setIfInBounds j (.int .u32 (x3 : Int))) 67 (0, 0)) := Go.heap_setCell_same wr1 _ j _ 67 _ hinv1.ik
      have hih : (wr1.setCell ⟨w1.heap.size + 1, j, none⟩ (.int .u32 (x3 : Int))).heap[w1.heap.size]? = some (.cells hs 52 (0, 0)) := by
        rw [Go.heap_setCell_other _ _ _ _ (by show w1.heap.size ≠ w1.heap.size + 1; omega)]; exact hinv1.ih
      have hib := hinv1.ib.setCell (p := ⟨w1.heap.size + 1, j, none⟩) (by show w1.heap.size ≤ w1.heap.size + 1; omega) (.int .u32 (x3 : Int))
      by_cases hlt8 : j < 8
      · have hl8 : (j : Int) < 8 := by omega
        have hc1 : (wr1.setCell ⟨w1.heap.size + 1, j, none⟩ (.int .u32 (x3 : Int))).cell? ⟨gp, j, none⟩ = some (.int .i64 (pj : Int)) := HPJ.out _ hib
        have C2' := hide (C2.out hlt8 (wr1.setCell ⟨w1.heap.size + 1, j, none⟩ (.int .u32 (x3 : Int))))
        obtain ⟨x2, hx2⟩ : ∃ x, H0.getD j 0 = x := ⟨_, rfl⟩
        rw [hx2] at C2'
        have hHs : (hs.setIfInBounds j (.int .u32 (x2 : Int))).toList.take (min (j + 1) 8) = (H0.take (min (j + 1) 8)).map wordV := by
          have ht := hinv1.th
          rw [show min j 8 = j by omega] at ht
          rw [show min (j + 1) 8 = j + 1 by omega, take_succ_set (by rw [hinv1.sh]; exact hlt8) ht, take_getD_snoc (by show j < 8; exact hlt8), List.map_append, hx2]; rfl
        have HMID : Hid (∀ wy, Below (wr1.setCell ⟨w1.heap.size + 1, j, none⟩ (.int .u32 (x3 : Int))).heap.size (wr1.setCell ⟨w1.heap.size + 1, j, none⟩ (.int .u32 (x3 : Int))) wy → RInv w1 (wy.setCell ⟨w1.heap.size, j, none⟩ (.int .u32 (x2 : Int))) (j + 1) (hs.setIfInBounds j (.int .u32 (x2 : Int))) (ks.setIfInBounds j (.int .u32 (x3 : Int)))) := by
          intro wy hb
          refine ⟨Go.heap_setCell_same wy _ j _ 52 _ (heap_kept hb hih), ?_, by rw [Array.size_setIfInBounds]; exact hinv1.sh, by rw [Array.size_setIfInBounds]; exact hinv1.sk, hHs, HKs.out, (hib.trans (hb.mono hib.size)).setCell (Nat.le_refl _) _⟩
          rw [Go.heap_setCell_other _ _ _ _ (by show w1.heap.size + 1 ≠ w1.heap.size; omega)]; exact heap_kept hb hik
        have HHR := hide hih
        have hsh := hinv1.sh
        have HSS := hide (fun wy (hb : Below (wr1.setCell ⟨w1.heap.size + 1, j, none⟩ (.int .u32 (x3 : Int))).heap.size (wr1.setCell ⟨w1.heap.size + 1, j, none⟩ (.int .u32 (x3 : Int))) wy) => heap_kept hb hih)
        clear hb2 hik hih hib hinv1 HKs HINV C3 hx2 hHs C2
        go_wp2_with fail
        refine C2'.out.mono ?_
        rintro e wr2 ⟨rfl, hb3⟩
        have hih2 := HSS.out _ hb3
        obtain ⟨v1, hst1⟩ := row_some (k := j) hih2 (by rw [hsh]; exact hlt8)
        have hfz1 : wr2.frozen? ⟨w1.heap.size, j, none⟩ = false := frozen_of_row _ _ _ _ 52 hih2
        have R := hide (HMID.out _ hb3)
        clear hb3 hih2 HMID HSS
        go_wp2
        go_roundw
        case rel => exact ⟨j + 1, _, _, by omega, by go_num, R.out⟩
        case measure => simp [intOf]; omega
      · have hl8 : ¬ (j : Int) < 8 := by omega
        have R : Hid (RInv w1 (wr1.setCell ⟨w1.heap.size + 1, j, none⟩ (.int .u32 (x3 : Int))) (j + 1) hs (ks.setIfInBounds j (.int .u32 (x3 : Int)))) :=
          ⟨hih, hik, hinv1.sh, by rw [Array.size_setIfInBounds]; exact hinv1.sk, by have := hinv1.th; rw [show min j 8 = 8 by omega] at this; rw [show min (j + 1) 8 = 8 by omega]; exact this, HKs.out, hib⟩
        clear hb2 hik hih hib hinv1 HKs HINV C3 C2
        go_wp2
        go_roundw
        case rel => exact ⟨j + 1, _, _, by omega, by go_num, R.out⟩
        case measure => simp [intOf]; omega
    · have hj64 : j = 64 := by omega
      subst hj64
      have hhs : hs = (H0.map wordV).toArray := by
        have h := hinv.th
        rw [show min 64 8 = 8 by decide, List.take_of_length_le (by rw [Array.length_toList, hinv.sh]; exact Nat.le_refl _), List.take_of_length_le (by decide)] at h
        rw [← h]
      have hks : ks = (Ks.map wordV).toArray := by
        have h := hinv.tk
        rw [List.take_of_length_le (by rw [Array.length_toList, hinv.sk]; exact Nat.le_refl _), List.take_of_length_le (by rw [Ks_len]; exact Nat.le_refl _)] at h
        rw [← h]
      have HSW := hide (sumWith_any v l wr ((HV.out.below HB1.out).below hinv.ib) hr)
      rw [← hhs, ← hks] at HSW
      have HRh := hide hinv.ih
      have HRk := hide hinv.ik
      have f1 : (Tryd.prog.info? 52).map (·.size) = some hs.size := by rw [hinv.sh]; exact Tryd.size8w
      have f2 : (Tryd.prog.info? 67).map (·.size) = some ks.size := by rw [hinv.sk]; exact Tryd.sizeW
      have HBL := hide (HB1.out.trans (hinv.ib.mono HB1.out.size))
      have HZ1 := hide (heap_kept hinv.ib HZ.out)
      obtain ⟨g1, g2, g3⟩ := sum_shape l
      clear hinv hhs hks hlt hj
      go_wp2_with (first
        | refine wpList_load_row rfl 52 (.tmp 4) rfl w1.heap.size rfl 52 hs (0, 0) _ HRh.out Tryd.underlying52 rfl f1 ?_
        | refine wpList_load_row rfl 67 (.tmp 5) rfl (w1.heap.size + 1) rfl 67 ks (0, 0) _ HRk.out Tryd.underlying67 rfl f2 ?_)
      refine HSW.out.mono ?_
      rintro e w3 ⟨rfl, hb3⟩
      have HZ3 := hide (heap_kept hb3 HZ1.out)
      have HB3 := hide (HBL.out.trans (hb3.mono HBL.out.size))
      have HRS := hide (setRow_heap w3 w.heap.size zero32 ((shaL l).map byteV).toArray 29 (0, 0) HZ3.out)
      obtain ⟨oa, hoa⟩ : ∃ oa, ((shaL l).map byteV).toArray = oa := ⟨_, rfl⟩
      rw [hoa] at g1 g2 g3 HRS ⊢
      have HOA := hide hoa
      clear hb3 hoa
      go_wp2_with (refine wpList_store_row rfl 29 (.tmp 2) _ rfl w.heap.size oa rfl rfl 29 zero32 HZ3.out g1 g2 g3 ?_)
      exact bodyPost_ret (v := .agg oa) (results_cell_row rfl _ _ w.heap.size 29 oa (0, 0) _ rfl HRS.out Tryd.underlying29 rfl g1) rfl ⟨by rw [HOA.out], below_setRow HB3.out (Nat.le_refl _) _⟩
end Go.Proofs.YtbkcenpohcjgnabDoor
