import Derived.Test.YtepgiomgkgfioaaDoorMtFld2
namespace Go.Proofs.YtepgiomgkgfioaaDoor
open Go.RowKit Go.Lib
set_option linter.unusedVariables false
set_option linter.unusedSimpArgs false
set_option maxRecDepth 20000

set_option maxHeartbeats 2000000 in
theorem fields_no (w : World) (rb b off cap : Nat) (l : List Nat) (h : Cur w rb b off cap l) (hl : 60 < l.length) (hok : (decF l).ok = false) : Calls Tryd.prog 44 #[.pointer (some ⟨rb, 0, none⟩)] w fun e w' => e = .panicked (fault 53) ∧ CurPost w rb b (off + 60) (cap - 60) (l.drop 60) w' := by
  have HSZ : Hid ((Tryd.prog.info? 27).map (·.size) = some (decF l).row.size) := hide (by kernel_rfl)
  have HON : Hid ((decF l).row.all (·.oneCell') = true) := hide (by simp [decF, Sup.row, Value.oneCell'])
  unfold fault
  have HF := hide (FR.start h (by omega))
  unfold zSup at HF
  have HWF := hide (decF_wf h.bytes (show 60 ≤ l.length by omega))
  have hf4 : bval ((l.drop 56).take 4) < 4294967296 := HWF.out.2.2.2.2.2.1
  have hrb := h.lt
  clear h
  go_enter Tryd.func44, Tryd.ntmps44
  go_wp2_with (go_at_call 52; refine (long_any _ rb b _ _ _ HF.out.cur (by omega)).mono ?_; rintro e w2 ⟨rfl, hc, hb⟩; have HF2 := hide (HF.out.call hb hc); clear HF hc hb; have k0 : w2.cell? ⟨w.heap.size + 1, 0, none⟩ = some (.int .u64 0) := cell_of_row _ _ _ _ _ _ HF2.out.sr; have y0 := frozen_of_row _ _ 0 _ 27 HF2.out.sr)
  have HF3 := hide (HF2.out.set 0 (.int .u64 (bval (l.take 8) : Nat))).drew
  generalize hw3 : w2.setCell ⟨w.heap.size + 1, 0, none⟩ (.int .u64 (bval (l.take 8) : Nat)) = w3 at *
  clear HF2 k0 y0 hw3
  go_region_with (go_at_call 53; refine (short_any _ rb b _ _ _ HF3.out.cur (by (try simp only [List.length_drop]); omega)).mono ?_; rintro e w4 ⟨rfl, hc, hb⟩; have HF4 := hide (HF3.out.call hb hc); clear HF3; have HF3 := hide HF4.out; clear HF4 hc hb; have k1 : w4.cell? ⟨w.heap.size + 1, 1, none⟩ = some (.int .i64 0) := cell_of_row _ _ _ _ _ _ HF3.out.sr; have y1 := frozen_of_row _ _ 1 _ 27 HF3.out.sr; have k2 : w4.cell? ⟨w.heap.size + 1, 2, none⟩ = some (.int .i64 0) := cell_of_row _ _ _ _ _ _ HF3.out.sr; have y2 := frozen_of_row _ _ 2 _ 27 HF3.out.sr; have k3 : w4.cell? ⟨w.heap.size + 1, 3, none⟩ = some (.int .i64 0) := cell_of_row _ _ _ _ _ _ HF3.out.sr; have y3 := frozen_of_row _ _ 3 _ 27 HF3.out.sr; have k9 : w4.cell? ⟨w.heap.size + 1, 9, none⟩ = some (.int .i64 0) := cell_of_row _ _ _ _ _ _ HF3.out.sr; have y9 := frozen_of_row _ _ 9 _ 27 HF3.out.sr)
  have HF5 := hide ((((HF3.out.set 1 (.int .i64 (bval ((l.drop 8).take 4) : Nat))).set 2 (.int .i64 (bval ((l.drop 12).take 4) : Nat))).set 3 (.int .i64 (bval ((l.drop 16).take 4) : Nat))).set 9 (.int .i64 (bval ((l.drop 20).take 4) : Nat)))
  generalize (((w4.setCell ⟨w.heap.size + 1, 1, none⟩ (.int .i64 (bval ((l.drop 8).take 4) : Nat))).setCell ⟨w.heap.size + 1, 2, none⟩ (.int .i64 (bval ((l.drop 12).take 4) : Nat))).setCell ⟨w.heap.size + 1, 3, none⟩ (.int .i64 (bval ((l.drop 16).take 4) : Nat))).setCell ⟨w.heap.size + 1, 9, none⟩ (.int .i64 (bval ((l.drop 20).take 4) : Nat)) = w5 at *
  simp only [List.drop_drop, Nat.reduceAdd] at HF5
  clear HF3 k1 k2 k3 k9 y1 y2 y3 y9
  go_wp2_with (first
    | (go_at_call 54; refine (gens_any _ rb b _ _ _ HF5.out.cur (by (try simp only [List.length_drop]); omega)).mono ?_; rintro e w6 ⟨rfl, hc, hb⟩; simp only [List.drop_drop, Nat.reduceAdd] at hc; have HF6 := hide (HF5.out.call hb hc); have HF7 := hide ((((HF6.out.set 4 (.int .u64 (bval ((l.drop 24).take 8) : Nat))).set 5 (.int .u64 (bval ((l.drop 32).take 8) : Nat))).set 6 (.int .u64 (bval ((l.drop 40).take 8) : Nat))).set 7 (.int .u64 (bval ((l.drop 48).take 8) : Nat))); clear HF5 hc hb; have k4 : w6.cell? ⟨w.heap.size + 1, 4, none⟩ = some (.int .u64 0) := cell_of_row _ _ _ _ _ _ HF6.out.sr; have y4 := frozen_of_row _ _ 4 _ 27 HF6.out.sr; have k5 : w6.cell? ⟨w.heap.size + 1, 5, none⟩ = some (.int .u64 0) := cell_of_row _ _ _ _ _ _ HF6.out.sr; have y5 := frozen_of_row _ _ 5 _ 27 HF6.out.sr; have k6 : w6.cell? ⟨w.heap.size + 1, 6, none⟩ = some (.int .u64 0) := cell_of_row _ _ _ _ _ _ HF6.out.sr; have y6 := frozen_of_row _ _ 6 _ 27 HF6.out.sr; have k7 : w6.cell? ⟨w.heap.size + 1, 7, none⟩ = some (.int .u64 0) := cell_of_row _ _ _ _ _ _ HF6.out.sr; have y7 := frozen_of_row _ _ 7 _ 27 HF6.out.sr))
  simp only [List.setIfInBounds_toArray, List.set_cons_zero, List.set_cons_succ] at HF7
  generalize (((w6.setCell ⟨w.heap.size + 1, 4, none⟩ (.int .u64 (bval ((l.drop 24).take 8) : Nat))).setCell ⟨w.heap.size + 1, 5, none⟩ (.int .u64 (bval ((l.drop 32).take 8) : Nat))).setCell ⟨w.heap.size + 1, 6, none⟩ (.int .u64 (bval ((l.drop 40).take 8) : Nat))).setCell ⟨w.heap.size + 1, 7, none⟩ (.int .u64 (bval ((l.drop 48).take 8) : Nat)) = w7 at *
  clear k4 k5 k6 k7 y4 y5 y6 y7
  refine (short_any _ rb b _ _ _ HF7.out.cur (by (try simp only [List.length_drop]); omega)).mono ?_
  rintro e w8 ⟨rfl, hc, hb⟩
  simp only [List.drop_drop, Nat.reduceAdd] at hc ⊢
  have HF8 := hide (HF7.out.call hb hc)
  have HF9 := hide (HF8.out.set 8 (.int .u32 (bval ((l.drop 56).take 4) : Nat)))
  simp only [List.setIfInBounds_toArray, List.set_cons_zero, List.set_cons_succ] at HF9
  have k8 : w8.cell? ⟨w.heap.size + 1, 8, none⟩ = some (.int .u32 0) := cell_of_row _ _ _ _ _ _ HF8.out.sr
  have y8 := frozen_of_row _ _ 8 _ 27 HF8.out.sr
  clear HF7 hc hb HF8
  have HF9' : Hid (FR w (w8.setCell ⟨w.heap.size + 1, 8, none⟩ (.int .u32 (bval ((l.drop 56).take 4) : Nat))) rb b _ _ _ (decF l).row) := hide HF9.out
  clear HF9
  go_wp2_with (first
    | (refine wpList_load_row rfl 27 (.tmp 3) rfl (w.heap.size + 1) rfl 27 (decF l).row (0, 0) _ HF9'.out.sr Tryd.underlying27 rfl HSZ.out ?_)
    | (go_at_call 17; refine (validSuper_any _ (decF l) HWF.out).mono ?_; rintro e w10 ⟨rfl, hb10⟩; have HFA := hide (HF9'.out.below hb10); clear hb10 HF9' k8 y8; rw [hok])
    | (go_at_call 43; refine (demand_no _ _).mono ?_; unfold fault; rintro e w11 ⟨rfl, rfl⟩)
    | (refine wpList_load_row rfl 27 (.tmp 3) rfl (w.heap.size + 1) rfl 27 (decF l).row (0, 0) _ HFA.out.sr Tryd.underlying27 rfl HSZ.out ?_)
    | (refine wpList_store_row rfl 27 _ _ rfl w.heap.size (decF l).row (by first | rfl | simp [Act.eval, Act.put]) (by first | rfl | simp [Act.eval, Act.put]) 27 zSup HFA.out.rs HSZ.out rfl HON.out ?_))
  have hx := HFA.out.cur
  simp only [List.drop_drop, Nat.add_assoc, Nat.sub_sub, Nat.reduceAdd] at hx
  exact ⟨rfl, rfl, hx, HFA.out.but⟩
end Go.Proofs.YtepgiomgkgfioaaDoor
