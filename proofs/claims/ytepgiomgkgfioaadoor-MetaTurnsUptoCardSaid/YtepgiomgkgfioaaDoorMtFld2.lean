import Derived.Test.YtepgiomgkgfioaaDoorMtFld
namespace Go.Proofs.YtepgiomgkgfioaaDoor
open Go.RowKit Go.Lib
set_option linter.unusedVariables false
set_option linter.unusedSimpArgs false
set_option maxRecDepth 20000

/-- what the bytes behind the letters say -/
def decF (l : List Nat) : Sup := ⟨bval (l.take 8), (bval ((l.drop 8).take 4) : Nat), (bval ((l.drop 12).take 4) : Nat), (bval ((l.drop 16).take 4) : Nat), bval ((l.drop 24).take 8), bval ((l.drop 32).take 8), bval ((l.drop 40).take 8), bval ((l.drop 48).take 8), bval ((l.drop 56).take 4), (bval ((l.drop 20).take 4) : Nat)⟩
def zSup : Array Value := #[.int .u64 0, .int .i64 0, .int .i64 0, .int .i64 0, .int .u64 0, .int .u64 0, .int .u64 0, .int .u64 0, .int .u32 0, .int .i64 0]
/-- the walk of fields -/
structure FR (w wr : World) (rb b off cap : Nat) (l : List Nat) (cs : Array Value) : Prop where
  cur : Cur wr rb b off cap l
  but : But rb w wr
  rs : wr.heap[w.heap.size]? = some (.cells zSup 27 (0, 0))
  sr : wr.heap[w.heap.size + 1]? = some (.cells cs 27 (0, 0))
  l1 : rb < w.heap.size
  l2 : b < w.heap.size
theorem FR.start {w : World} {rb b off cap : Nat} {l : List Nat} (h : Cur w rb b off cap l) (hl : 0 < l.length) : FR w ((w.alloc (.cells zSup 27)).alloc (.cells zSup 27)) rb b off cap l zSup :=
  ⟨h.below ((below_alloc w _).alloc (by simp) _), But.of ((below_alloc w _).alloc (by simp) _), heap_two' _ _ _, heap_alloc2_new _ _ _, h.lt, h.lt' hl⟩
theorem FR.size {w wr : World} {rb b off cap : Nat} {l : List Nat} {cs : Array Value} (h : FR w wr rb b off cap l cs) : w.heap.size + 1 < wr.heap.size := (Array.getElem?_eq_some_iff.1 h.sr).1
theorem FR.call {w wr w2 : World} {rb b off cap off2 cap2 : Nat} {l l2 : List Nat} {cs : Array Value} (h : FR w wr rb b off cap l cs) (hb : But rb wr w2) (hc : Cur w2 rb b off2 cap2 l2) : FR w w2 rb b off2 cap2 l2 cs := by
  have h1 := h.l1
  have h2 := h.size
  exact ⟨hc, h.but.trans hb, (hb.block _ (by omega) (by omega)).trans h.rs, (hb.block _ h2 (by omega)).trans h.sr, h1, h.l2⟩
theorem FR.set {w wr : World} {rb b off cap : Nat} {l : List Nat} {cs : Array Value} (h : FR w wr rb b off cap l cs) (j : Nat) (v : Value) : FR w (wr.setCell ⟨w.heap.size + 1, j, none⟩ v) rb b off cap l (cs.setIfInBounds j v) := by
  have hb : Below (w.heap.size + 1) wr (wr.setCell ⟨w.heap.size + 1, j, none⟩ v) := (Below.refl _ _).setCell (p := ⟨w.heap.size + 1, j, none⟩) (Nat.le_refl _) v
  exact ⟨h.cur.new hb (by have := h.l1; omega) (by have := h.l2; omega), h.but.new (hb.mono (by omega)), (hb.block _ (by omega)).trans h.rs, Go.heap_setCell_same wr _ j _ 27 _ h.sr, h.l1, h.l2⟩
theorem FR.drew {w wr : World} {rb b off cap : Nat} {l : List Nat} {cs : Array Value} (h : FR w wr rb b off cap l cs) : FR w wr.drew rb b off cap l cs :=
  ⟨h.cur.below (Below.refl _ _).drew, h.but.drew, h.rs, h.sr, h.l1, h.l2⟩
theorem FR.below {w wr w2 : World} {rb b off cap : Nat} {l : List Nat} {cs : Array Value} (h : FR w wr rb b off cap l cs) (hb : Below wr.heap.size wr w2) : FR w w2 rb b off cap l cs := h.call (But.of hb) (h.cur.below hb)
theorem decF_wf {l : List Nat} (hb : ∀ x ∈ l, x < 256) (hl : 60 ≤ l.length) : (decF l).Wf := by
  have h8 : ∀ k, k + 8 ≤ l.length → bval ((l.drop k).take 8) < 18446744073709551616 := fun k hk => by
    have := bval_lt 8 ((l.drop k).take 8) (by simp; omega) fun x hx => hb x (List.mem_of_mem_drop (List.mem_of_mem_take hx))
    simpa using this
  have h4 : ∀ k, k + 4 ≤ l.length → bval ((l.drop k).take 4) < 4294967296 := fun k hk => by
    have := bval_lt 4 ((l.drop k).take 4) (by simp; omega) fun x hx => hb x (List.mem_of_mem_drop (List.mem_of_mem_take hx))
    simpa using this
  have a0 := h8 0 (by omega)
  have a1 := h8 24 (by omega)
  have a2 := h8 32 (by omega)
  have a3 := h8 40 (by omega)
  have a4 := h8 48 (by omega)
  have b0 := h4 8 (by omega)
  have b1 := h4 12 (by omega)
  have b2 := h4 16 (by omega)
  have b3 := h4 20 (by omega)
  have b4 := h4 56 (by omega)
  rw [List.drop_zero] at a0
  unfold Sup.Wf decF
  dsimp only
  omega
set_option maxHeartbeats 2000000 in
theorem fields_yes (w : World) (rb b off cap : Nat) (l : List Nat) (h : Cur w rb b off cap l) (hl : 60 < l.length) (hok : (decF l).ok = true) : Calls Tryd.prog 44 #[.pointer (some ⟨rb, 0, none⟩)] w fun e w' => e = .returned (decF l).val ∧ CurPost w rb b (off + 60) (cap - 60) (l.drop 60) w' := by
  have HSZ : Hid ((Tryd.prog.info? 27).map (·.size) = some (decF l).row.size) := hide (by kernel_rfl)
  have HON : Hid ((decF l).row.all (·.oneCell') = true) := hide (by simp [decF, Sup.row, Value.oneCell'])
  have HF := hide (FR.start h (by omega))
  unfold zSup at HF
  have HWF := hide (decF_wf h.bytes (show 60 ≤ l.length by omega))
  have hf4 : bval ((l.drop 56).take 4) < 4294967296 := HWF.out.2.2.2.2.2.1
  have hrb := h.lt
  clear h
  go_enter Tryd.func44, Tryd.ntmps44
  go_wp2_with (go_at_call 52; refine (long_any _ rb b _ _ _ HF.out.cur (by omega)).mono ?_; rintro e w2 ⟨rfl, hc, hb⟩; have HF2 := hide (HF.out.call hb hc); clear HF hc hb; have k0 : w2.cell? ⟨w.heap.size + 1, 0, none⟩ = some (.int .u64 0) := cell_of_row _ _ _ _ _ _ HF2.out.sr; have y0 := frozen_of_row _ _ 0 _ 27 HF2.out.sr)
  have HF3 := hide (HF2.out.set 0 (.int .u64 (bval (l.take 8) : Nat))).drew
  generalize hw3 : w2.setCell ⟨w.heap.size + 1, 0, none⟩ (.int .u64 (bval (l.take 8) : Nat)) = w3 at *
  clear HF2 k0 y0 hw3
  go_region_with (go_at_call 53; refine (short_any _ rb b _ _ _ HF3.out.cur (by (try simp only [List.length_drop]); omega)).mono ?_; rintro e w4 ⟨rfl, hc, hb⟩; have HF4 := hide (HF3.out.call hb hc); clear HF3; have HF3 := hide HF4.out; clear HF4 hc hb; have k1 : w4.cell? ⟨w.heap.size + 1, 1, none⟩ = some (.int .i64 0) := cell_of_row _ _ _ _ _ _ HF3.out.sr; have y1 := frozen_of_row _ _ 1 _ 27 HF3.out.sr; have k2 : w4.cell? ⟨w.heap.size + 1, 2, none⟩ = some (.int .i64 0) := cell_of_row _ _ _ _ _ _ HF3.out.sr; have y2 := frozen_of_row _ _ 2 _ 27 HF3.out.sr; have k3 : w4.cell? ⟨w.heap.size + 1, 3, none⟩ = some (.int .i64 0) := cell_of_row _ _ _ _ _ _ HF3.out.sr; have y3 := frozen_of_row _ _ 3 _ 27 HF3.out.sr; have k9 : w4.cell? ⟨w.heap.size + 1, 9, none⟩ = some (.int .i64 0) := cell_of_row _ _ _ _ _ _ HF3.out.sr; have y9 := frozen_of_row _ _ 9 _ 27 HF3.out.sr)
  have HF5 := hide ((((HF3.out.set 1 (.int .i64 (bval ((l.drop 8).take 4) : Nat))).set 2 (.int .i64 (bval ((l.drop 12).take 4) : Nat))).set 3 (.int .i64 (bval ((l.drop 16).take 4) : Nat))).set 9 (.int .i64 (bval ((l.drop 20).take 4) : Nat)))
  generalize (((w4.setCell ⟨w.heap.size + 1, 1, none⟩ (.int .i64 (bval ((l.drop 8).take 4) : Nat))).setCell ⟨w.heap.size + 1, 2, none⟩ (.int .i64 (bval ((l.drop 12).take 4) : Nat))).setCell ⟨w.heap.size + 1, 3, none⟩ (.int .i64 (bval ((l.drop 16).take 4) : Nat))).setCell ⟨w.heap.size + 1, 9, none⟩ (.int .i64 (bval ((l.drop 20).take 4) : Nat)) = w5 at *
  simp only [List.drop_drop, Nat.reduceAdd] at HF5
  clear HF3 k1 k2 k3 k9 y1 y2 y3 y9
  go_wp2_with (first
    | (go_at_call 54; refine (gens_any _ rb b _ _ _ HF5.out.cur (by (try simp only [List.length_drop]); omega)).mono ?_; rintro e w6 ⟨rfl, hc, hb⟩; simp only [List.drop_drop, Nat.reduceAdd] at hc; have HF6 := hide (HF5.out.call hb hc); have HF7 := hide ((((HF6.out.set 4 (.int .u64 (bval ((l.drop 24).take 8) : Nat))).set 5 (.int .u64 (bval ((l.drop 32).take 8) : Nat))).set 6 (.int .u64 (bval ((l.drop 40).take 8) : Nat))).set 7 (.int .u64 (bval ((l.drop 48).take 8) : Nat))); clear HF5 hc hb; have k4 : w6.cell? ⟨w.heap.size + 1, 4, none⟩ = some (.int .u64 0) := cell_of_row _ _ _ _ _ _ HF6.out.sr; have y4 := frozen_of_row _ _ 4 _ 27 HF6.out.sr; have k5 : w6.cell? ⟨w.heap.size + 1, 5, none⟩ = some (.int .u64 0) := cell_of_row _ _ _ _ _ _ HF6.out.sr; have y5 := frozen_of_row _ _ 5 _ 27 HF6.out.sr; have k6 : w6.cell? ⟨w.heap.size + 1, 6, none⟩ = some (.int .u64 0) := cell_of_row _ _ _ _ _ _ HF6.out.sr; have y6 := frozen_of_row _ _ 6 _ 27 HF6.out.sr; have k7 : w6.cell? ⟨w.heap.size + 1, 7, none⟩ = some (.int .u64 0) := cell_of_row _ _ _ _ _ _ HF6.out.sr; have y7 := frozen_of_row _ _ 7 _ 27 HF6.out.sr))
  simp only [List.setIfInBounds_toArray, List.set_cons_zero, List.set_cons_succ] at HF7
  generalize (((w6.setCell ⟨w.heap.size + 1, 4, none⟩ (.int .u64 (bval ((l.drop 24).take 8) : Nat))).setCell ⟨w.heap.size + 1, 5, none⟩ (.int .u64 (bval ((l.drop 32).take 8) : Nat))).setCell ⟨w.heap.size + 1, 6, none⟩ (.int .u64 (bval ((l.drop 40).take 8) : Nat))).setCell ⟨w.heap.size + 1, 7, none⟩ (.int .u64 (bval ((l.drop 48).take 8) : Nat)) = w7 at *
  clear k4 k5 k6 k7 y4 y5 y6 y7
  refine (short_any _ rb b _ _ _ HF7.out.cur (by (try simp only [List.length_drop]); omega)).mono ?_
  rintro e w8 ⟨rfl, hc, hb⟩
  simp only [List.drop_drop, Nat.reduceAdd] at hc ⊢
  have HF8 := hide (HF7.out.call hb hc)
  have HF9 := hide (HF8.out.set 8 (.int .u32 (bval ((l.drop 56).take 4) : Nat)))
  simp only [List.setIfInBounds_toArray, List.set_cons_zero, List.set_cons_succ] at HF9
  have k8 : w8.cell? ⟨w.heap.size + 1, 8, none⟩ = some (.int .u32 0) := cell_of_row _ _ _ _ _ _ HF8.out.sr
  have y8 := frozen_of_row _ _ 8 _ 27 HF8.out.sr
  clear HF7 hc hb HF8
  have HF9' : Hid (FR w (w8.setCell ⟨w.heap.size + 1, 8, none⟩ (.int .u32 (bval ((l.drop 56).take 4) : Nat))) rb b _ _ _ (decF l).row) := hide HF9.out
  clear HF9
  go_wp2_with (first
    | (refine wpList_load_row rfl 27 (.tmp 3) rfl (w.heap.size + 1) rfl 27 (decF l).row (0, 0) _ HF9'.out.sr Tryd.underlying27 rfl HSZ.out ?_)
    | (go_at_call 17; refine (validSuper_any _ (decF l) HWF.out).mono ?_; rintro e w10 ⟨rfl, hb10⟩; have HFA := hide (HF9'.out.below hb10); clear hb10 HF9' k8 y8; rw [hok])
    | (go_at_call 43; refine (demand_yes _ _).mono ?_; rintro e w11 ⟨rfl, rfl⟩)
    | (refine wpList_load_row rfl 27 (.tmp 3) rfl (w.heap.size + 1) rfl 27 (decF l).row (0, 0) _ HFA.out.sr Tryd.underlying27 rfl HSZ.out ?_)
    | (refine wpList_store_row rfl 27 _ _ rfl w.heap.size (decF l).row (by first | rfl | simp [Act.eval, Act.put]) (by first | rfl | simp [Act.eval, Act.put]) 27 zSup HFA.out.rs HSZ.out rfl HON.out ?_))
  have HBn : Hid (Below w.heap.size w11 (w11.setRow w.heap.size (decF l).row)) := hide ⟨rfl, rfl, rfl, by simp, fun k hk => setRow_other _ _ _ _ (by omega)⟩
  refine bodyPost_ret (results_cell_row rfl _ _ w.heap.size 27 _ (0, 0) _ rfl (setRow_heap w11 w.heap.size zSup (decF l).row 27 (0, 0) HFA.out.rs) Tryd.underlying27 rfl HSZ.out) rfl ⟨rfl, ?_, HFA.out.but.new HBn.out⟩
  have hx := HFA.out.cur.new HBn.out HFA.out.l1 HFA.out.l2
  simp only [List.drop_drop, Nat.add_assoc, Nat.sub_sub, Nat.reduceAdd] at hx
  exact hx
end Go.Proofs.YtepgiomgkgfioaaDoor
