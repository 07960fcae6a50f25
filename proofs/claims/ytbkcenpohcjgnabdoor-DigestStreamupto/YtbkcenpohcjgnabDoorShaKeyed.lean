import Derived.Test.YtbkcenpohcjgnabDoorShaMac
namespace Go.Proofs.YtbkcenpohcjgnabDoor
open Go.RowKit
open Num
set_option linter.unusedVariables false
set_option linter.unusedSimpArgs false

/-- the first k bytes turned by the mask -/
def turned (l : List Nat) (m k : Nat) : List Nat := (l.take k).map (fun b => b ^^^ m) ++ l.drop k
theorem turned_len (l : List Nat) (m k : Nat) : (turned l m k).length = l.length := by simp [turned]; omega
theorem turned_set {l : List Nat} {m k : Nat} (h : k < l.length) : (turned l m k).set k (l.getD k 0 ^^^ m) = turned l m (k + 1) := by
  have h1 : ((l.take k).map (fun b => b ^^^ m)).length = k := by simp; omega
  rw [turned, turned, List.set_append_right _ _ (by omega), h1, Nat.sub_self, take_snoc l 0 k h, List.map_append, List.drop_eq_getElem_cons h, List.append_assoc]
  simp only [List.getD, List.getElem?_eq_getElem h, Option.getD_some, List.set_cons_zero, List.map_cons, List.map_nil, List.singleton_append]
theorem turned_get {l : List Nat} {m k : Nat} (h : k < l.length) : (turned l m k).getD k 0 = l.getD k 0 := by
  have h1 : ((l.take k).map (fun b => b ^^^ m)).length = k := by simp; omega
  simp only [turned, List.getD]
  rw [List.getElem?_append_right (by omega), h1, Nat.sub_self]
  simp
theorem turned_all (l : List Nat) (m : Nat) : turned l m l.length = l.map (fun b => b ^^^ m) := by simp [turned]
theorem turned_zero (l : List Nat) (m : Nat) : turned l m 0 = l := by simp [turned]
theorem xor_byte {a b : Nat} (h1 : a < 256) (h2 : b < 256) : a ^^^ b < 256 := Nat.xor_lt_two_pow (n := 8) h1 h2
def keyedL (blk : List Nat) (m : Nat) (msg : List Nat) : List Nat := shaL (blk.map (fun b => b ^^^ m) ++ msg)
def macL (key msg : List Nat) : List Nat := keyedL (keyL key) 92 (keyedL (keyL key) 54 msg)
theorem turned_row {l : List Nat} {m k : Nat} (h : k < l.length) : ((turned l m k).map byteV).toArray.setIfInBounds k (.int .u8 ((l.getD k 0 ^^^ m : Nat) : Int)) = ((turned l m (k + 1)).map byteV).toArray := by
  rw [← turned_set h, List.setIfInBounds_toArray, List.map_set]; rfl

/-- the memory of a call of keyed, in its loop -/
structure KRow (w wr : World) (X : List Nat) : Prop where
  a : wr.heap[w.heap.size]? = some (.cells (X.map byteV).toArray 55 (0, 0))
  b : wr.heap[w.heap.size + 1]? = some (.cells zero32 29 (0, 0))
  s : wr.heap.size = w.heap.size + 1 + 1
  l : Below w.heap.size w wr
theorem KRow.set {w wr : World} {X Y : List Nat} {k : Nat} {u : Value} (h : KRow w wr X) (hY : ((X.map byteV).toArray).setIfInBounds k u = (Y.map byteV).toArray) : KRow w (wr.setCell ⟨w.heap.size, k, none⟩ u) Y := by
  refine ⟨?_, ?_, ?_, ?_⟩
  · rw [Go.heap_setCell_same wr w.heap.size k _ _ _ h.a, hY]
  · rw [Go.heap_setCell_other wr _ _ u (show w.heap.size + 1 ≠ w.heap.size by omega)]; exact h.b
  · have := h.s; simp [World.setCell, this]
  · exact h.l.trans ((But.setCell w.heap.size k wr u).below (Nat.le_refl _) h.l.size)

set_option maxRecDepth 100000 in
set_option maxHeartbeats 400000 in
theorem keyed_any (blk : List Nat) (m : Nat) (v : Value) (l : List Nat) (w : World) (hk : blk.length = 64) (hkb : ∀ b ∈ blk, b < 256) (hm : m < 256) (hs : l.length < 4611686018427387000) (hT : Tabs w) (hv : BSl w v l) :
    Calls Tryd.prog 35 #[.agg (blk.map byteV).toArray, .int .u8 (m : Int), v] w fun e w' => e = .returned (.agg ((keyedL blk m l).map byteV).toArray) ∧ Below w.heap.size w w' := by
  have HB := hide hv.bytes
  have HV := hide hv
  have HT := hide hT
  have HKB := hide hkb
  have HKL := hide hk
  clear hv hT hkb
  have HX : Hid ((blk.map byteV).toArray = ((turned blk m 0).map byteV).toArray) := by show _ = _; rw [turned_zero]
  have hmI : (m : Int) < 256 := by omega
  rw [HX.out]
  have HK0 : Hid (KRow w ((w.alloc (.cells ((turned blk m 0).map byteV).toArray 55)).alloc (.cells zero32 29)) (turned blk m 0)) := ⟨heap_more _ (Go.heap_alloc_new w _), heap_alloc2_new w _ _, by simp, below_alloc2 w _ _⟩
  go_enter Tryd.func35, Tryd.ntmps35
  go_wp2_with (refine wpList_alloc_as rfl 29 rfl (.agg zero32) zero32 Tryd.zero32 rfl ?_)
  go_loopw [9] (fun i wr => ∃ k : Nat, k ≤ 64 ∧ i = .int .i64 k ∧ KRow w wr (turned blk m k)) (fun i _ => 64 - (intOf i).toNat)
  case atStart => exact ⟨0, Nat.zero_le _, rfl, HK0.out⟩
  case round =>
    obtain ⟨k, hk64, rfl, hrow⟩ := hrel
    by_cases hlt : k < 64
    · have hkl : k < blk.length := by omega
      have hcell : wr.cell? ⟨w.heap.size, k, none⟩ = some (.int .u8 ((blk.getD k 0 : Nat) : Int)) := by
        rw [cell_of_row _ _ _ _ _ _ hrow.a, List.getElem?_toArray, map_byteV_getD (by rw [turned_len]; omega), turned_get hkl]
      have hfr : wr.frozen? ⟨w.heap.size, k, none⟩ = false := frozen_of_row wr _ k _ _ hrow.a
      have HROW := hide hrow
      have HST := hide (turned_row (m := m) hkl)
      have hxb : blk.getD k 0 < 256 := HKB.out _ (mem_getD hkl)
      have hxor := u8_xor_nat (blk.getD k 0) m hxb hm
      generalize blk.getD k 0 = x at *
      generalize hz : x ^^^ m = z at *
      clear hrow HK0 hz
      go_wp2
      go_roundw
      case rel => exact ⟨k + 1, by omega, by go_num, HROW.out.set HST.out⟩
      case measure => simp [intOf]; omega
    · have hk' : k = 64 := by omega
      subst hk'
      have hta : turned blk m 64 = blk.map (fun b => b ^^^ m) := by rw [← turned_all, HKL.out]
      rw [hta] at hrow
      have HKD : Hid (keyedL blk m l = shaL (blk.map (fun b => b ^^^ m) ++ l)) := Eq.refl _
      have hbl : (blk.map (fun b => b ^^^ m)).length = 64 := by rw [List.length_map, HKL.out]
      have HBB : Hid (∀ b ∈ blk.map (fun b => b ^^^ m), b < 256) := by
        intro b hb
        obtain ⟨c, hc, rfl⟩ := List.mem_map.1 hb
        exact xor_byte (HKB.out c hc) hm
      generalize blk.map (fun b => b ^^^ m) = K at *
      have hws := hrow.s
      have HTR := hide (HT.out.below hrow.l)
      have HVR := hide (HV.out.below hrow.l)
      have HROW := hide hrow
      clear hrow HK0 hta hlt hk64
      obtain ⟨h1, h2, h3⟩ := sum_shape (K ++ l)
      have HSZ := hide h1
      have HZS := hide h2
      have HON := hide h3
      clear h1 h2 h3
      have hgk := HTR.out.ltK
      have hgh := HTR.out.ltH
      go_wp2_with fail
      refine (new_any _ HTR.out.h).mono ?_
      rintro e w1 ⟨rfl, rfl⟩
      have HT1 := hide (HTR.out.below (below_alloc wr (.cells (hcells st0 (List.replicate 64 0) 0).toArray 57)))
      have HR1 := hide (new_row wr)
      have HP1 := hide (arr_bne (gh := wr.heap.size) (cap := 64) (n := 64) (heap_more (.cells (hcells st0 (List.replicate 64 0) 0).toArray 57) HROW.out.a) HBB.out (by omega) (by omega) (by decide) (by omega))
      rw [List.take_of_length_le (by omega)] at HP1
      have HP2 : Hid (BNe wr.heap.size (wr.alloc (.cells (hcells st0 (List.replicate 64 0) 0).toArray 57)) v l) := (HVR.out.old (Nat.le_refl _)).but (But.of (below_alloc wr _))
      have HZ1 := hide (heap_more (.cells (hcells st0 (List.replicate 64 0) 0).toArray 57) HROW.out.b)
      have HB1 := hide (HROW.out.l.alloc HROW.out.l.size (.cells (hcells st0 (List.replicate 64 0) 0).toArray 57))
      generalize wr.alloc (.cells (hcells st0 (List.replicate 64 0) 0).toArray 57) = W at *
      clear HROW HTR HVR
      rw [hws] at HR1 HP1 HP2 hgk hgh
      go_wp2_with fail
      refine (write_any (w.heap.size + 1 + 1) _ [] K W (by simp) (by rw [List.length_nil, hbl]; omega) HP1.out HT1.out.k (by omega) HR1.out).mono ?_
      rintro e w2 ⟨rfl, hR, hbu⟩
      rw [List.nil_append, List.length_nil, Nat.zero_add] at hR
      have HR2 := hide hR
      have HT2 := hide (HT1.out.but hbu (by omega) (by omega))
      have HP3 := hide (HP2.out.but hbu)
      have HZ2 : Hid (w2.heap[w.heap.size + 1]? = some (.cells zero32 29 (0, 0))) := by
        show _ = _; rw [hbu.block _ (Array.getElem?_eq_some_iff.1 HZ1.out).1 (by omega)]; exact HZ1.out
      have HB2 := hide (HB1.out.trans (hbu.below (by omega) HB1.out.size))
      clear hR hbu HZ1 HB1 HP1 HP2 HT1 HR1
      go_wp2_with fail
      refine (write_any (w.heap.size + 1 + 1) _ K l w2 HBB.out (by omega) HP3.out HT2.out.k (by omega) HR2.out).mono ?_
      rintro e w3 ⟨rfl, hR, hbu⟩
      rw [show K.length + l.length = (K ++ l).length by rw [List.length_append]] at hR
      have HR3 := hide hR
      have HT3 := hide (HT2.out.but hbu (by omega) (by omega))
      have HZ3 : Hid (w3.heap[w.heap.size + 1]? = some (.cells zero32 29 (0, 0))) := by
        show _ = _; rw [hbu.block _ (Array.getElem?_eq_some_iff.1 HZ2.out).1 (by omega)]; exact HZ2.out
      have HB3 := hide (HB2.out.trans (hbu.below (by omega) HB2.out.size))
      have HQB : Hid (∀ b ∈ K ++ l, b < 256) := fun b hb => (List.mem_append.1 hb).elim (HBB.out b) (HB.out b)
      clear hR hbu HZ2 HB2 HP3 HT2 HR2
      go_wp2_with fail
      refine (sum_any (w.heap.size + 1 + 1) (K ++ l) w3 HQB.out (by rw [List.length_append]; omega) HT3.out.k HT3.out.ltK HR3.out).mono ?_
      rintro e w4 ⟨rfl, hb4⟩
      have HZ4 := hide (heap_kept hb4 HZ3.out)
      have HB4 := hide (HB3.out.trans (hb4.mono HB3.out.size))
      have HRS := hide (setRow_heap w4 (w.heap.size + 1) zero32 ((shaL (K ++ l)).map byteV).toArray 29 (0, 0) HZ4.out)
      generalize hoa : ((shaL (K ++ l)).map byteV).toArray = oa at *
      have HOA := hide hoa
      clear hb4 HB3 HZ3 hoa
      go_wp2_with (refine wpList_store_row rfl 29 _ _ rfl (w.heap.size + 1) oa rfl rfl 29 zero32 HZ4.out HSZ.out HZS.out HON.out ?_)
      exact bodyPost_ret (v := .agg oa) (results_cell_row rfl _ _ (w.heap.size + 1) 29 oa (0, 0) _ rfl HRS.out Tryd.underlying29 rfl HSZ.out) rfl ⟨by rw [HKD.out, HOA.out], below_setRow HB4.out (by omega) _⟩
end Go.Proofs.YtbkcenpohcjgnabDoor
