import Derived.Test.YtepgiomgkgfioaaDoorShaWrite
namespace Go.Proofs.YtepgiomgkgfioaaDoor
open Go.RowKit
open Num
set_option linter.unusedVariables false
set_option linter.unusedSimpArgs false

def padA : List Nat := 128 :: List.replicate 63 0
def lenB (n : Nat) (k : Nat) : List Nat := (List.range k).map fun i => n * 8 % 18446744073709551616 / 2 ^ (8 * (7 - i)) % 256
theorem lenB_succ (n k : Nat) : lenB n (k + 1) = lenB n k ++ [n * 8 % 18446744073709551616 / 2 ^ (8 * (7 - k)) % 256] := by simp [lenB, List.range_succ]
theorem lenB_len (n k : Nat) : (lenB n k).length = k := by simp [lenB]
theorem lenB_lt (n k : Nat) : ∀ b ∈ lenB n k, b < 256 := by
  intro b hb
  obtain ⟨i, _, rfl⟩ := List.mem_map.1 hb
  exact Nat.mod_lt _ (by decide)
/-- the message, padded -/
def padL (m : List Nat) : List Nat := (m ++ padA.take (padN m.length)) ++ lenB m.length 8
/-- THE DIGEST -/
def shaL (m : List Nat) : List Nat := bytesS (absorb (padL m) ((padL m).length / 64)) 32
theorem shaL_len (m : List Nat) : (shaL m).length = 32 := bytesS_len _ _
theorem shaL_lt (m : List Nat) : ∀ b ∈ shaL m, b < 256 := bytesS_lt _ _
theorem padA_lt : ∀ b ∈ padA, b < 256 := by decide +kernel
theorem padA_len : padA.length = 64 := by rfl

def stz : St := ⟨0, 0, 0, 0, 0, 0, 0, 0⟩
def zeroH : Array Value := (hcells stz (List.replicate 64 0) 0).toArray
def zeroC : Array Value := ((List.replicate 64 0).map byteV).toArray
def zero8 : Array Value := ((List.replicate 8 0).map byteV).toArray
theorem Tryd.zeroH : (Tryd.prog.info? 91).map (·.zero) = some (some (.agg zeroH)) := by kernel_rfl
theorem Tryd.zeroC : (Tryd.prog.info? 89).map (·.zero) = some (some (.agg zeroC)) := by kernel_rfl
theorem Tryd.zero8 : (Tryd.prog.info? 94).map (·.zero) = some (some (.agg zero8)) := by kernel_rfl
theorem Tryd.builtP : Tryd.prog.built 89 [(0, .int .u8 128)] = some (padA.map byteV).toArray := by kernel_rfl
theorem Tryd.len8 : Tryd.prog.arrayLen 94 = 8 := by kernel_rfl
theorem slice_head (g n : Nat) (hn : n ≤ 64) : ∀ wx, (Instr.sliceAt 89 (.pointer (some ⟨g, 0, none⟩)) none (some (.int .i64 (n : Int))) none).run Tryd.prog wx = .ok (.slice (some ⟨g, 0, none⟩) n 64) wx := by
  intro wx
  have hs : (sizeOf (Tryd.prog.elem 89)).run Tryd.prog wx = .ok 1 wx := by kernel_rfl
  rw [run_sliceAt_array_h wx 89 ⟨g, 0, none⟩ (by kernel_rfl) .i64 (n : Int) (by omega) (by rw [Tryd.lenC]; omega), hs, Tryd.lenC]
  simp [Result.andThen, slicedAt, Addr.add_lit]

theorem row_cell72 {w : World} {g C : Nat} {st : St} {buf : List Nat} (hbl : buf.length = 64) (h : w.heap[g]? = some (.cells (hcells st buf C).toArray 91 (0, 0))) : w.cell? ⟨g, 72, none⟩ = some (.int .u64 (C : Int)) := by
  rw [cell_of_row w g 72 _ _ _ h, List.getElem?_toArray, hcells_count hbl]

theorem arr_bne {w : World} {gh g n cap : Nat} {l : List Nat} {t : TypeId} (h : w.heap[g]? = some (.cells (l.map byteV).toArray t (0, 0))) (hb : ∀ b ∈ l, b < 256) (hn : n ≤ l.length) (hc : n ≤ cap) (hm : cap ≤ maxLen) (hne : g ≠ gh) :
    BNe gh w (.slice (some ⟨g, 0, none⟩) n cap) (l.take n) := by
  have hl : (l.take n).length = n := by simp; omega
  refine ⟨_, cap, by rw [hl], by omega, hm, fun b hb' => hb b (List.mem_of_mem_take hb'), fun _ => ⟨g, 0, hne, rfl, fun i hi => ?_⟩⟩
  rw [hl] at hi
  rw [cell_of_row w g (0 + i) _ t _ h, Nat.zero_add, List.getElem?_toArray, map_byteV_getD (by omega)]
  simp [List.getD, hi]

theorem setRow_last {W : World} {c c' : Array Value} {t : TypeId} {n : Nat} (h : W.heap.size = n) : (W.alloc (.cells c t)).setRow n c' = W.alloc (.cells c' t) := by subst h; exact World.setRow_alloc_new W c c' t
theorem heap_at {w : World} {o : Obj} {n : Nat} (h : w.heap.size = n) : (w.alloc o).heap[n]? = some o := by subst h; exact Go.heap_alloc_new w o

theorem HRow.more {w : World} {g L C : Nat} {q : List Nat} (o : Obj) (h : HRow w g q L C) : HRow (w.alloc o) g q L C := by
  obtain ⟨buf, h1, h2, h3, h4⟩ := h
  exact ⟨buf, h1, h2, h3, heap_more o h4⟩
theorem HRow.stateRange {w : World} {g L C : Nat} {q : List Nat} (h : HRow w g q L C) : w.rangeAt g 0 ((absorb q (L / 64)).list.map wordV) := by
  obtain ⟨buf, _, _, _, h⟩ := h
  intro j v hv
  rw [cell_of_row _ _ _ _ _ _ h, List.getElem?_toArray, Nat.zero_add]; exact hcells_state _ _ _ j v hv
theorem HRow.lt {w : World} {g L C : Nat} {q : List Nat} (h : HRow w g q L C) : g < w.heap.size := by
  obtain ⟨_, _, _, _, h⟩ := h
  exact (Array.getElem?_eq_some_iff.1 h).1

set_option maxRecDepth 100000 in
set_option maxHeartbeats 8000000 in
theorem sum_any (g : Nat) (m : List Nat) (w : World) (hm : ∀ b ∈ m, b < 256) (hC : m.length < 4611686018427387904) (hK : Tab w 1 Ks) (hgK : 1 < w.heap.size) (hr : HRow w g m m.length m.length) :
    Calls Tryd.prog 33 #[.pointer (some ⟨g, 0, none⟩)] w fun e w' => e = .returned (.agg ((shaL m).map byteV).toArray) ∧ Below w.heap.size w w' := by
  have hr' := hr
  obtain ⟨buf, hbl, hbb, hbt, hrow⟩ := hr'
  have hglt : g < w.heap.size := (Array.getElem?_eq_some_iff.1 hrow).1
  have hcs : (hcells (absorb m (m.length / 64)) buf m.length).toArray.size = 73 := by rw [List.size_toArray, hcells_len hbl]
  have HSH : Hid ((Tryd.prog.info? 91).map (·.size) = some (hcells (absorb m (m.length / 64)) buf m.length).toArray.size) := by show _ = _; rw [hcs]; exact Tryd.sizeH
  have HSZ : Hid (zeroH.size = (hcells (absorb m (m.length / 64)) buf m.length).toArray.size) := by show _ = _; rw [hcs]; rfl
  have HON : Hid ((hcells (absorb m (m.length / 64)) buf m.length).toArray.all (·.oneCell') = true) := all_oneCell_toArray (hcells_one _ _ _)
  have hbits : ((m.length : Int) * 8) % 18446744073709551616 = ((m.length * 8 % 18446744073709551616 : Nat) : Int) := by omega
  have HR1 : Hid (∀ w' g', w'.heap[g']? = some (.cells (hcells (absorb m (m.length / 64)) buf m.length).toArray 91 (0, 0)) → HRow w' g' m m.length m.length) := fun w' g' h => ⟨buf, hbl, hbb, hbt, h⟩
  have hc72 : w.cell? ⟨g, 72, none⟩ = some (.int .u64 (m.length : Int)) := row_cell72 hbl hrow
  have HROW := hide hrow
  have HKK := hide hK
  have HMB := hide hm
  have hn8 : m.length * 8 < 36893488147419103232 := by omega
  clear hr hrow hbt hbb hbl hK hm hcs
  generalize (hcells (absorb m (m.length / 64)) buf m.length).toArray = hc at *
  have h0 := hide (heap_more (.cells zero32 64) HROW.out)
  have hc72b : (((w.alloc (.cells zero32 64)).alloc (.cells hc 91)).alloc (.cells (padA.map byteV).toArray 89)).cell? ⟨g, 72, none⟩ = some (.int .u64 (m.length : Int)) := by
    rw [(below_alloc3 w _ _ _).cell (p := ⟨g, 72, none⟩) hglt]; exact hc72
  have HPL := hide (fun wx => padLen_any m.length (by omega) wx)
  obtain ⟨n, hn⟩ : ∃ n, padN m.length = n := ⟨_, rfl⟩
  have hn64 := padN_bd m.length
  rw [hn] at HPL hn64
  have hsl := slice_head (w.heap.size + 1 + 1) n hn64.2
  have hnI : (n : Int) ≤ 64 := by omega
  have HN := hide hn
  clear hn
  go_enter Tryd.func33, Tryd.ntmps33
  go_wp2_with (first
    | refine wpList_alloc_as rfl 64 rfl (.agg zero32) zero32 Tryd.zero32 rfl ?_
    | refine wpList_load_row rfl 91 (.tmp 9) rfl g rfl 91 hc (0, 0) _ h0.out Tryd.underlying91 rfl HSH.out ?_
    | refine wpList_alloc_as rfl 91 rfl (.agg zeroH) zeroH Tryd.zeroH rfl ?_
    | (refine wpList_store_row rfl 91 (.tmp 3) (.tmp 10) rfl (w.heap.size + 1) hc (by first | rfl | simp [Act.eval, Act.put]) (by first | rfl | simp [Act.eval, Act.put]) 91 zeroH (heap_alloc2_new w _ _) HSH.out HSZ.out HON.out ?_; rw [setRow_last (by simp)])
    | refine wpList_build_as rfl 89 _ rfl (padA.map byteV).toArray (by simp [Act.eval, Act.put]; exact Tryd.builtP) ?_
    | refine wpList_alloc_as rfl 89 rfl (.agg zeroC) zeroC Tryd.zeroC rfl ?_
    | (refine wpList_store_row rfl 89 _ _ rfl (w.heap.size + 1 + 1) (padA.map byteV).toArray (by first | rfl | simp [Act.eval, Act.put]) (by first | rfl | simp [Act.eval, Act.put]) 89 zeroC (heap3_new w _ _ _) Tryd.sizeC rfl (oneCell_map _) ?_; rw [setRow_last (by simp)]))
  refine (HPL.out _).mono ?_
  rintro e w1 ⟨rfl, rfl⟩
  go_wp2_with fail
  have HB3 := hide (below_alloc3 w (.cells zero32 64) (.cells hc 91) (.cells (padA.map byteV).toArray 89))
  have HZ := hide (heap_more (.cells (padA.map byteV).toArray 89) (heap_more (.cells hc 91) (Go.heap_alloc_new w (.cells zero32 64))))
  have HQ := hide (HR1.out _ _ (heap3_snd w (.cells zero32 64) (.cells hc 91) (.cells (padA.map byteV).toArray 89)))
  have HPP := hide (arr_bne (gh := w.heap.size + 1) (cap := 64) (n := n) (heap3_new w (.cells zero32 64) (.cells hc 91) (.cells (padA.map byteV).toArray 89)) padA_lt (by rw [padA_len]; omega) hn64.2 (by decide) (by omega))
  have HPX : Hid ((padA.take n).length = n) := by show _ = _; rw [List.length_take, padA_len]; omega
  have HTP := hide (fun b (hb : b ∈ padA.take n) => padA_lt b (List.mem_of_mem_take hb))
  generalize hw3 : ((w.alloc (.cells zero32 64)).alloc (.cells hc 91)).alloc (.cells (padA.map byteV).toArray 89) = W at *
  have HT := hide (HKK.out.below HB3.out)
  refine (write_any (w.heap.size + 1) _ m (padA.take n) W HMB.out (by rw [HPX.out]; omega) HPP.out HT.out (by omega) HQ.out).mono ?_
  rintro e w1 ⟨rfl, hR, hbu⟩
  have hql : (m ++ padA.take n).length = m.length + n := by rw [List.length_append, HPX.out]
  rw [HPX.out] at hR
  have HB : Hid (Below w.heap.size w w1) := HB3.out.trans (hbu.below (by omega) HB3.out.size)
  have HZ1 : Hid (w1.heap[w.heap.size]? = some (.cells zero32 64 (0, 0))) := by
    show _ = _; rw [hbu.block _ (Array.getElem?_eq_some_iff.1 HZ.out).1 (by omega)]; exact HZ.out
  have HT1 := hide (hbu.tab HT.out (by omega))
  have HQB : Hid (∀ b ∈ m ++ padA.take n, b < 256) := fun b hb => (List.mem_append.1 hb).elim (HMB.out b) (HTP.out b)
  have hg1 : w.heap.size + 1 < w1.heap.size := by obtain ⟨_, _, _, _, h⟩ := hR; exact (Array.getElem?_eq_some_iff.1 h).1
  have HR := hide hR
  have hb8 : IntKind.u64.wrap ((m.length : Int) * 8) = ((m.length * 8 % 18446744073709551616 : Nat) : Int) := by rw [← hbits]; rfl
  have HL := hide (fun k => lenB_succ m.length k)
  have HPD : Hid (padL m = (m ++ padA.take n) ++ lenB m.length 8) := by show _ = _; rw [padL, HN.out]
  generalize hq : m ++ padA.take n = q at *
  have HLN := hide (lenB_len m.length)
  have HLT := hide (lenB_lt m.length)
  rw [hb8]
  generalize hBn : m.length * 8 % 18446744073709551616 = B at *
  have hB64 : B < 18446744073709551616 := by omega
  generalize hLL : lenB m.length = LB at *
  have HOUT : Hid (shaL m = bytesS (absorb (padL m) ((padL m).length / 64)) 32) := Eq.refl _
  generalize hOE : shaL m = out at *
  have HOE := hide hOE
  clear hOE
  generalize hPM : padL m = pm at *
  clear hw3 hc72b HB3 HZ HQ HPP HT hbu hR hq hBn hLL HSZ HON HR1 HROW h0 HPL hc72 hb8 hbits HTP HPX HSH
  go_wp2_with (refine wpList_alloc_as rfl 94 rfl (.agg zero8) zero8 Tryd.zero8 rfl ?_)
  go_loopw [24] (fun i wr => ∃ k : Nat, k ≤ 8 ∧ i = .int .i64 k ∧ ∃ ys : Array Value, ys.size = 8 ∧ ys.toList.take k = (LB k).map byteV ∧ wr = w1.alloc (.cells ys 94)) (fun i _ => 8 - (intOf i).toNat)
  case atStart => exact ⟨0, Nat.zero_le _, rfl, _, rfl, (by have := HLN.out 0; rw [List.length_eq_zero_iff.1 this]; rfl), rfl⟩
  case round =>
    obtain ⟨k, hk, rfl, ys, hy1, hy2, rfl⟩ := hrel
    by_cases hlt : k < 8
    · obtain ⟨v0, hv0⟩ : ∃ v, ys[k]? = some v := ⟨ys[k]'(by omega), by simp⟩
      have HY1 := hide hy1
      have HY2 := hide hy2
      have HS := HL.out k
      clear hy1 hy2
      rcases (show k = 0 ∨ k = 1 ∨ k = 2 ∨ k = 3 ∨ k = 4 ∨ k = 5 ∨ k = 6 ∨ k = 7 by omega) with rfl | rfl | rfl | rfl | rfl | rfl | rfl | rfl
      all_goals
        simp only [Nat.reduceSub, Nat.reduceMul, Nat.reducePow] at HS
        have HS' := hide HS
        clear HS
        go_wp2
      · go_roundw
        case rel => exact ⟨0 + 1, by omega, by go_num, ys.setIfInBounds 0 (byteV (B / 72057594037927936 % 256)), by rw [Array.size_setIfInBounds]; exact HY1.out, by rw [take_succ_set (by rw [HY1.out]; omega) HY2.out, HS'.out, List.map_append]; rfl, set_eq (by omega)⟩
        case measure => simp [intOf]
      · go_roundw
        case rel => exact ⟨1 + 1, by omega, by go_num, ys.setIfInBounds 1 (byteV (B / 281474976710656 % 256)), by rw [Array.size_setIfInBounds]; exact HY1.out, by rw [take_succ_set (by rw [HY1.out]; omega) HY2.out, HS'.out, List.map_append]; rfl, set_eq (by omega)⟩
        case measure => simp [intOf]
      · go_roundw
        case rel => exact ⟨2 + 1, by omega, by go_num, ys.setIfInBounds 2 (byteV (B / 1099511627776 % 256)), by rw [Array.size_setIfInBounds]; exact HY1.out, by rw [take_succ_set (by rw [HY1.out]; omega) HY2.out, HS'.out, List.map_append]; rfl, set_eq (by omega)⟩
        case measure => simp [intOf]
      · go_roundw
        case rel => exact ⟨3 + 1, by omega, by go_num, ys.setIfInBounds 3 (byteV (B / 4294967296 % 256)), by rw [Array.size_setIfInBounds]; exact HY1.out, by rw [take_succ_set (by rw [HY1.out]; omega) HY2.out, HS'.out, List.map_append]; rfl, set_eq (by omega)⟩
        case measure => simp [intOf]
      · go_roundw
        case rel => exact ⟨4 + 1, by omega, by go_num, ys.setIfInBounds 4 (byteV (B / 16777216 % 256)), by rw [Array.size_setIfInBounds]; exact HY1.out, by rw [take_succ_set (by rw [HY1.out]; omega) HY2.out, HS'.out, List.map_append]; rfl, set_eq (by omega)⟩
        case measure => simp [intOf]
      · go_roundw
        case rel => exact ⟨5 + 1, by omega, by go_num, ys.setIfInBounds 5 (byteV (B / 65536 % 256)), by rw [Array.size_setIfInBounds]; exact HY1.out, by rw [take_succ_set (by rw [HY1.out]; omega) HY2.out, HS'.out, List.map_append]; rfl, set_eq (by omega)⟩
        case measure => simp [intOf]
      · go_roundw
        case rel => exact ⟨6 + 1, by omega, by go_num, ys.setIfInBounds 6 (byteV (B / 256 % 256)), by rw [Array.size_setIfInBounds]; exact HY1.out, by rw [take_succ_set (by rw [HY1.out]; omega) HY2.out, HS'.out, List.map_append]; rfl, set_eq (by omega)⟩
        case measure => simp [intOf]
      · go_roundw
        case rel => exact ⟨7 + 1, by omega, by go_num, ys.setIfInBounds 7 (byteV (B / 1 % 256)), by rw [Array.size_setIfInBounds]; exact HY1.out, by rw [take_succ_set (by rw [HY1.out]; omega) HY2.out, HS'.out, List.map_append]; rfl, set_eq (by omega)⟩
        case measure => simp [intOf]
    · have hk8 : k = 8 := by omega
      subst hk8
      have hys : ys = ((LB 8).map byteV).toArray := by
        rw [List.take_of_length_le (by simp [hy1])] at hy2
        rw [← hy2]
      clear hy1 hy2 hlt hk
      go_wp2_with fail
      have h8 : (LB 8).take 8 = LB 8 := List.take_of_length_le (by rw [HLN.out 8]; omega)
      have HPP := hide (arr_bne (gh := w.heap.size + 1) (cap := 8) (n := 8) (Go.heap_alloc_new w1 (.cells ((LB 8).map byteV).toArray 94)) (HLT.out 8) (by rw [HLN.out 8]; omega) (by omega) (by decide) (by omega))
      rw [h8] at HPP
      refine (write_any (w.heap.size + 1) _ q (LB 8) _ HQB.out (by rw [HLN.out 8]; omega) HPP.out (HT1.out.below (below_alloc _ _)) (by omega) (by rw [hql]; exact HR.out.more _)).mono ?_
      rintro e w2 ⟨rfl, hR2, hbu2⟩
      rw [← HPD.out, show q.length + (LB 8).length = pm.length by rw [HPD.out, List.length_append]] at hR2
      have HB2 : Hid (Below w.heap.size w w2) := (HB.out.alloc HB.out.size _).trans (hbu2.below (by omega) (by simp; have := HB.out.size; omega))
      have HZ2 : Hid (w2.heap[w.heap.size]? = some (.cells zero32 64 (0, 0))) := by
        show _ = _; rw [hbu2.block _ (by simp; omega) (by omega)]; exact heap_more _ HZ1.out
      have HSR := hide hR2.stateRange
      have HBY := hide (fun wx => bytes_any (absorb pm (pm.length / 64)) (absorb_ok _ _) wx)
      have HL1 : Hid ((Tryd.prog.info? 87).map (·.size) = some ((absorb pm (pm.length / 64)).list.map wordV).length) := Tryd.sizeS
      rw [← HOUT.out] at HBY
      have HOL : Hid (out.length = 32) := by show _ = _; rw [HOUT.out]; exact bytesS_len _ _
      generalize (absorb pm (pm.length / 64)).list.map wordV = sl at *
      clear HPP h8 hR2 hbu2 HZ1 HB HT1 HR HOUT HPD hys
      go_wp2_with (refine wpList_load_mid rfl 87 _ rfl (w.heap.size + 1) 0 rfl sl _ HSR.out Tryd.underlying87 rfl HL1.out ?_)
      refine (HBY.out _).mono ?_
      rintro e w3 ⟨rfl, hb3⟩
      have HZ3 := hide (heap_kept hb3 HZ2.out)
      have HB3 := hide (HB2.out.trans (hb3.mono HB2.out.size))
      have HSZ : Hid ((Tryd.prog.info? 64).map (·.size) = some (out.map byteV).toArray.size) := by show _ = _; rw [List.size_toArray, List.length_map, HOL.out]; exact Tryd.size32
      have hsz32 : (out.map byteV).toArray.size = 32 := by rw [List.size_toArray, List.length_map, HOL.out]
      have HZS : Hid (zero32.size = (out.map byteV).toArray.size) := by show _ = _; rw [hsz32]; rfl
      clear hsz32
      have HRS := hide (setRow_heap w3 w.heap.size zero32 (out.map byteV).toArray 64 (0, 0) HZ3.out)
      have HON := hide (oneCell_map out)
      have HEQ : Hid (Ending.returned (.agg (out.map byteV).toArray) = .returned (.agg ((shaL m).map byteV).toArray)) := by show _ = _; rw [HOE.out]
      generalize (out.map byteV).toArray = oa at *
      clear hb3 HBY HL1 HSR HB2 HZ2
      go_wp2_with (refine wpList_store_row rfl 64 _ _ rfl w.heap.size oa rfl rfl 64 zero32 HZ3.out HSZ.out HZS.out HON.out ?_)
      exact bodyPost_ret (v := .agg oa) (results_cell_row rfl _ _ w.heap.size 64 oa (0, 0) _ rfl HRS.out Tryd.underlying64 rfl HSZ.out) rfl ⟨HEQ.out, below_setRow HB3.out (Nat.le_refl _) _⟩
end Go.Proofs.YtepgiomgkgfioaaDoor
