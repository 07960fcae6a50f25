import Derived.Test.YtbkcenpohcjgnabDoorShaKeyed
import Derived.Test.YtbkcenpohcjgnabDoorHex
namespace Go.Proofs.YtbkcenpohcjgnabDoor
open Go.RowKit
open Num
set_option linter.unusedVariables false
set_option linter.unusedSimpArgs false

theorem keyedL_len (k : List Nat) (m : Nat) (l : List Nat) : (keyedL k m l).length = 32 := shaL_len _
theorem keyedL_lt (k : List Nat) (m : Nat) (l : List Nat) : ∀ b ∈ keyedL k m l, b < 256 := shaL_lt _
theorem macL_len (k l : List Nat) : (macL k l).length = 32 := shaL_len _
theorem macL_lt (k l : List Nat) : ∀ b ∈ macL k l, b < 256 := shaL_lt _

set_option maxRecDepth 100000 in
set_option maxHeartbeats 400000 in
theorem mac_any (u v : Value) (k l : List Nat) (w : World) (hs1 : k.length < 4611686018427387904) (hs2 : l.length < 4611686018427387000) (hT : Tabs w) (hu : BSl w u k) (hv : BSl w v l) :
    Calls Tryd.prog 17 #[u, v] w fun e w' => e = .returned (.agg ((macL k l).map byteV).toArray) ∧ Below w.heap.size w w' := by
  have HU := hide hu
  have HV := hide hv
  have HT := hide hT
  have HKB := hide (keyL_lt hu.bytes)
  have HML : Hid (macL k l = keyedL (keyL k) 92 (keyedL (keyL k) 54 l)) := Eq.refl _
  obtain ⟨h1, h2, h3⟩ := sum_shape ((keyL k).map (fun b => b ^^^ 92) ++ keyedL (keyL k) 54 l)
  have HSZ : Hid ((Tryd.prog.info? 29).map (·.size) = some ((macL k l).map byteV).toArray.size) := h1
  have HZS : Hid (zero32.size = ((macL k l).map byteV).toArray.size) := h2
  have HON : Hid (((macL k l).map byteV).toArray.all (·.oneCell') = true) := h3
  clear h1 h2 h3
  obtain ⟨h1, h2, h3⟩ := sum_shape ((keyL k).map (fun b => b ^^^ 54) ++ l)
  have HSI : Hid ((Tryd.prog.info? 29).map (·.size) = some ((keyedL (keyL k) 54 l).map byteV).toArray.size) := h1
  have HZI : Hid (zero32.size = ((keyedL (keyL k) 54 l).map byteV).toArray.size) := h2
  have HOI : Hid (((keyedL (keyL k) 54 l).map byteV).toArray.all (·.oneCell') = true) := h3
  clear hu hv hT h1 h2 h3
  go_enter Tryd.func17, Tryd.ntmps17
  go_wp2_with (refine wpList_alloc_as rfl 29 rfl (.agg zero32) zero32 Tryd.zero32 rfl ?_)
  refine (keyBlock_any u k _ hs1 (HT.out.below (below_alloc _ _)) (HU.out.below (below_alloc _ _))).mono ?_
  rintro e w1 ⟨rfl, hb1⟩
  have HBA := hide (below_alloc w (.cells zero32 29))
  have HB1 := hide (HBA.out.trans (hb1.mono HBA.out.size))
  have HZ1 := hide (heap_kept hb1 (Go.heap_alloc_new w (.cells zero32 29)))
  have hlt1 : w.heap.size < w1.heap.size := (Array.getElem?_eq_some_iff.1 HZ1.out).1
  obtain ⟨h1, h2, h3⟩ := keyL_shape k
  have HCS := hide h1
  have HCZ := hide h2
  have HCO := hide h3
  clear h1 h2 h3 hb1
  have HBW := hide (HB1.out.alloc HB1.out.size (.cells ((keyL k).map byteV).toArray 55))
  have HIN := hide (keyed_any (keyL k) 54 v l (w1.alloc (.cells ((keyL k).map byteV).toArray 55)) (keyL_len k) HKB.out (by decide) hs2 (HT.out.below HBW.out) (HV.out.below HBW.out))
  generalize hka : (keyL k).map byteV = ka at *
  have HKA := hide hka
  clear hka
  have HZW := hide (heap_more (.cells ka.toArray 55) HZ1.out)
  have HCW := hide (Go.heap_alloc_new w1 (.cells ka.toArray 55))
  go_wp2_with (first
      | refine wpList_alloc_as rfl 55 rfl (.agg zeroC) zeroC Tryd.zeroC rfl ?_
      | (refine wpList_store_row rfl 55 (.tmp 5) (.tmp 8) rfl w1.heap.size ka.toArray (by first | rfl | simp [Act.eval, Act.put]) (by first | rfl | simp [Act.eval, Act.put]) 55 zeroC (Go.heap_alloc_new w1 _) HCS.out HCZ.out HCO.out ?_; rw [World.setRow_alloc_new])
      | refine wpList_load_row rfl 55 _ rfl w1.heap.size rfl 55 ka.toArray (0, 0) _ HCW.out Tryd.underlying55 rfl HCS.out ?_)
  generalize w1.alloc (.cells ka.toArray 55) = W at *
  refine HIN.out.mono ?_
  rintro e w2 ⟨rfl, hb2⟩
  have HB2 := hide (HBW.out.trans (hb2.mono HBW.out.size))
  have HZ2 := hide (heap_kept hb2 HZW.out)
  have HC2 := hide (heap_kept hb2 HCW.out)
  have hlt2 : w.heap.size < w2.heap.size := (Array.getElem?_eq_some_iff.1 HZ2.out).1
  have HB3 := hide (HB2.out.alloc HB2.out.size (.cells ((keyedL (keyL k) 54 l).map byteV).toArray 29))
  have HZ3 := hide (heap_more (.cells ((keyedL (keyL k) 54 l).map byteV).toArray 29) HZ2.out)
  have HC3 := hide (heap_more (.cells ((keyedL (keyL k) 54 l).map byteV).toArray 29) HC2.out)
  have HSL := hide (BSl.ofRow (n := 32) (cap := 32) (l := keyedL (keyL k) 54 l) (Go.heap_alloc_new w2 (.cells ((keyedL (keyL k) 54 l).map byteV).toArray 29)) (by show List.take 32 ((keyedL (keyL k) 54 l).map byteV) = _; rw [List.take_of_length_le (by rw [List.length_map, keyedL_len]; omega)]) (keyedL_len _ _ _).symm (Nat.le_refl _) (by decide) (keyedL_lt _ _ _))
  have HBD : Hid (Below w.heap.size w (w2.alloc (.cells ((keyedL (keyL k) 54 l).map byteV).toArray 29)).drew) := ⟨HB3.out.os, HB3.out.tape, HB3.out.output, HB3.out.size, HB3.out.block⟩
  have HOUT := hide (keyed_any (keyL k) 92 _ (keyedL (keyL k) 54 l) (w2.alloc (.cells ((keyedL (keyL k) 54 l).map byteV).toArray 29)).drew (keyL_len k) HKB.out (by decide) (by rw [keyedL_len]; omega) (HT.out.below HBD.out) (HSL.out.drewN 1))
  rw [← HML.out] at HOUT
  have HKA' := HKA.out
  rw [HKA'] at HOUT
  clear hb2 HIN HKA' HCW HC2 HZW HZ2
  generalize ((keyedL (keyL k) 54 l).map byteV).toArray = ia at *
  go_wp2_with (first
      | refine wpList_alloc_as rfl 29 rfl (.agg zero32) zero32 Tryd.zero32 rfl ?_
      | (refine wpList_store_row rfl 29 _ _ rfl w2.heap.size ia (by first | rfl | simp [Act.eval, Act.put]) (by first | rfl | simp [Act.eval, Act.put]) 29 zero32 (Go.heap_alloc_new w2 _) HSI.out HZI.out HOI.out ?_; rw [World.setRow_alloc_new]))
  have HRG : Hid ((w2.alloc (.cells ia 29)).drew.rangeAt w1.heap.size 0 ka) := by
    intro j x hx; show (w2.alloc (.cells ia 29)).cell? _ = _; rw [cell_of_row _ _ _ _ _ _ HC3.out, Nat.zero_add, List.getElem?_toArray]; exact hx
  refine wp_still_tail 2 (by kernel_rfl) (by kernel_rfl) ?_
  simp only [List.take_succ_cons, List.take_zero, List.drop_succ_cons, List.drop_zero]
  refine wpStill_load_mid rfl 55 (.tmp 5) rfl w1.heap.size 0 rfl ka _ HRG.out Tryd.underlying55 rfl (by rw [← List.size_toArray]; exact HCS.out) ?_
  still_step
  refine wpStill_nil ?_
  go_wp2_with fail
  refine HOUT.out.mono ?_
  rintro e w3 ⟨rfl, hb3⟩
  have HZ4 := hide (heap_kept (w := (w2.alloc (.cells ia 29)).drew) hb3 HZ3.out)
  have HB4 := hide (HBD.out.trans (hb3.mono HBD.out.size))
  have HRS := hide (setRow_heap w3 w.heap.size zero32 ((macL k l).map byteV).toArray 29 (0, 0) HZ4.out)
  generalize hoa : ((macL k l).map byteV).toArray = oa at *
  have HOA := hide hoa
  clear hb3 HZ3 HB3 HBD hoa HSL HOUT HRG HC3
  go_wp2_with (refine wpList_store_row rfl 29 _ _ rfl w.heap.size oa rfl rfl 29 zero32 HZ4.out HSZ.out HZS.out HON.out ?_)
  exact bodyPost_ret (v := .agg oa) (results_cell_row rfl _ _ w.heap.size 29 oa (0, 0) _ rfl HRS.out Tryd.underlying29 rfl HSZ.out) rfl ⟨by rw [HOA.out], below_setRow HB4.out (Nat.le_refl _) _⟩
end Go.Proofs.YtbkcenpohcjgnabDoor
