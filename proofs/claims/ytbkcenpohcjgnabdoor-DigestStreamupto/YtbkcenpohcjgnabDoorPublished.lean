import Derived.Test.YtbkcenpohcjgnabDoorCert
import Derived.Lib.SmallJoins
namespace Go.Proofs.YtbkcenpohcjgnabDoor
open Go.RowKit
open Num
set_option linter.unusedVariables false
set_option linter.unusedSimpArgs false

theorem bsl_nil (w : World) : BSl w (.slice none 0 0) [] := ⟨none, 0, rfl, Nat.le_refl _, by decide, fun _ => rfl, by simp, fun h => absurd h (by decide)⟩
theorem arr_shape {l : List Nat} (h : l.length = 32) : (Tryd.prog.info? 29).map (·.size) = some (l.map byteV).toArray.size ∧ zero32.size = (l.map byteV).toArray.size ∧ (l.map byteV).toArray.all (·.oneCell') = true := by
  have h : (l.map byteV).toArray.size = 32 := by rw [List.size_toArray, List.length_map, h]
  refine ⟨by rw [h]; exact Tryd.size32, by rw [h]; rfl, oneCell_map _⟩
theorem bsl_const {w : World} {g : Nat} (hg : g = w.heap.size) (l : List Nat) (hl : l.length ≤ 100) (hb : ∀ b ∈ l, b < 256) (t : TypeId) (fr : Nat × Nat) (C : Array Value) (hC : C = (l.map byteV).toArray) : BSl (w.alloc (.cells C t fr)) (.slice (some ⟨g, 0, none⟩) l.length l.length) l := by
  subst hg hC
  exact BSl.ofRow (heap_alloc_new w _) (by show List.take l.length (l.map byteV) = _; rw [List.take_of_length_le (by rw [List.length_map]; omega)]) rfl (Nat.le_refl _) (by unfold maxLen; omega) hb
theorem conv_const (w : World) (C : Array Value) (n c g : Nat) (hg : g = w.heap.size) : (convert 22 22 (.slice (some ⟨g, 0, none⟩) n c)).run Tryd.prog (w.alloc (.cells C 5)) = .ok (.slice (some ⟨g, 0, none⟩) n c) (w.alloc (.cells C 5 (C.size, C.size + 1))) :=
  Joins.run_convert_bytes_const_at w 22 5 C n c g hg Tryd.underlying22 (by kernel_rfl)

set_option maxRecDepth 100000 in
set_option maxHeartbeats 1000000 in
theorem published_any (w : World) (hT : Tabs w) :
    Calls Tryd.prog 10 #[] w fun e w' => e = .returned (.bool true) ∧ Below w.heap.size w w' := by
  have HT := hide hT
  clear hT
  obtain ⟨h1, h2, h3⟩ := arr_shape (l := pubAD) (by decide +kernel)
  have HA1 := hide h1
  have HA2 := hide h2
  have HA3 := hide h3
  clear h1 h2 h3
  obtain ⟨h1, h2, h3⟩ := arr_shape (l := pubBD) (by decide +kernel)
  have HB1 := hide h1
  have HB2 := hide h2
  have HB3 := hide h3
  clear h1 h2 h3
  obtain ⟨h1, h2, h3⟩ := arr_shape (l := pubDD) (by decide +kernel)
  have HD1 := hide h1
  have HD2 := hide h2
  have HD3 := hide h3
  clear h1 h2 h3
  have HS := hide (fun wx hx => sum256_any (.slice none 0 0) [] wx (by decide) hx (bsl_nil wx))
  rw [pubA_sum] at HS
  have HSB := hide (fun v wx hx hv => sum256_any v [97, 98, 99] wx (by decide) hx hv)
  rw [pubB_sum] at HSB
  have HSD := hide (fun u v wx hx hu hv => mac_any u v [74, 101, 102, 101] [119, 104, 97, 116, 32, 100, 111, 32, 121, 97, 32, 119, 97, 110, 116, 32, 102, 111, 114, 32, 110, 111, 116, 104, 105, 110, 103, 63] wx (by decide) (by decide) hx hu hv)
  rw [pubD_mac] at HSD
  have HSC := hide (fun v wx hv => crc_any v [49, 50, 51, 52, 53, 54, 55, 56, 57] wx hv)
  rw [pub_crc] at HSC
  have HXA := hide (fun wx => hex_any pubAD (by decide +kernel) (by decide +kernel) wx)
  have HXB := hide (fun wx => hex_any pubBD (by decide +kernel) (by decide +kernel) wx)
  have HXD := hide (fun wx => hex_any pubDD (by decide +kernel) (by decide +kernel) wx)
  rw [pubA_hex] at HXA
  rw [pubB_hex] at HXB
  rw [pubD_hex] at HXD
  generalize (pubAD.map byteV).toArray = A at *
  generalize (pubBD.map byteV).toArray = B at *
  generalize (pubDD.map byteV).toArray = D at *
  go_enter Tryd.func10, Tryd.ntmps10
  go_wp2_with fail
  refine (HS.out w HT.out).mono ?_
  rintro e w1 ⟨rfl, hb1⟩
  have HW1 := hide hb1
  have HX1 := hide (HW1.out.alloc HW1.out.size (.cells A 29))
  have HY1 := hide (HX1.out.alloc HX1.out.size (.cells #[.int .u8 97, .int .u8 98, .int .u8 99] 5 (3, 4)))
  have HT1 := hide (HT.out.below HY1.out)
  have HC1 := hide (HSB.out _ _ HT1.out (bsl_const (w := w1.alloc (.cells A 29)) (g := w1.heap.size + 1) (by simp) [97, 98, 99] (by decide) (by decide) 5 (3, 4) #[.int .u8 97, .int .u8 98, .int .u8 99] rfl))
  have HRA := hide (heap_more (.cells #[.int .u8 97, .int .u8 98, .int .u8 99] 5 (3, 4)) (Go.heap_alloc_new w1 (.cells A 29)))
  have hcv := conv_const (w1.alloc (.cells A 29)) #[.int .u8 97, .int .u8 98, .int .u8 99] 3 3 (w1.heap.size + 1) (by simp)
  clear hb1
  go_wp2_with (first
      | refine wpList_alloc_as rfl 29 rfl (.agg zero32) zero32 Tryd.zero32 rfl ?_
      | (refine wpList_store_row rfl 29 _ _ rfl w1.heap.size A (by first | rfl | simp [Act.eval, Act.put]) (by first | rfl | simp [Act.eval, Act.put]) 29 zero32 (Go.heap_alloc_new w1 _) HA1.out HA2.out HA3.out ?_; rw [World.setRow_alloc_new]))
  clear hcv
  refine HC1.out.mono ?_
  rintro e w2 ⟨rfl, hb2⟩
  have HW2 := hide (HY1.out.trans (hb2.mono HY1.out.size))
  have HRA2 := hide (heap_kept hb2 HRA.out)
  generalize hg1 : w1.heap.size = g1 at *
  clear hb2 HC1 HRA HT1 HY1 HX1 HW1 hg1
  clear w1
  have HX2 := hide (HW2.out.alloc HW2.out.size (.cells B 29))
  have HY2 := hide (HX2.out.alloc HX2.out.size (.cells #[.int .u8 74, .int .u8 101, .int .u8 102, .int .u8 101] 5 (4, 5)))
  have HZ2 := hide (HY2.out.alloc HY2.out.size (.cells #[.int .u8 119, .int .u8 104, .int .u8 97, .int .u8 116, .int .u8 32, .int .u8 100, .int .u8 111, .int .u8 32, .int .u8 121, .int .u8 97, .int .u8 32, .int .u8 119, .int .u8 97, .int .u8 110, .int .u8 116, .int .u8 32, .int .u8 102, .int .u8 111, .int .u8 114, .int .u8 32, .int .u8 110, .int .u8 111, .int .u8 116, .int .u8 104, .int .u8 105, .int .u8 110, .int .u8 103, .int .u8 63] 5 (28, 29)))
  have HT2 := hide (HT.out.below HZ2.out)
  have HC2 := hide (HSD.out _ _ _ HT2.out ((bsl_const (w := w2.alloc (.cells B 29)) (g := w2.heap.size + 1) (by simp) [74, 101, 102, 101] (by decide) (by decide) 5 (4, 5) #[.int .u8 74, .int .u8 101, .int .u8 102, .int .u8 101] rfl).below (below_alloc _ (.cells #[.int .u8 119, .int .u8 104, .int .u8 97, .int .u8 116, .int .u8 32, .int .u8 100, .int .u8 111, .int .u8 32, .int .u8 121, .int .u8 97, .int .u8 32, .int .u8 119, .int .u8 97, .int .u8 110, .int .u8 116, .int .u8 32, .int .u8 102, .int .u8 111, .int .u8 114, .int .u8 32, .int .u8 110, .int .u8 111, .int .u8 116, .int .u8 104, .int .u8 105, .int .u8 110, .int .u8 103, .int .u8 63] 5 (28, 29)))) (bsl_const (w := (w2.alloc (.cells B 29)).alloc (.cells #[.int .u8 74, .int .u8 101, .int .u8 102, .int .u8 101] 5 (4, 5))) (g := w2.heap.size + 1 + 1) (by simp) [119, 104, 97, 116, 32, 100, 111, 32, 121, 97, 32, 119, 97, 110, 116, 32, 102, 111, 114, 32, 110, 111, 116, 104, 105, 110, 103, 63] (by decide) (by decide) 5 (28, 29) #[.int .u8 119, .int .u8 104, .int .u8 97, .int .u8 116, .int .u8 32, .int .u8 100, .int .u8 111, .int .u8 32, .int .u8 121, .int .u8 97, .int .u8 32, .int .u8 119, .int .u8 97, .int .u8 110, .int .u8 116, .int .u8 32, .int .u8 102, .int .u8 111, .int .u8 114, .int .u8 32, .int .u8 110, .int .u8 111, .int .u8 116, .int .u8 104, .int .u8 105, .int .u8 110, .int .u8 103, .int .u8 63] rfl))
  have HRA3 := hide (heap_more (.cells #[.int .u8 119, .int .u8 104, .int .u8 97, .int .u8 116, .int .u8 32, .int .u8 100, .int .u8 111, .int .u8 32, .int .u8 121, .int .u8 97, .int .u8 32, .int .u8 119, .int .u8 97, .int .u8 110, .int .u8 116, .int .u8 32, .int .u8 102, .int .u8 111, .int .u8 114, .int .u8 32, .int .u8 110, .int .u8 111, .int .u8 116, .int .u8 104, .int .u8 105, .int .u8 110, .int .u8 103, .int .u8 63] 5 (28, 29)) (heap_more (.cells #[.int .u8 74, .int .u8 101, .int .u8 102, .int .u8 101] 5 (4, 5)) (heap_more (.cells B 29) HRA2.out)))
  have HRB3 := hide (heap_more (.cells #[.int .u8 119, .int .u8 104, .int .u8 97, .int .u8 116, .int .u8 32, .int .u8 100, .int .u8 111, .int .u8 32, .int .u8 121, .int .u8 97, .int .u8 32, .int .u8 119, .int .u8 97, .int .u8 110, .int .u8 116, .int .u8 32, .int .u8 102, .int .u8 111, .int .u8 114, .int .u8 32, .int .u8 110, .int .u8 111, .int .u8 116, .int .u8 104, .int .u8 105, .int .u8 110, .int .u8 103, .int .u8 63] 5 (28, 29)) (heap_more (.cells #[.int .u8 74, .int .u8 101, .int .u8 102, .int .u8 101] 5 (4, 5)) (Go.heap_alloc_new w2 (.cells B 29))))
  have hcv1 := conv_const (w2.alloc (.cells B 29)) #[.int .u8 74, .int .u8 101, .int .u8 102, .int .u8 101] 4 4 (w2.heap.size + 1) (by simp)
  have hcv2 := conv_const ((w2.alloc (.cells B 29)).alloc (.cells #[.int .u8 74, .int .u8 101, .int .u8 102, .int .u8 101] 5 (4, 5))) #[.int .u8 119, .int .u8 104, .int .u8 97, .int .u8 116, .int .u8 32, .int .u8 100, .int .u8 111, .int .u8 32, .int .u8 121, .int .u8 97, .int .u8 32, .int .u8 119, .int .u8 97, .int .u8 110, .int .u8 116, .int .u8 32, .int .u8 102, .int .u8 111, .int .u8 114, .int .u8 32, .int .u8 110, .int .u8 111, .int .u8 116, .int .u8 104, .int .u8 105, .int .u8 110, .int .u8 103, .int .u8 63] 28 28 (w2.heap.size + 1 + 1) (by simp)
  go_wp2_with (first
      | refine wpList_alloc_as rfl 29 rfl (.agg zero32) zero32 Tryd.zero32 rfl ?_
      | (refine wpList_store_row rfl 29 _ _ rfl w2.heap.size B (by first | rfl | simp [Act.eval, Act.put]) (by first | rfl | simp [Act.eval, Act.put]) 29 zero32 (Go.heap_alloc_new w2 _) HB1.out HB2.out HB3.out ?_; rw [World.setRow_alloc_new]))
  clear hcv1 hcv2
  refine HC2.out.mono ?_
  rintro e w3 ⟨rfl, hb3⟩
  have HW3 := hide (HZ2.out.trans (hb3.mono HZ2.out.size))
  have HRA4 := hide (heap_kept hb3 HRA3.out)
  have HRB4 := hide (heap_kept hb3 HRB3.out)
  generalize hg2 : w2.heap.size = g2 at *
  clear hb3 HC2 HRA2 HRA3 HRB3 HT2 HX2 HY2 HZ2 HW2 hg2
  clear w2
  have HX3 := hide (HW3.out.alloc HW3.out.size (.cells D 29))
  have HY3 := hide (HX3.out.alloc HX3.out.size (.cells #[.int .u8 49, .int .u8 50, .int .u8 51, .int .u8 52, .int .u8 53, .int .u8 54, .int .u8 55, .int .u8 56, .int .u8 57] 5 (9, 10)))
  have HC3 := hide (HSC.out _ _ (bsl_const (w := w3.alloc (.cells D 29)) (g := w3.heap.size + 1) (by simp) [49, 50, 51, 52, 53, 54, 55, 56, 57] (by decide) (by decide) 5 (9, 10) #[.int .u8 49, .int .u8 50, .int .u8 51, .int .u8 52, .int .u8 53, .int .u8 54, .int .u8 55, .int .u8 56, .int .u8 57] rfl))
  have HRA5 := hide (heap_more (.cells #[.int .u8 49, .int .u8 50, .int .u8 51, .int .u8 52, .int .u8 53, .int .u8 54, .int .u8 55, .int .u8 56, .int .u8 57] 5 (9, 10)) (heap_more (.cells D 29) HRA4.out))
  have HRB5 := hide (heap_more (.cells #[.int .u8 49, .int .u8 50, .int .u8 51, .int .u8 52, .int .u8 53, .int .u8 54, .int .u8 55, .int .u8 56, .int .u8 57] 5 (9, 10)) (heap_more (.cells D 29) HRB4.out))
  have HRD5 := hide (heap_more (.cells #[.int .u8 49, .int .u8 50, .int .u8 51, .int .u8 52, .int .u8 53, .int .u8 54, .int .u8 55, .int .u8 56, .int .u8 57] 5 (9, 10)) (Go.heap_alloc_new w3 (.cells D 29)))
  have hcv3 := conv_const (w3.alloc (.cells D 29)) #[.int .u8 49, .int .u8 50, .int .u8 51, .int .u8 52, .int .u8 53, .int .u8 54, .int .u8 55, .int .u8 56, .int .u8 57] 9 9 (w3.heap.size + 1) (by simp)
  go_wp2_with (first
      | refine wpList_alloc_as rfl 29 rfl (.agg zero32) zero32 Tryd.zero32 rfl ?_
      | (refine wpList_store_row rfl 29 _ _ rfl w3.heap.size D (by first | rfl | simp [Act.eval, Act.put]) (by first | rfl | simp [Act.eval, Act.put]) 29 zero32 (Go.heap_alloc_new w3 _) HD1.out HD2.out HD3.out ?_; rw [World.setRow_alloc_new]))
  clear hcv3
  refine HC3.out.mono ?_
  rintro e w4 ⟨rfl, rfl⟩
  generalize hg3 : w3.heap.size = g3 at *
  generalize (w3.alloc (.cells D 29)).alloc (.cells #[.int .u8 49, .int .u8 50, .int .u8 51, .int .u8 52, .int .u8 53, .int .u8 54, .int .u8 55, .int .u8 56, .int .u8 57] 5 (9, 10)) = w5 at *
  clear HC3 HRA4 HRB4 HX3 HW3 hg3
  clear w3
  go_wp2_with (refine wpList_load_row rfl 29 _ rfl g1 rfl 29 A (0, 0) _ HRA5.out Tryd.underlying29 rfl HA1.out ?_)
  refine (HXA.out _).mono ?_
  rintro e w6 ⟨rfl, hb6⟩
  have HB6 := hide (HY3.out.trans (hb6.mono HY3.out.size))
  have HRB6 := hide (heap_kept hb6 HRB5.out)
  have HRD6 := hide (heap_kept hb6 HRD5.out)
  clear hb6 HRA5 HRB5 HRD5 HY3
  go_wp2_with (refine wpList_load_w rfl 29 (.tmp 2) rfl g2 rfl 29 B (0, 0) _ HRB6.out Tryd.underlying29 rfl HB1.out ?_)
  refine (HXB.out _).mono ?_
  rintro e w7 ⟨rfl, hb7⟩
  have HB7 := hide (HB6.out.trans (hb7.mono HB6.out.size))
  have HRD7 := hide (heap_kept hb7 HRD6.out)
  clear hb7 HRB6 HRD6 HB6
  go_wp2_with (refine wpList_load_w rfl 29 (.tmp 3) rfl g3 rfl 29 D (0, 0) _ HRD7.out Tryd.underlying29 rfl HD1.out ?_)
  refine (HXD.out _).mono ?_
  rintro e w8 ⟨rfl, hb8⟩
  have HB8 := hide (HB7.out.trans (hb8.mono HB7.out.size))
  clear hb8 HRD7 HB7
  go_wp2_with fail
  go_ret
  exact ⟨rfl, HB8.out⟩
end Go.Proofs.YtbkcenpohcjgnabDoor
