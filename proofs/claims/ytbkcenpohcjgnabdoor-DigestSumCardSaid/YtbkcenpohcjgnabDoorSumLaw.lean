import Derived.Test.YtbkcenpohcjgnabDoorRefSum
import Derived.Test.YtbkcenpohcjgnabDoorRoom
import Derived.Test.YtbkcenpohcjgnabDoorEqual
import Derived.Test.YtbkcenpohcjgnabDoorShaMac
import Derived.Deep.RegionHeld3
import Derived.Deep.MidRow
namespace Go.Proofs.YtbkcenpohcjgnabDoor
open Go.RowKit
open Num
set_option linter.unusedVariables false
set_option linter.unusedSimpArgs false

theorem range_of_row {w : World} {g : Nat} {c : Array Value} {t : TypeId} {fr : Nat × Nat} (h : w.heap[g]? = some (.cells c t fr)) : w.rangeAt g 0 c.toList := by
  intro j v hv
  rw [Nat.zero_add, cell_of_row _ _ _ _ _ _ h, ← hv, Array.getElem?_toList]

set_option maxRecDepth 100000 in
set_option maxHeartbeats 4000000 in
theorem sum_walk (v : Value) (l : List Nat) (w : World) (hT : Tabs w) (hB : Tab w 1 H0) (hR : Tab w 2 Ks) (h : BSl w v l) (hr : l.length ≤ 140737488351232) :
    Calls Tryd.prog 6 #[v] w fun e w' => e = .returned (.bool true) ∧ Below w.heap.size w w' := by
  have HV := hide h
  have HT := hide hT
  have HTB := hide hB
  have HTR := hide hR
  clear hT hB hR
  go_enter Tryd.func6, Tryd.ntmps6
  go_wp2_with fail
  refine (roomy_any v l w h (by omega)).mono ?_
  rintro e w1 ⟨vo, rfl, ho, hb1⟩
  obtain ⟨g, cap, hvo, hg, hgl, hcl, hcm⟩ := ho.shape (by simp [marks_len])
  have hml : (l ++ marks 150).length = l.length + 150 := by simp [marks_len]
  rw [hvo, hml] at ho
  rw [hml] at hvo hcl
  subst hvo
  unfold maxLen at hcm
  have HO1 : Hid (Own w1 w.heap.size (.slice (some ⟨g, 0, none⟩) (l ++ marks 150).length cap) (l ++ marks 150)) := by rw [hml]; exact ho
  have HB1 := hide hb1
  have HV1 := hide (HV.out.below hb1)
  have HEQ : Hid (∀ wx, Calls Tryd.prog 15 #[.agg ((shaL l).map byteV).toArray, .agg ((shaL l).map byteV).toArray] wx fun e w' => e = .returned (.bool true) ∧ Below wx.heap.size wx w') := fun wx =>
    equal_same _ (fun i hi => ⟨_, by rw [List.getElem?_toArray, map_byteV_getD (by rw [shaL_len]; exact hi)]⟩) wx
  have hsv := h
  obtain ⟨a0, cap0, hv0, _, hm0, _, _, _⟩ := hsv
  subst hv0
  unfold maxLen at hm0
  clear h hb1
  go_wp2_with fail
  refine (given_own g cap (l.length + 150) w.heap.size _ l (marks 150) w1 HV1.out hml.symm ho).mono ?_
  rintro e w1' ⟨vg, rfl, hvg, rfl⟩
  have HVG := hide hvg
  clear hvg ho
  go_wp2_with fail
  refine (sum256_any vg l w1' (by omega) (HT.out.below HB1.out) HVG.out).mono ?_
  rintro e w2 ⟨rfl, hb2⟩
  obtain ⟨f1, f2, f3⟩ := sum_shape l
  obtain ⟨sa, hsa⟩ : ∃ sa, ((shaL l).map byteV).toArray = sa := ⟨_, rfl⟩
  rw [hsa] at f1 f2 f3 HEQ ⊢
  have HSA := hide hsa
  have HB2 := hide ((HB1.out.trans (hb2.mono HB1.out.size)).alloc (Nat.le_trans HB1.out.size hb2.size) (.cells sa 29))
  have HO2 := hide ((HO1.out.kept hb2).grown (o := .cells sa 29) rfl)
  have HR2 := hide (Go.heap_alloc_new w2 (.cells sa 29))
  have HV2 := hide (HV.out.below HB2.out)
  clear hb2 hsa HO1 HVG HV1 HB1
  go_wp2_with (first
    | refine wpList_alloc_as rfl 29 rfl (.agg zero32) zero32 Tryd.zero32 rfl ?_
    | (refine wpList_store_row rfl 29 (.tmp 4) (.tmp 11) rfl w2.heap.size sa (by first | rfl | simp [Act.eval, Act.put]) (by first | rfl | simp [Act.eval, Act.put]) 29 zero32 (Go.heap_alloc_new w2 _) f1 f2 f3 ?_; rw [World.setRow_alloc_new])
    | refine wpList_load_row rfl 29 (.tmp 4) rfl w2.heap.size rfl 29 sa (0, 0) _ HR2.out Tryd.underlying29 rfl f1 ?_)
  obtain ⟨W2, hW2⟩ : ∃ W2, w2.alloc (.cells sa 29) = W2 := ⟨_, rfl⟩
  rw [hW2] at HB2 HO2 HR2 HV2 ⊢
  obtain ⟨g2, hg2⟩ : ∃ g2, w2.heap.size = g2 := ⟨_, rfl⟩
  rw [hg2] at HR2 ⊢
  have HRG : Hid (∀ wx, Below W2.heap.size W2 wx → wx.rangeAt g2 0 sa.toList) := fun wx hb => range_of_row (heap_kept hb HR2.out)
  have HC1 : Hid (∀ wx, Below W2.heap.size W2 wx → Calls Tryd.prog 24 #[.slice a0 l.length cap0] wx fun e w' => e = .returned (.agg sa) ∧ w'.rangeAt g2 0 sa.toList ∧ Below W2.heap.size W2 w') := fun wx hb =>
    (refSum_any _ l wx (HV2.out.below hb) (by omega) ((HTB.out.below HB2.out).below hb) ((HTR.out.below HB2.out).below hb)).mono (by
      rintro e w' ⟨rfl, hb'⟩
      have hbb := hb.trans (hb'.mono hb.size)
      exact ⟨by rw [HSA.out], HRG.out _ hbb, hbb⟩)
  have HC2 : Hid (∀ wx, Below W2.heap.size W2 wx → Calls Tryd.prog 15 #[.agg sa, .agg sa] wx fun e w' => e = .returned (.bool true) ∧ w'.rangeAt g2 0 sa.toList ∧ Below W2.heap.size W2 w') := fun wx hb =>
    (HEQ.out wx).mono (by
      rintro e w' ⟨rfl, hb'⟩
      have hbb := hb.trans (hb'.mono hb.size)
      exact ⟨rfl, HRG.out _ hbb, hbb⟩)
  have HC3 : Hid (∀ wx, Below W2.heap.size W2 wx → Calls Tryd.prog 25 #[.slice (some ⟨g, 0, none⟩) (l.length + 150) cap, .slice a0 l.length cap0] wx fun e w' => e = .returned (.bool true) ∧ w'.rangeAt g2 0 sa.toList ∧ Below W2.heap.size W2 w') := fun wx hb =>
    (untouched_any g cap _ l wx w.heap.size (HV2.out.below hb) (by omega) (HO2.out.kept hb)).mono (by
      rintro e w' ⟨rfl, n, rfl⟩
      have hbb := below_drewN hb n
      exact ⟨rfl, HRG.out _ hbb, hbb⟩)
  have hu := Tryd.underlying29
  have hi : (Tryd.prog.info? 29).map (·.size) = some sa.toList.length := by rw [Array.length_toList]; exact f1
  have hb0 : Below W2.heap.size W2 W2.drew := (Below.refl _ _).drew
  have hr0 := HRG.out _ hb0
  clear hW2 hg2
  go_region_held3 (fun w' => w'.rangeAt g2 0 sa.toList ∧ Below W2.heap.size W2 w') (first | go_keep_ranges | (constructor <;> assumption))
    (first
      | (go_at_call 24; refine (HC1.out _ (by assumption)).mono ?_; rintro e w' ⟨rfl, hr1, hb1⟩)
      | (go_at_call 15; refine (HC2.out _ (by assumption)).mono ?_; rintro e w' ⟨rfl, hr1, hb1⟩)
      | (go_at_call 25; refine (HC3.out _ (by assumption)).mono ?_; rintro e w' ⟨rfl, hr1, hb1⟩))
  have hbW := ‹Below W2.heap.size W2 w'›
  have HB3 := hide (HB2.out.trans (hbW.mono HB2.out.size))
  have HO3 := hide (HO2.out.kept hbW)
  clear hbW hb0 hr0 HC1 HC2 HC3 HRG HR2 HB2 HO2 HV2 HSA HEQ f1 f2 f3 hi
  have HSP := hide (spoil_any g cap 85 l.length (l ++ marks 150) w.heap.size w' (by omega) (by rw [hml]; omega) (by rw [hml]; omega) hg HO3.out)
  clear HO3
  go_wp2_with fail
  refine HSP.out.mono ?_
  rintro e w6 ⟨rfl, hos, hbs, hss⟩
  have HB6 := hide (HB3.out.trans hbs)
  have hsl : (spoilL 85 l.length (l ++ marks 150)).length = (l ++ marks 150).length := spoilL_len _ _ _
  have hos' : Own w6 w.heap.size (.slice (some ⟨g, 0, none⟩) (spoilL 85 l.length (l ++ marks 150)).length cap) (spoilL 85 l.length (l ++ marks 150)) := by rw [hsl]; exact hos
  have hpt := hos'.part l.length (by rw [hsl, hml]; omega)
  have hL2 : ((spoilL 85 l.length (l ++ marks 150)).take l.length).length = l.length := by rw [List.length_take, hsl, hml]; omega
  generalize (spoilL 85 l.length (l ++ marks 150)).take l.length = L2 at *
  have HPT := hide hpt
  clear hos hos' hbs hss hpt hsl HSP HB3
  obtain ⟨f1, f2, f3⟩ := sum_shape L2
  have HEQ : Hid (∀ wx, Calls Tryd.prog 15 #[.agg ((shaL L2).map byteV).toArray, .agg ((shaL L2).map byteV).toArray] wx fun e w' => e = .returned (.bool true) ∧ Below wx.heap.size wx w') := fun wx =>
    equal_same _ (fun i hi => ⟨_, by rw [List.getElem?_toArray, map_byteV_getD (by rw [shaL_len]; exact hi)]⟩) wx
  go_wp2_with fail
  refine (sum256_any _ L2 w6 (by omega) (HT.out.below HB6.out) HPT.out).mono ?_
  rintro e w7 ⟨rfl, hb7⟩
  obtain ⟨sb, hsb⟩ : ∃ sb, ((shaL L2).map byteV).toArray = sb := ⟨_, rfl⟩
  rw [hsb] at f1 f2 f3 HEQ ⊢
  have HSB := hide hsb
  have HB7 := hide ((HB6.out.trans (hb7.mono HB6.out.size)).alloc (Nat.le_trans HB6.out.size hb7.size) (.cells sb 29))
  have HR7 := hide (Go.heap_alloc_new w7 (.cells sb 29))
  have HP7 := hide ((HPT.out.below hb7).below (below_alloc w7 (.cells sb 29)))
  clear hb7 hsb HPT HB6
  go_wp2_with (first
    | refine wpList_alloc_as rfl 29 rfl (.agg zero32) zero32 Tryd.zero32 rfl ?_
    | (refine wpList_store_row rfl 29 (.tmp 5) (.tmp 32) rfl w7.heap.size sb (by first | rfl | simp [Act.eval, Act.put]) (by first | rfl | simp [Act.eval, Act.put]) 29 zero32 (Go.heap_alloc_new w7 _) f1 f2 f3 ?_; rw [World.setRow_alloc_new])
    | refine wpList_load_row rfl 29 (.tmp 5) rfl w7.heap.size rfl 29 sb (0, 0) _ HR7.out Tryd.underlying29 rfl f1 ?_)
  obtain ⟨W7, hW7⟩ : ∃ W7, w7.alloc (.cells sb 29) = W7 := ⟨_, rfl⟩
  rw [hW7] at HB7 HR7 HP7 ⊢
  obtain ⟨g7, hg7⟩ : ∃ g7, w7.heap.size = g7 := ⟨_, rfl⟩
  rw [hg7] at HR7 ⊢
  have HRG : Hid (∀ wx, Below W7.heap.size W7 wx → wx.rangeAt g7 0 sb.toList) := fun wx hb => range_of_row (heap_kept hb HR7.out)
  have HC0 : Hid (∀ wx, Below W7.heap.size W7 wx → Calls Tryd.prog 12 #[.slice (some ⟨g, 0, none⟩) l.length cap] wx fun e w' => ∃ v', e = .returned v' ∧ BSl w' v' L2 ∧ w'.rangeAt g7 0 sb.toList ∧ Below W7.heap.size W7 w') := fun wx hb =>
    (copied_any _ L2 wx (HP7.out.below hb) (by omega)).mono (by
      rintro e w' ⟨v', rfl, ho', hb'⟩
      have hbb := hb.trans (hb'.mono hb.size)
      exact ⟨v', rfl, ho'.bsl, HRG.out _ hbb, hbb⟩)
  have HC1 : Hid (∀ vx wx, BSl wx vx L2 → Below W7.heap.size W7 wx → Calls Tryd.prog 24 #[vx] wx fun e w' => e = .returned (.agg sb) ∧ w'.rangeAt g7 0 sb.toList ∧ Below W7.heap.size W7 w') := fun vx wx hv hb =>
    (refSum_any _ L2 wx hv (by omega) ((HTB.out.below HB7.out).below hb) ((HTR.out.below HB7.out).below hb)).mono (by
      rintro e w' ⟨rfl, hb'⟩
      have hbb := hb.trans (hb'.mono hb.size)
      exact ⟨by rw [HSB.out], HRG.out _ hbb, hbb⟩)
  have HC2 : Hid (∀ wx, Below W7.heap.size W7 wx → Calls Tryd.prog 15 #[.agg sb, .agg sb] wx fun e w' => e = .returned (.bool true) ∧ w'.rangeAt g7 0 sb.toList ∧ Below W7.heap.size W7 w') := fun wx hb =>
    (HEQ.out wx).mono (by
      rintro e w' ⟨rfl, hb'⟩
      have hbb := hb.trans (hb'.mono hb.size)
      exact ⟨rfl, HRG.out _ hbb, hbb⟩)
  have hi : (Tryd.prog.info? 29).map (·.size) = some sb.toList.length := by rw [Array.length_toList]; exact f1
  have hb0 : Below W7.heap.size W7 W7.drew := (Below.refl _ _).drew
  have hr0 := HRG.out _ hb0
  have hz1 : (0 : Int) ≤ (l.length : Int) := by omega
  have hz2 : (l.length : Int) ≤ (cap : Int) := by omega
  clear hW7 hg7
  go_region_held3 (fun w' => w'.rangeAt g7 0 sb.toList ∧ Below W7.heap.size W7 w') (first | (constructor <;> assumption) | go_keep_ranges)
    (first
      | (go_at_call 12; refine (HC0.out _ (by assumption)).mono ?_; rintro e w' ⟨vq, rfl, hvq, hr1, hb1⟩)
      | (go_at_call 24; refine (HC1.out _ _ (by assumption) (by assumption)).mono ?_; rintro e w' ⟨rfl, hr1, hb1⟩)
      | (go_at_call 15; refine (HC2.out _ (by assumption)).mono ?_; rintro e w' ⟨rfl, hr1, hb1⟩))
  have hbW := ‹Below W7.heap.size W7 w'›
  have HB8 := hide (HB7.out.trans (hbW.mono HB7.out.size))
  go_wp2
  go_ret
  exact ⟨rfl, HB8.out⟩
end Go.Proofs.YtbkcenpohcjgnabDoor
