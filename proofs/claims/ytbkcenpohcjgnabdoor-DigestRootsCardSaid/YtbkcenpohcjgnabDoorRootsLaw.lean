import Derived.Test.YtbkcenpohcjgnabDoorRefByRoots
import Derived.Test.YtbkcenpohcjgnabDoorEqual
import Derived.Test.YtbkcenpohcjgnabDoorShaMac
import Derived.Deep.RegionHeld3
import Derived.Deep.MidRow
namespace Go.Proofs.YtbkcenpohcjgnabDoor
open Go.RowKit
open Num
set_option linter.unusedVariables false
set_option linter.unusedSimpArgs false

theorem range_of_row' {w : World} {g : Nat} {c : Array Value} {t : TypeId} {fr : Nat × Nat} (h : w.heap[g]? = some (.cells c t fr)) : w.rangeAt g 0 c.toList := by
  intro j v hv
  rw [Nat.zero_add, cell_of_row _ _ _ _ _ _ h, ← hv, Array.getElem?_toList]

set_option maxRecDepth 100000 in
set_option maxHeartbeats 4000000 in
theorem roots_walk (v : Value) (l : List Nat) (w : World) (hT : Tabs w) (h : BSl w v l) (hr : l.length ≤ 140737488351232) :
    Calls Tryd.prog 8 #[v] w fun e w' => e = .returned (.bool true) ∧ Below w.heap.size w w' := by
  have HV := hide h
  have HT := hide hT
  have HEQ : Hid (∀ wx, Calls Tryd.prog 15 #[.agg ((shaL l).map byteV).toArray, .agg ((shaL l).map byteV).toArray] wx fun e w' => e = .returned (.bool true) ∧ Below wx.heap.size wx w') := fun wx =>
    equal_same _ (fun i hi => ⟨_, by rw [List.getElem?_toArray, map_byteV_getD (by rw [shaL_len]; exact hi)]⟩) wx
  obtain ⟨f1, f2, f3⟩ := sum_shape l
  clear h hT
  go_enter Tryd.func8, Tryd.ntmps8
  go_wp2_with fail
  refine (copied_any v l w HV.out (by omega)).mono ?_
  rintro e w1 ⟨vc, rfl, ho, hb1⟩
  have HBC := hide ho.bsl
  have HB1 := hide hb1
  clear ho hb1
  go_wp2_with fail
  refine (sum256_any vc l w1 (by omega) (HT.out.below HB1.out) HBC.out).mono ?_
  rintro e w2 ⟨rfl, hb2⟩
  obtain ⟨sa, hsa⟩ : ∃ sa, ((shaL l).map byteV).toArray = sa := ⟨_, rfl⟩
  rw [hsa] at f1 f2 f3 HEQ ⊢
  have HSA := hide hsa
  have HB2 := hide ((HB1.out.trans (hb2.mono HB1.out.size)).alloc (Nat.le_trans HB1.out.size hb2.size) (.cells sa 29))
  have HR2 := hide (Go.heap_alloc_new w2 (.cells sa 29))
  clear hb2 hsa HBC HB1
  go_wp2_with (first
    | refine wpList_alloc_as rfl 29 rfl (.agg zero32) zero32 Tryd.zero32 rfl ?_
    | (refine wpList_store_row rfl 29 (.tmp 3) _ rfl w2.heap.size sa (by first | rfl | simp [Act.eval, Act.put]) (by first | rfl | simp [Act.eval, Act.put]) 29 zero32 (Go.heap_alloc_new w2 _) f1 f2 f3 ?_; rw [World.setRow_alloc_new])
    | refine wpList_load_row rfl 29 (.tmp 3) rfl w2.heap.size rfl 29 sa (0, 0) _ HR2.out Tryd.underlying29 rfl f1 ?_)
  obtain ⟨W2, hW2⟩ : ∃ W2, w2.alloc (.cells sa 29) = W2 := ⟨_, rfl⟩
  rw [hW2] at HB2 HR2 ⊢
  obtain ⟨g2, hg2⟩ : ∃ g2, w2.heap.size = g2 := ⟨_, rfl⟩
  rw [hg2] at HR2 ⊢
  have HRG : Hid (∀ wx, Below W2.heap.size W2 wx → wx.rangeAt g2 0 sa.toList) := fun wx hb => range_of_row' (heap_kept hb HR2.out)
  have HC1 : Hid (∀ wx, Below W2.heap.size W2 wx → Calls Tryd.prog 29 #[v] wx fun e w' => e = .returned (.agg sa) ∧ w'.rangeAt g2 0 sa.toList ∧ Below W2.heap.size W2 w') := fun wx hb =>
    (byRoots_any _ l wx ((HV.out.below HB2.out).below hb) (by omega)).mono (by
      rintro e w' ⟨rfl, hb'⟩
      have hbb := hb.trans (hb'.mono hb.size)
      exact ⟨by rw [HSA.out], HRG.out _ hbb, hbb⟩)
  have HC2 : Hid (∀ wx, Below W2.heap.size W2 wx → Calls Tryd.prog 15 #[.agg sa, .agg sa] wx fun e w' => e = .returned (.bool true) ∧ w'.rangeAt g2 0 sa.toList ∧ Below W2.heap.size W2 w') := fun wx hb =>
    (HEQ.out wx).mono (by
      rintro e w' ⟨rfl, hb'⟩
      have hbb := hb.trans (hb'.mono hb.size)
      exact ⟨rfl, HRG.out _ hbb, hbb⟩)
  have hu := Tryd.underlying29
  have hi : (Tryd.prog.info? 29).map (·.size) = some sa.toList.length := by rw [Array.length_toList]; exact f1
  have hb0 : Below W2.heap.size W2 W2.drew := (Below.refl _ _).drew
  have hr0 := HRG.out _ hb0
  clear hW2 hg2
  go_region_held3 (fun w' => w'.rangeAt g2 0 sa.toList ∧ Below W2.heap.size W2 w') (first | (constructor <;> assumption) | go_keep_ranges)
    (first
      | (go_at_call 29; refine (HC1.out _ (by assumption)).mono ?_; rintro e w' ⟨rfl, hr1, hb1⟩)
      | (go_at_call 15; refine (HC2.out _ (by assumption)).mono ?_; rintro e w' ⟨rfl, hr1, hb1⟩))
  have hbW := ‹Below W2.heap.size W2 w'›
  have HB8 := hide (HB2.out.trans (hbW.mono HB2.out.size))
  go_wp2
  go_ret
  exact ⟨rfl, HB8.out⟩
end Go.Proofs.YtbkcenpohcjgnabDoor
