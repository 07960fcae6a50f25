import Derived.Test.YtbkcenpohcjgnacDoorRefMac
import Derived.Test.YtbkcenpohcjgnacDoorSpoil2
import Derived.Test.YtbkcenpohcjgnacDoorEqual
import Derived.Deep.RegionHeld3
import Derived.Deep.MidRow
namespace Go.Proofs.YtbkcenpohcjgnacDoor
open Go.RowKit
open Num
set_option linter.unusedVariables false
set_option linter.unusedSimpArgs false

theorem range_of_row {w : World} {g : Nat} {c : Array Value} {t : TypeId} {fr : Nat × Nat} (h : w.heap[g]? = some (.cells c t fr)) : w.rangeAt g 0 c.toList := by
  intro j v hv
  rw [Nat.zero_add, cell_of_row _ _ _ _ _ _ h, ← hv, Array.getElem?_toList]
theorem mac_shape (k l : List Nat) : (Tryd.prog.info? 24).map (·.size) = some ((macL k l).map byteV).toArray.size ∧ zero32.size = ((macL k l).map byteV).toArray.size ∧ ((macL k l).map byteV).toArray.all (·.oneCell') = true := by
  have h : ((macL k l).map byteV).toArray.size = 32 := by rw [List.size_toArray, List.length_map, macL_len]
  exact ⟨by rw [h]; exact Tryd.size32, by rw [h]; rfl, oneCell_map _⟩
theorem mac_equal (k l : List Nat) (wx : World) : Calls Tryd.prog 7 #[.agg ((macL k l).map byteV).toArray, .agg ((macL k l).map byteV).toArray] wx fun e w' => e = .returned (.bool true) ∧ Below wx.heap.size wx w' :=
  equal_same _ (fun i hi => ⟨_, by rw [List.getElem?_toArray, map_byteV_getD (by rw [macL_len]; exact hi)]⟩) wx

theorem belowCells {B b : Nat} {a : World} (hb : B ≤ b) : ∀ (vs : List Value) (o : Nat) (w : World), Below B a w → Below B a (w.setCells b o vs)
  | [], _, _, h => h
  | v :: r, o, w, h => belowCells hb r (o + 1) _ (h.setCell (p := ⟨b, o, none⟩) hb v)
theorem range_kept {W wx : World} {g : Nat} {cs : List Value} (h : W.rangeAt g 0 cs) (hb : Below W.heap.size W wx) : wx.rangeAt g 0 cs := fun j v hv => by
  have := h j v hv
  rw [hb.cell (p := ⟨g, 0 + j, none⟩) (World.block_lt_of_cell? W _ this)]; exact this
theorem there_new (w : World) (Z : Array Value) (t : TypeId) (n : Nat) (h : n ≤ Z.size) : (w.alloc (.cells Z t)).there w.heap.size 0 n := fun j hj => by
  have hr := Go.heap_alloc_new w (.cells Z t)
  refine ⟨?_, frozen_of_row _ _ _ _ t hr⟩
  rw [cell_of_row _ _ _ _ _ _ hr, Nat.zero_add, Array.getElem?_eq_getElem (by omega)]; rfl
theorem there_kept {W wx : World} {g n : Nat} {Z : Array Value} {t : TypeId} (hr : W.heap[g]? = some (.cells Z t (0, 0))) (h : n ≤ Z.size) (hb : Below W.heap.size W wx) : wx.there g 0 n := fun j hj => by
  have hr2 := heap_kept hb hr
  refine ⟨?_, frozen_of_row _ _ _ _ t hr2⟩
  rw [cell_of_row _ _ _ _ _ _ hr2, Nat.zero_add, Array.getElem?_eq_getElem (by omega)]; rfl

set_option maxRecDepth 100000 in
set_option maxHeartbeats 8000000 in
theorem mac_walk (v0 v1 : Value) (k m : List Nat) (w : World) (hT : Tabs w) (hB : Tab w 0 H0) (hR : Tab w 1 Ks) (h0 : BSl w v0 k) (h1 : BSl w v1 m) (hr0 : k.length ≤ 140737488351232) (hr1 : m.length ≤ 140737488351232) :
    Calls Tryd.prog 3 #[v0, v1] w fun e w' => e = .returned (.bool true) ∧ Below w.heap.size w w' := by
  have HK := hide h0
  have HM := hide h1
  have HT := hide hT
  have HTB := hide hB
  have HTR := hide hR
  clear hT hB hR
  obtain ⟨ak, ck, hve0, _, hkm, _, _, _⟩ := h0
  obtain ⟨am, cm, hve1, _, hmm, _, _, _⟩ := h1
  subst hve0
  subst hve1
  unfold maxLen at hkm hmm
  go_enter Tryd.func3, Tryd.ntmps3
  go_wp2_with fail
  refine (roomy_any _ k w HK.out (by omega)).mono ?_
  rintro e w1 ⟨vo, rfl, ho, hb1⟩
  obtain ⟨gk, capk, hvo, hgk, hgkl, hckl, hckm⟩ := ho.shape (by simp [marks_len])
  have hkl : (k ++ marks 150).length = k.length + 150 := by simp [marks_len]
  rw [hvo] at ho
  rw [hkl] at hvo hckl
  subst hvo
  unfold maxLen at hckm
  have HOK1 := hide ho
  have HB1 := hide hb1
  clear ho hb1
  go_wp2_with fail
  refine (roomy_any _ m w1 (HM.out.below HB1.out) (by omega)).mono ?_
  rintro e w2 ⟨vo, rfl, ho, hb2⟩
  obtain ⟨gm, capm, hvo, hgm, hgml, hcml, hcmm⟩ := ho.shape (by simp [marks_len])
  have hml : (m ++ marks 150).length = m.length + 150 := by simp [marks_len]
  rw [hvo] at ho
  rw [hml] at hvo hcml
  subst hvo
  unfold maxLen at hcmm
  have HOM2 := hide ho
  have HOK2 := hide (HOK1.out.kept hb2)
  have HB2 := hide (HB1.out.trans (hb2.mono HB1.out.size))
  have hgne : gk ≠ gm := by omega
  have hgmw : w.heap.size ≤ gm := by have := HB1.out.size; omega
  have HKL := hide hkl
  have HML := hide hml
  clear ho hb2 HOK1 HB1
  go_wp2_with fail
  refine (given_own gk capk (k.length + 150) w.heap.size _ k (marks 150) w2 (HK.out.below HB2.out) HKL.out.symm (by have h := HOK2.out; rw [HKL.out] at h; exact h)).mono ?_
  rintro e w2a ⟨vgk, rfl, hvgk, rfl⟩
  have HGK := hide hvgk
  clear hvgk
  go_wp2_with fail
  refine (given_own gm capm (m.length + 150) w1.heap.size _ m (marks 150) w2a (HM.out.below HB2.out) HML.out.symm (by have h := HOM2.out; rw [HML.out] at h; exact h)).mono ?_
  rintro e w2b ⟨vgm, rfl, hvgm, rfl⟩
  have HGM := hide hvgm
  clear hvgm
  go_wp2_with fail
  refine (mac_any vgk vgm k m w2b (by omega) (by omega) (HT.out.below HB2.out) HGK.out HGM.out).mono ?_
  rintro e w3 ⟨rfl, hb3⟩
  obtain ⟨f1, f2, f3⟩ := mac_shape k m
  have HEQ := hide (mac_equal k m)
  obtain ⟨sa, hsa⟩ : ∃ sa, ((macL k m).map byteV).toArray = sa := ⟨_, rfl⟩
  rw [hsa] at f1 f2 f3 HEQ ⊢
  have HSA := hide hsa
  have HB3 := hide ((HB2.out.trans (hb3.mono HB2.out.size)).alloc (Nat.le_trans HB2.out.size hb3.size) (.cells sa 24))
  have HOK3 := hide ((HOK2.out.kept hb3).grown (o := .cells sa 24) rfl)
  have HOM3 := hide ((HOM2.out.kept hb3).grown (o := .cells sa 24) rfl)
  have HR3 := hide (Go.heap_alloc_new w3 (.cells sa 24))
  have hw13 : w1.heap.size ≤ (w3.alloc (.cells sa 24)).heap.size := by have := hb3.size; simp; omega
  clear hb3 hsa HOK2 HOM2 HGK HGM HB2
  go_wp2_with (first
    | refine wpList_alloc_as rfl 24 rfl (.agg zero32) zero32 Tryd.zero32 rfl ?_
    | (refine wpList_store_row rfl 24 (.tmp 7) _ rfl w3.heap.size sa (by first | rfl | simp [Act.eval, Act.put]) (by first | rfl | simp [Act.eval, Act.put]) 24 zero32 (Go.heap_alloc_new w3 _) f1 f2 f3 ?_; rw [World.setRow_alloc_new]))
  obtain ⟨W3, hW3⟩ : ∃ W3, w3.alloc (.cells sa 24) = W3 := ⟨_, rfl⟩
  rw [hW3] at HB3 HR3 HOK3 HOM3 hw13 ⊢
  obtain ⟨g3, hg3⟩ : ∃ g3, w3.heap.size = g3 := ⟨_, rfl⟩
  rw [hg3] at HR3 ⊢
  have HRG : Hid (∀ wx, Below W3.heap.size W3 wx → wx.rangeAt g3 0 sa.toList) := fun wx hb => range_of_row (heap_kept hb HR3.out)
  have HC1 : Hid (∀ wx, Below W3.heap.size W3 wx → Calls Tryd.prog 8 #[.slice ak k.length ck, .slice am m.length cm] wx fun e w' => e = .returned (.agg sa) ∧ w'.rangeAt g3 0 sa.toList ∧ Below W3.heap.size W3 w') := fun wx hb =>
    (refMac_any _ _ k m wx ((HK.out.below HB3.out).below hb) ((HM.out.below HB3.out).below hb) hr0 hr1 ((HTB.out.below HB3.out).below hb) ((HTR.out.below HB3.out).below hb)).mono (by
      rintro e w' ⟨rfl, hb'⟩
      have hbb := hb.trans (hb'.mono hb.size)
      exact ⟨by rw [HSA.out], HRG.out _ hbb, hbb⟩)
  have HC2 : Hid (∀ wx, Below W3.heap.size W3 wx → Calls Tryd.prog 7 #[.agg sa, .agg sa] wx fun e w' => e = .returned (.bool true) ∧ w'.rangeAt g3 0 sa.toList ∧ Below W3.heap.size W3 w') := fun wx hb =>
    (HEQ.out wx).mono (by
      rintro e w' ⟨rfl, hb'⟩
      have hbb := hb.trans (hb'.mono hb.size)
      exact ⟨rfl, HRG.out _ hbb, hbb⟩)
  have HC3 : Hid (∀ wx, Below W3.heap.size W3 wx → Calls Tryd.prog 9 #[.slice (some ⟨gk, 0, none⟩) (k.length + 150) capk, .slice ak k.length ck] wx fun e w' => e = .returned (.bool true) ∧ w'.rangeAt g3 0 sa.toList ∧ Below W3.heap.size W3 w') := fun wx hb =>
    (untouched_any gk capk _ k wx w.heap.size ((HK.out.below HB3.out).below hb) (by omega) (HOK3.out.kept hb)).mono (by
      rintro e w' ⟨rfl, n, rfl⟩
      have hbb := below_drewN hb n
      exact ⟨rfl, HRG.out _ hbb, hbb⟩)
  have HC4 : Hid (∀ wx, Below W3.heap.size W3 wx → Calls Tryd.prog 9 #[.slice (some ⟨gm, 0, none⟩) (m.length + 150) capm, .slice am m.length cm] wx fun e w' => e = .returned (.bool true) ∧ w'.rangeAt g3 0 sa.toList ∧ Below W3.heap.size W3 w') := fun wx hb =>
    (untouched_any gm capm _ m wx w1.heap.size ((HM.out.below HB3.out).below hb) (by omega) (HOM3.out.kept hb)).mono (by
      rintro e w' ⟨rfl, n, rfl⟩
      have hbb := below_drewN hb n
      exact ⟨rfl, HRG.out _ hbb, hbb⟩)
  have hu := Tryd.underlying24
  have hi : (Tryd.prog.info? 24).map (·.size) = some sa.toList.length := by rw [Array.length_toList]; exact f1
  have hb0 : Below W3.heap.size W3 W3.drew := (Below.refl _ _).drew
  have hr0' := HRG.out _ hb0
  clear hW3 hg3
  go_region_held3 (fun w' => w'.rangeAt g3 0 sa.toList ∧ Below W3.heap.size W3 w') (first | (constructor <;> assumption) | go_keep_ranges)
    (first
      | (go_at_call 8; refine (HC1.out _ (by assumption)).mono ?_; rintro e w' ⟨rfl, hr1', hb1⟩)
      | (go_at_call 7; refine (HC2.out _ (by assumption)).mono ?_; rintro e w' ⟨rfl, hr1', hb1⟩)
      | (go_at_call 9; with_reducible refine (HC3.out _ (by assumption)).mono ?_; rintro e w' ⟨rfl, hr1', hb1⟩)
      | (go_at_call 9; with_reducible refine (HC4.out _ (by assumption)).mono ?_; rintro e w' ⟨rfl, hr1', hb1⟩))
  have hbW := ‹Below W3.heap.size W3 w'›
  have hw01 : w.heap.size ≤ w1.heap.size := by omega
  have HB4 := hide (HB3.out.trans (hbW.mono HB3.out.size))
  have HOK4 := hide (HOK3.out.kept hbW)
  have HOM4 := hide (HOM3.out.kept hbW)
  have hw14 : w1.heap.size ≤ w'.heap.size := by have := hbW.size; omega
  clear hbW hb0 hr0' HC1 HC2 HC3 HC4 HRG HR3 HB3 HOK3 HOM3 HSA HEQ f1 f2 f3 hi hw13
  have HSP := hide (spoil_fine gm capm 85 m.length (m ++ marks 150) w1.heap.size w' (by omega) (by rw [HML.out]; omega) (by rw [HML.out]; omega) hgm HOM4.out)
  go_wp2_with fail
  refine HSP.out.mono ?_
  rintro e w5 ⟨rfl, hos, hbs, hss, hoth⟩
  have HOK5 : Hid (Own w5 w.heap.size (.slice (some ⟨gk, 0, none⟩) (k ++ marks 150).length capk) (k ++ marks 150)) := HOK4.out.keptIf (fun g hg => by
    simp only [Value.ownBlock, Option.some.injEq] at hg
    exact hoth g (by rw [← hg]; exact hgne))
  have HB5 := hide (HB4.out.trans (hbs.mono hw01))
  have hsl : (spoilL 85 m.length (m ++ marks 150)).length = (m ++ marks 150).length := spoilL_len _ _ _
  have HOM5 : Hid (Own w5 w1.heap.size (.slice (some ⟨gm, 0, none⟩) (spoilL 85 m.length (m ++ marks 150)).length capm) (spoilL 85 m.length (m ++ marks 150))) := by rw [hsl]; exact hos
  have HPM := hide (HOM5.out.part m.length (by rw [hsl, HML.out]; omega))
  have HPK : Hid (BSl w5 (.slice (some ⟨gk, 0, none⟩) k.length capk) k) := by
    have h := HOK5.out.part k.length (by rw [HKL.out]; omega)
    rwa [List.take_left] at h
  have hM2 : ((spoilL 85 m.length (m ++ marks 150)).take m.length).length = m.length := by rw [List.length_take, hsl, HML.out]; omega
  have hSPl : (spoilL 85 m.length (m ++ marks 150)).length = m.length + 150 := by rw [hsl, HML.out]
  have hw15 : w1.heap.size ≤ w5.heap.size := by omega
  generalize spoilL 85 m.length (m ++ marks 150) = SM at *
  obtain ⟨M2, hM2e⟩ : ∃ M2, SM.take m.length = M2 := ⟨_, rfl⟩
  rw [hM2e] at HPM hM2
  have HM2E := hide hM2e
  have HSPL := hide hSPl
  have HM2L := hide hM2
  clear hos hbs hss hoth hsl HSP HB4 HOK4 HOM4 hM2e hSPl hM2
  have hz1 : (0 : Int) ≤ (m.length : Int) := by omega
  have hz2 : (m.length : Int) ≤ (capm : Int) := by omega
  have hz3 : (0 : Int) ≤ (k.length : Int) := by omega
  have hz4 : (k.length : Int) ≤ (capk : Int) := by omega
  obtain ⟨f1, f2, f3⟩ := mac_shape k M2
  have HEQ := hide (mac_equal k M2)
  obtain ⟨sb, hsb⟩ : ∃ sb, ((macL k M2).map byteV).toArray = sb := ⟨_, rfl⟩
  rw [hsb] at f1 f2 f3 HEQ
  have HSV := hide hsb
  have hsv32 : sb.toList.length = 32 := by rw [Array.length_toList, ← f2]; rfl
  have honev : ∀ v ∈ sb.toList, v.oneCell' = true := by
    intro v hv
    rw [← hsb] at hv
    exact byteV_oneCell _ v (by simpa using hv)
  have HMC : Hid (∀ wx, Below w5.heap.size w5 wx → Calls Tryd.prog 5 #[.slice (some ⟨gk, 0, none⟩) k.length capk, .slice (some ⟨gm, 0, none⟩) m.length capm] wx fun e w' => e = .returned (.agg sb) ∧ Below w5.heap.size w5 w' ∧ Below wx.heap.size wx w') := fun wx hb =>
    (mac_any _ _ k M2 wx (by omega) (by rw [HM2L.out]; omega) ((HT.out.below HB5.out).below hb) (HPK.out.below hb) (HPM.out.below hb)).mono (by
      rintro e w' ⟨rfl, hb'⟩
      exact ⟨by rw [HSV.out], hb.trans (hb'.mono hb.size), hb'⟩)
  have hi : (Tryd.prog.info? 24).map (·.size) = some sb.toList.length := by rw [Array.length_toList]; exact f1
  have hb0 : Below w5.heap.size w5 w5.drew := (Below.refl _ _).drew
  have HZL : Hid (sb.toList.length ≤ (#[.int .u8 0, .int .u8 0, .int .u8 0, .int .u8 0, .int .u8 0, .int .u8 0, .int .u8 0, .int .u8 0, .int .u8 0, .int .u8 0, .int .u8 0, .int .u8 0, .int .u8 0, .int .u8 0, .int .u8 0, .int .u8 0, .int .u8 0, .int .u8 0, .int .u8 0, .int .u8 0, .int .u8 0, .int .u8 0, .int .u8 0, .int .u8 0, .int .u8 0, .int .u8 0, .int .u8 0, .int .u8 0, .int .u8 0, .int .u8 0, .int .u8 0, .int .u8 0] : Array Value).size) := by show _ ≤ _; rw [hsv32]; decide
  clear hsb
  go_wp2_with fail
  go_region_held3 (fun w' => Below w5.heap.size w5 w') (first | assumption | exact Below.alloc (by assumption) (by first | exact Nat.le_refl _ | exact Below.size (by assumption)) _ | exact belowCells (by first | exact Nat.le_refl _ | exact Below.size (by assumption)) _ _ _ (by first | assumption | exact Below.alloc (by assumption) (by first | exact Nat.le_refl _ | exact Below.size (by assumption)) _))
    (first
      | (go_at_call 5; refine (HMC.out _ (by assumption)).mono ?_; rintro e w' ⟨rfl, hbp, hbq⟩; have hth := there_new w' #[.int .u8 0, .int .u8 0, .int .u8 0, .int .u8 0, .int .u8 0, .int .u8 0, .int .u8 0, .int .u8 0, .int .u8 0, .int .u8 0, .int .u8 0, .int .u8 0, .int .u8 0, .int .u8 0, .int .u8 0, .int .u8 0, .int .u8 0, .int .u8 0, .int .u8 0, .int .u8 0, .int .u8 0, .int .u8 0, .int .u8 0, .int .u8 0, .int .u8 0, .int .u8 0, .int .u8 0, .int .u8 0, .int .u8 0, .int .u8 0, .int .u8 0, .int .u8 0] 24 _ HZL.out; (first | have hth2 := there_kept (g := w5.heap.size) (Z := #[.int .u8 0, .int .u8 0, .int .u8 0, .int .u8 0, .int .u8 0, .int .u8 0, .int .u8 0, .int .u8 0, .int .u8 0, .int .u8 0, .int .u8 0, .int .u8 0, .int .u8 0, .int .u8 0, .int .u8 0, .int .u8 0, .int .u8 0, .int .u8 0, .int .u8 0, .int .u8 0, .int .u8 0, .int .u8 0, .int .u8 0, .int .u8 0, .int .u8 0, .int .u8 0, .int .u8 0, .int .u8 0, .int .u8 0, .int .u8 0, .int .u8 0, .int .u8 0]) (t := 24) (Go.heap_alloc_new w5.drew _) HZL.out hbq | skip)))
  · have HF := hide (World.rangeAt_setCells_same _ w'.heap.size 0 sb.toList hth)
    have HBX : Hid (Below w5.heap.size w5 ((w'.alloc (.cells #[.int .u8 0, .int .u8 0, .int .u8 0, .int .u8 0, .int .u8 0, .int .u8 0, .int .u8 0, .int .u8 0, .int .u8 0, .int .u8 0, .int .u8 0, .int .u8 0, .int .u8 0, .int .u8 0, .int .u8 0, .int .u8 0, .int .u8 0, .int .u8 0, .int .u8 0, .int .u8 0, .int .u8 0, .int .u8 0, .int .u8 0, .int .u8 0, .int .u8 0, .int .u8 0, .int .u8 0, .int .u8 0, .int .u8 0, .int .u8 0, .int .u8 0, .int .u8 0] 24)).setCells w'.heap.size 0 sb.toList)) := belowCells hbp.size _ _ _ (hbp.alloc hbp.size _)
    obtain ⟨W6, hW6⟩ : ∃ W6, (w'.alloc (.cells #[.int .u8 0, .int .u8 0, .int .u8 0, .int .u8 0, .int .u8 0, .int .u8 0, .int .u8 0, .int .u8 0, .int .u8 0, .int .u8 0, .int .u8 0, .int .u8 0, .int .u8 0, .int .u8 0, .int .u8 0, .int .u8 0, .int .u8 0, .int .u8 0, .int .u8 0, .int .u8 0, .int .u8 0, .int .u8 0, .int .u8 0, .int .u8 0, .int .u8 0, .int .u8 0, .int .u8 0, .int .u8 0, .int .u8 0, .int .u8 0, .int .u8 0, .int .u8 0] 24)).setCells w'.heap.size 0 sb.toList = W6 := ⟨_, rfl⟩
    rw [hW6] at HF HBX ⊢
    obtain ⟨g6, hg6⟩ : ∃ g6, w'.heap.size = g6 := ⟨_, rfl⟩
    rw [hg6] at HF ⊢
    clear hW6 hg6 hth hbp hbq
    clear hb0 HMC HZL hsv32 honev hi
    have HB6 := hide (HB5.out.trans (HBX.out.mono HB5.out.size))
    have HOK6 := hide (HOK5.out.kept HBX.out)
    have HOM6 := hide (HOM5.out.kept HBX.out)
    have HPM6 := hide (HPM.out.below HBX.out)
    have hw16 : w1.heap.size ≤ W6.heap.size := Nat.le_trans hw15 HBX.out.size
    have hi : (Tryd.prog.info? 24).map (·.size) = some sb.toList.length := by rw [Array.length_toList]; exact f1
    clear HPM HPK HB5 HOK5 HOM5 HBX
    go_wp2_with fail
    have HRG : Hid (∀ wx, Below W6.heap.size W6 wx → wx.rangeAt g6 0 sb.toList) := fun wx hb => range_kept HF.out hb
    have HC0 : Hid (∀ wx, Below W6.heap.size W6 wx → Calls Tryd.prog 11 #[.slice (some ⟨gm, 0, none⟩) m.length capm] wx fun e w' => ∃ v', e = .returned v' ∧ BSl w' v' M2 ∧ w'.rangeAt g6 0 sb.toList ∧ Below W6.heap.size W6 w') := fun wx hb =>
      (copied_any _ M2 wx (HPM6.out.below hb) (by rw [HM2L.out]; omega)).mono (by
        rintro e w' ⟨v', rfl, ho', hb'⟩
        have hbb := hb.trans (hb'.mono hb.size)
        exact ⟨v', rfl, ho'.bsl, HRG.out _ hbb, hbb⟩)
    have HC1 : Hid (∀ vx wx, BSl wx vx M2 → Below W6.heap.size W6 wx → Calls Tryd.prog 8 #[.slice ak k.length ck, vx] wx fun e w' => e = .returned (.agg sb) ∧ w'.rangeAt g6 0 sb.toList ∧ Below W6.heap.size W6 w') := fun vx wx hv hb =>
      (refMac_any _ _ k M2 wx ((HK.out.below HB6.out).below hb) hv hr0 (by rw [HM2L.out]; exact hr1) ((HTB.out.below HB6.out).below hb) ((HTR.out.below HB6.out).below hb)).mono (by
        rintro e w' ⟨rfl, hb'⟩
        have hbb := hb.trans (hb'.mono hb.size)
        exact ⟨by rw [HSV.out], HRG.out _ hbb, hbb⟩)
    have HC2 : Hid (∀ wx, Below W6.heap.size W6 wx → Calls Tryd.prog 7 #[.agg sb, .agg sb] wx fun e w' => e = .returned (.bool true) ∧ w'.rangeAt g6 0 sb.toList ∧ Below W6.heap.size W6 w') := fun wx hb =>
      (HEQ.out wx).mono (by
        rintro e w' ⟨rfl, hb'⟩
        have hbb := hb.trans (hb'.mono hb.size)
        exact ⟨rfl, HRG.out _ hbb, hbb⟩)
    have hb0 : Below W6.heap.size W6 W6.drew := (Below.refl _ _).drew
    have hr0' := HRG.out _ hb0
    go_region_held3 (fun w' => w'.rangeAt g6 0 sb.toList ∧ Below W6.heap.size W6 w') (first | (constructor <;> assumption) | go_keep_ranges)
      (first
        | (go_at_call 11; refine (HC0.out _ (by assumption)).mono ?_; rintro e w' ⟨vq, rfl, hvq, hr1', hb1⟩)
        | (go_at_call 8; refine (HC1.out _ _ (by assumption) (by assumption)).mono ?_; rintro e w' ⟨rfl, hr1', hb1⟩)
        | (go_at_call 7; refine (HC2.out _ (by assumption)).mono ?_; rintro e w' ⟨rfl, hr1', hb1⟩))
    have hbW := ‹Below W6.heap.size W6 w'›
    have HB7 := hide (HB6.out.trans (hbW.mono HB6.out.size))
    have HOK7 := hide (HOK6.out.kept hbW)
    have HOM7 := hide (HOM6.out.kept hbW)
    clear hbW hb0 hr0' HC0 HC1 HC2 HRG HF HB6 HOK6 HOM6 HPM6 HSV HEQ f1 f2 f3 hi hw16
    have HSP := hide (spoil_fine gk capk 51 k.length (k ++ marks 150) w.heap.size w' (by omega) (by rw [HKL.out]; omega) (by rw [HKL.out]; omega) hgk HOK7.out)
    go_wp2_with fail
    refine HSP.out.mono ?_
    rintro e w8 ⟨rfl, hos, hbs, hss, hoth⟩
    have HOM8 : Hid (Own w8 w1.heap.size (.slice (some ⟨gm, 0, none⟩) SM.length capm) SM) := HOM7.out.keptIf (fun g hg => by
      simp only [Value.ownBlock, Option.some.injEq] at hg
      exact hoth g (by rw [← hg]; exact Ne.symm hgne))
    have HB8 := hide (HB7.out.trans hbs)
    have hsl : (spoilL 51 k.length (k ++ marks 150)).length = (k ++ marks 150).length := spoilL_len _ _ _
    have HOK8 : Hid (Own w8 w.heap.size (.slice (some ⟨gk, 0, none⟩) (spoilL 51 k.length (k ++ marks 150)).length capk) (spoilL 51 k.length (k ++ marks 150))) := by rw [hsl]; exact hos
    have HPK8 := hide (HOK8.out.part k.length (by rw [hsl, HKL.out]; omega))
    have HPM8 := hide (HOM8.out.part m.length (by rw [HSPL.out]; omega))
    rw [HM2E.out] at HPM8
    have hK2 : ((spoilL 51 k.length (k ++ marks 150)).take k.length).length = k.length := by rw [List.length_take, hsl, HKL.out]; omega
    generalize spoilL 51 k.length (k ++ marks 150) = SK at *
    obtain ⟨K2, hK2e⟩ : ∃ K2, SK.take k.length = K2 := ⟨_, rfl⟩
    rw [hK2e] at HPK8 hK2
    have HK2L := hide hK2
    clear hos hbs hss hoth hsl HSP HB7 HOK7 HOM7 hK2e hK2
    obtain ⟨f1, f2, f3⟩ := mac_shape K2 M2
    have HEQ := hide (mac_equal K2 M2)
    obtain ⟨sc, hsc⟩ : ∃ sc, ((macL K2 M2).map byteV).toArray = sc := ⟨_, rfl⟩
    rw [hsc] at f1 f2 f3 HEQ
    have HSV := hide hsc
    have hsv32 : sc.toList.length = 32 := by rw [Array.length_toList, ← f2]; rfl
    have honev : ∀ v ∈ sc.toList, v.oneCell' = true := by
      intro v hv
      rw [← hsc] at hv
      exact byteV_oneCell _ v (by simpa using hv)
    have HMC : Hid (∀ wx, Below w8.heap.size w8 wx → Calls Tryd.prog 5 #[.slice (some ⟨gk, 0, none⟩) k.length capk, .slice (some ⟨gm, 0, none⟩) m.length capm] wx fun e w' => e = .returned (.agg sc) ∧ Below w8.heap.size w8 w' ∧ Below wx.heap.size wx w') := fun wx hb =>
      (mac_any _ _ K2 M2 wx (by rw [HK2L.out]; omega) (by rw [HM2L.out]; omega) ((HT.out.below HB8.out).below hb) (HPK8.out.below hb) (HPM8.out.below hb)).mono (by
        rintro e w' ⟨rfl, hb'⟩
        exact ⟨by rw [HSV.out], hb.trans (hb'.mono hb.size), hb'⟩)
    have hi : (Tryd.prog.info? 24).map (·.size) = some sc.toList.length := by rw [Array.length_toList]; exact f1
    have hb0 : Below w8.heap.size w8 w8.drew := (Below.refl _ _).drew
    have HZL : Hid (sc.toList.length ≤ (#[.int .u8 0, .int .u8 0, .int .u8 0, .int .u8 0, .int .u8 0, .int .u8 0, .int .u8 0, .int .u8 0, .int .u8 0, .int .u8 0, .int .u8 0, .int .u8 0, .int .u8 0, .int .u8 0, .int .u8 0, .int .u8 0, .int .u8 0, .int .u8 0, .int .u8 0, .int .u8 0, .int .u8 0, .int .u8 0, .int .u8 0, .int .u8 0, .int .u8 0, .int .u8 0, .int .u8 0, .int .u8 0, .int .u8 0, .int .u8 0, .int .u8 0, .int .u8 0] : Array Value).size) := by show _ ≤ _; rw [hsv32]; decide
    clear hsc
    go_wp2_with fail
    go_region_held3 (fun w' => Below w8.heap.size w8 w') (first | assumption | exact Below.alloc (by assumption) (by first | exact Nat.le_refl _ | exact Below.size (by assumption)) _ | exact belowCells (by first | exact Nat.le_refl _ | exact Below.size (by assumption)) _ _ _ (by first | assumption | exact Below.alloc (by assumption) (by first | exact Nat.le_refl _ | exact Below.size (by assumption)) _))
      (first
        | (go_at_call 5; refine (HMC.out _ (by assumption)).mono ?_; rintro e w' ⟨rfl, hbp, hbq⟩; have hth := there_new w' #[.int .u8 0, .int .u8 0, .int .u8 0, .int .u8 0, .int .u8 0, .int .u8 0, .int .u8 0, .int .u8 0, .int .u8 0, .int .u8 0, .int .u8 0, .int .u8 0, .int .u8 0, .int .u8 0, .int .u8 0, .int .u8 0, .int .u8 0, .int .u8 0, .int .u8 0, .int .u8 0, .int .u8 0, .int .u8 0, .int .u8 0, .int .u8 0, .int .u8 0, .int .u8 0, .int .u8 0, .int .u8 0, .int .u8 0, .int .u8 0, .int .u8 0, .int .u8 0] 24 _ HZL.out; (first | have hth2 := there_kept (g := w8.heap.size) (Z := #[.int .u8 0, .int .u8 0, .int .u8 0, .int .u8 0, .int .u8 0, .int .u8 0, .int .u8 0, .int .u8 0, .int .u8 0, .int .u8 0, .int .u8 0, .int .u8 0, .int .u8 0, .int .u8 0, .int .u8 0, .int .u8 0, .int .u8 0, .int .u8 0, .int .u8 0, .int .u8 0, .int .u8 0, .int .u8 0, .int .u8 0, .int .u8 0, .int .u8 0, .int .u8 0, .int .u8 0, .int .u8 0, .int .u8 0, .int .u8 0, .int .u8 0, .int .u8 0]) (t := 24) (Go.heap_alloc_new w8.drew _) HZL.out hbq | skip)))
    · have HF := hide (World.rangeAt_setCells_same _ w'.heap.size 0 sc.toList hth)
      have HBX : Hid (Below w8.heap.size w8 ((w'.alloc (.cells #[.int .u8 0, .int .u8 0, .int .u8 0, .int .u8 0, .int .u8 0, .int .u8 0, .int .u8 0, .int .u8 0, .int .u8 0, .int .u8 0, .int .u8 0, .int .u8 0, .int .u8 0, .int .u8 0, .int .u8 0, .int .u8 0, .int .u8 0, .int .u8 0, .int .u8 0, .int .u8 0, .int .u8 0, .int .u8 0, .int .u8 0, .int .u8 0, .int .u8 0, .int .u8 0, .int .u8 0, .int .u8 0, .int .u8 0, .int .u8 0, .int .u8 0, .int .u8 0] 24)).setCells w'.heap.size 0 sc.toList)) := belowCells hbp.size _ _ _ (hbp.alloc hbp.size _)
      obtain ⟨W9, hW9⟩ : ∃ W9, (w'.alloc (.cells #[.int .u8 0, .int .u8 0, .int .u8 0, .int .u8 0, .int .u8 0, .int .u8 0, .int .u8 0, .int .u8 0, .int .u8 0, .int .u8 0, .int .u8 0, .int .u8 0, .int .u8 0, .int .u8 0, .int .u8 0, .int .u8 0, .int .u8 0, .int .u8 0, .int .u8 0, .int .u8 0, .int .u8 0, .int .u8 0, .int .u8 0, .int .u8 0, .int .u8 0, .int .u8 0, .int .u8 0, .int .u8 0, .int .u8 0, .int .u8 0, .int .u8 0, .int .u8 0] 24)).setCells w'.heap.size 0 sc.toList = W9 := ⟨_, rfl⟩
      rw [hW9] at HF HBX ⊢
      obtain ⟨g9, hg9⟩ : ∃ g9, w'.heap.size = g9 := ⟨_, rfl⟩
      rw [hg9] at HF ⊢
      clear hW9 hg9 hth hbp hbq
      clear hb0 HMC HZL hsv32 honev hi
      have HB9 := hide (HB8.out.trans (HBX.out.mono HB8.out.size))
      have HPM9 := hide (HPM8.out.below HBX.out)
      have HPK9 := hide (HPK8.out.below HBX.out)
      clear HB8 HPM8 HPK8 HOK8 HOM8
      have hi : (Tryd.prog.info? 24).map (·.size) = some sc.toList.length := by rw [Array.length_toList]; exact f1
      clear HBX
      go_wp2_with fail
      have HRG : Hid (∀ wx, Below W9.heap.size W9 wx → wx.rangeAt g9 0 sc.toList) := fun wx hb => range_kept HF.out hb
      have HC0 : Hid (∀ wx, Below W9.heap.size W9 wx → Calls Tryd.prog 11 #[.slice (some ⟨gk, 0, none⟩) k.length capk] wx fun e w' => ∃ v', e = .returned v' ∧ BSl w' v' K2 ∧ w'.rangeAt g9 0 sc.toList ∧ Below W9.heap.size W9 w') := fun wx hb =>
        (copied_any _ K2 wx (HPK9.out.below hb) (by rw [HK2L.out]; omega)).mono (by
          rintro e w' ⟨v', rfl, ho', hb'⟩
          have hbb := hb.trans (hb'.mono hb.size)
          exact ⟨v', rfl, ho'.bsl, HRG.out _ hbb, hbb⟩)
      have HC3 : Hid (∀ vk wx, BSl wx vk K2 → Below W9.heap.size W9 wx → Calls Tryd.prog 11 #[.slice (some ⟨gm, 0, none⟩) m.length capm] wx fun e w' => ∃ v', e = .returned v' ∧ BSl w' v' M2 ∧ BSl w' vk K2 ∧ w'.rangeAt g9 0 sc.toList ∧ Below W9.heap.size W9 w') := fun vk wx hk hb =>
        (copied_any _ M2 wx (HPM9.out.below hb) (by rw [HM2L.out]; omega)).mono (by
          rintro e w' ⟨v', rfl, ho', hb'⟩
          have hbb := hb.trans (hb'.mono hb.size)
          exact ⟨v', rfl, ho'.bsl, hk.below hb', HRG.out _ hbb, hbb⟩)
      have HC1 : Hid (∀ vk vx wx, BSl wx vk K2 → BSl wx vx M2 → Below W9.heap.size W9 wx → Calls Tryd.prog 8 #[vk, vx] wx fun e w' => e = .returned (.agg sc) ∧ w'.rangeAt g9 0 sc.toList ∧ Below W9.heap.size W9 w') := fun vk vx wx hk hv hb =>
        (refMac_any _ _ K2 M2 wx hk hv (by rw [HK2L.out]; exact hr0) (by rw [HM2L.out]; exact hr1) ((HTB.out.below HB9.out).below hb) ((HTR.out.below HB9.out).below hb)).mono (by
          rintro e w' ⟨rfl, hb'⟩
          have hbb := hb.trans (hb'.mono hb.size)
          exact ⟨by rw [HSV.out], HRG.out _ hbb, hbb⟩)
      have HC2 : Hid (∀ wx, Below W9.heap.size W9 wx → Calls Tryd.prog 7 #[.agg sc, .agg sc] wx fun e w' => e = .returned (.bool true) ∧ w'.rangeAt g9 0 sc.toList ∧ Below W9.heap.size W9 w') := fun wx hb =>
        (HEQ.out wx).mono (by
          rintro e w' ⟨rfl, hb'⟩
          have hbb := hb.trans (hb'.mono hb.size)
          exact ⟨rfl, HRG.out _ hbb, hbb⟩)
      have hb0 : Below W9.heap.size W9 W9.drew := (Below.refl _ _).drew
      have hr0' := HRG.out _ hb0
      go_region_held3 (fun w' => w'.rangeAt g9 0 sc.toList ∧ Below W9.heap.size W9 w') (first | (constructor <;> assumption) | go_keep_ranges)
        (first
          | (go_at_call 11; with_reducible refine (HC0.out _ (by assumption)).mono ?_; rintro e w' ⟨vp, rfl, hvp, hr1', hb1⟩)
          | (go_at_call 11; with_reducible refine (HC3.out _ _ (by assumption) (by assumption)).mono ?_; rintro e w' ⟨vq, rfl, hvq, hvp, hr1', hb1⟩)
          | (go_at_call 8; refine (HC1.out _ _ _ (by assumption) (by assumption) (by assumption)).mono ?_; rintro e w' ⟨rfl, hr1', hb1⟩)
          | (go_at_call 7; refine (HC2.out _ (by assumption)).mono ?_; rintro e w' ⟨rfl, hr1', hb1⟩))
      have hbW := ‹Below W9.heap.size W9 w'›
      have HBF := hide (HB9.out.trans (hbW.mono HB9.out.size))
      go_wp2
      go_ret
      exact ⟨rfl, HBF.out⟩
    · have HF := hide (World.rangeAt_setCells_same w' w8.heap.size 0 sc.toList hth2)
      have HBX : Hid (Below w8.heap.size w8 (w'.setCells w8.heap.size 0 sc.toList)) := belowCells (Nat.le_refl _) _ _ _ hbp
      obtain ⟨W9, hW9⟩ : ∃ W9, w'.setCells w8.heap.size 0 sc.toList = W9 := ⟨_, rfl⟩
      rw [hW9] at HF HBX ⊢
      obtain ⟨g9, hg9⟩ : ∃ g9, w8.heap.size = g9 := ⟨_, rfl⟩
      rw [hg9] at HF ⊢
      clear hW9 hg9 hth hth2 hbp hbq
      clear hb0 HMC HZL hsv32 honev hi
      have HB9 := hide (HB8.out.trans (HBX.out.mono HB8.out.size))
      have HPM9 := hide (HPM8.out.below HBX.out)
      have HPK9 := hide (HPK8.out.below HBX.out)
      clear HB8 HPM8 HPK8 HOK8 HOM8
      have hi : (Tryd.prog.info? 24).map (·.size) = some sc.toList.length := by rw [Array.length_toList]; exact f1
      clear HBX
      go_wp2_with fail
      have HRG : Hid (∀ wx, Below W9.heap.size W9 wx → wx.rangeAt g9 0 sc.toList) := fun wx hb => range_kept HF.out hb
      have HC0 : Hid (∀ wx, Below W9.heap.size W9 wx → Calls Tryd.prog 11 #[.slice (some ⟨gk, 0, none⟩) k.length capk] wx fun e w' => ∃ v', e = .returned v' ∧ BSl w' v' K2 ∧ w'.rangeAt g9 0 sc.toList ∧ Below W9.heap.size W9 w') := fun wx hb =>
        (copied_any _ K2 wx (HPK9.out.below hb) (by rw [HK2L.out]; omega)).mono (by
          rintro e w' ⟨v', rfl, ho', hb'⟩
          have hbb := hb.trans (hb'.mono hb.size)
          exact ⟨v', rfl, ho'.bsl, HRG.out _ hbb, hbb⟩)
      have HC3 : Hid (∀ vk wx, BSl wx vk K2 → Below W9.heap.size W9 wx → Calls Tryd.prog 11 #[.slice (some ⟨gm, 0, none⟩) m.length capm] wx fun e w' => ∃ v', e = .returned v' ∧ BSl w' v' M2 ∧ BSl w' vk K2 ∧ w'.rangeAt g9 0 sc.toList ∧ Below W9.heap.size W9 w') := fun vk wx hk hb =>
        (copied_any _ M2 wx (HPM9.out.below hb) (by rw [HM2L.out]; omega)).mono (by
          rintro e w' ⟨v', rfl, ho', hb'⟩
          have hbb := hb.trans (hb'.mono hb.size)
          exact ⟨v', rfl, ho'.bsl, hk.below hb', HRG.out _ hbb, hbb⟩)
      have HC1 : Hid (∀ vk vx wx, BSl wx vk K2 → BSl wx vx M2 → Below W9.heap.size W9 wx → Calls Tryd.prog 8 #[vk, vx] wx fun e w' => e = .returned (.agg sc) ∧ w'.rangeAt g9 0 sc.toList ∧ Below W9.heap.size W9 w') := fun vk vx wx hk hv hb =>
        (refMac_any _ _ K2 M2 wx hk hv (by rw [HK2L.out]; exact hr0) (by rw [HM2L.out]; exact hr1) ((HTB.out.below HB9.out).below hb) ((HTR.out.below HB9.out).below hb)).mono (by
          rintro e w' ⟨rfl, hb'⟩
          have hbb := hb.trans (hb'.mono hb.size)
          exact ⟨by rw [HSV.out], HRG.out _ hbb, hbb⟩)
      have HC2 : Hid (∀ wx, Below W9.heap.size W9 wx → Calls Tryd.prog 7 #[.agg sc, .agg sc] wx fun e w' => e = .returned (.bool true) ∧ w'.rangeAt g9 0 sc.toList ∧ Below W9.heap.size W9 w') := fun wx hb =>
        (HEQ.out wx).mono (by
          rintro e w' ⟨rfl, hb'⟩
          have hbb := hb.trans (hb'.mono hb.size)
          exact ⟨rfl, HRG.out _ hbb, hbb⟩)
      have hb0 : Below W9.heap.size W9 W9.drew := (Below.refl _ _).drew
      have hr0' := HRG.out _ hb0
      go_region_held3 (fun w' => w'.rangeAt g9 0 sc.toList ∧ Below W9.heap.size W9 w') (first | (constructor <;> assumption) | go_keep_ranges)
        (first
          | (go_at_call 11; with_reducible refine (HC0.out _ (by assumption)).mono ?_; rintro e w' ⟨vp, rfl, hvp, hr1', hb1⟩)
          | (go_at_call 11; with_reducible refine (HC3.out _ _ (by assumption) (by assumption)).mono ?_; rintro e w' ⟨vq, rfl, hvq, hvp, hr1', hb1⟩)
          | (go_at_call 8; refine (HC1.out _ _ _ (by assumption) (by assumption) (by assumption)).mono ?_; rintro e w' ⟨rfl, hr1', hb1⟩)
          | (go_at_call 7; refine (HC2.out _ (by assumption)).mono ?_; rintro e w' ⟨rfl, hr1', hb1⟩))
      have hbW := ‹Below W9.heap.size W9 w'›
      have HBF := hide (HB9.out.trans (hbW.mono HB9.out.size))
      go_wp2
      go_ret
      exact ⟨rfl, HBF.out⟩
  · have HF := hide (World.rangeAt_setCells_same w' w5.heap.size 0 sb.toList hth2)
    have HBX : Hid (Below w5.heap.size w5 (w'.setCells w5.heap.size 0 sb.toList)) := belowCells (Nat.le_refl _) _ _ _ hbp
    obtain ⟨W6, hW6⟩ : ∃ W6, w'.setCells w5.heap.size 0 sb.toList = W6 := ⟨_, rfl⟩
    rw [hW6] at HF HBX ⊢
    obtain ⟨g6, hg6⟩ : ∃ g6, w5.heap.size = g6 := ⟨_, rfl⟩
    rw [hg6] at HF ⊢
    clear hW6 hg6 hth hth2 hbp hbq
    clear hb0 HMC HZL hsv32 honev hi
    have HB6 := hide (HB5.out.trans (HBX.out.mono HB5.out.size))
    have HOK6 := hide (HOK5.out.kept HBX.out)
    have HOM6 := hide (HOM5.out.kept HBX.out)
    have HPM6 := hide (HPM.out.below HBX.out)
    have hw16 : w1.heap.size ≤ W6.heap.size := Nat.le_trans hw15 HBX.out.size
    have hi : (Tryd.prog.info? 24).map (·.size) = some sb.toList.length := by rw [Array.length_toList]; exact f1
    clear HPM HPK HB5 HOK5 HOM5 HBX
    go_wp2_with fail
    have HRG : Hid (∀ wx, Below W6.heap.size W6 wx → wx.rangeAt g6 0 sb.toList) := fun wx hb => range_kept HF.out hb
    have HC0 : Hid (∀ wx, Below W6.heap.size W6 wx → Calls Tryd.prog 11 #[.slice (some ⟨gm, 0, none⟩) m.length capm] wx fun e w' => ∃ v', e = .returned v' ∧ BSl w' v' M2 ∧ w'.rangeAt g6 0 sb.toList ∧ Below W6.heap.size W6 w') := fun wx hb =>
      (copied_any _ M2 wx (HPM6.out.below hb) (by rw [HM2L.out]; omega)).mono (by
        rintro e w' ⟨v', rfl, ho', hb'⟩
        have hbb := hb.trans (hb'.mono hb.size)
        exact ⟨v', rfl, ho'.bsl, HRG.out _ hbb, hbb⟩)
    have HC1 : Hid (∀ vx wx, BSl wx vx M2 → Below W6.heap.size W6 wx → Calls Tryd.prog 8 #[.slice ak k.length ck, vx] wx fun e w' => e = .returned (.agg sb) ∧ w'.rangeAt g6 0 sb.toList ∧ Below W6.heap.size W6 w') := fun vx wx hv hb =>
      (refMac_any _ _ k M2 wx ((HK.out.below HB6.out).below hb) hv hr0 (by rw [HM2L.out]; exact hr1) ((HTB.out.below HB6.out).below hb) ((HTR.out.below HB6.out).below hb)).mono (by
        rintro e w' ⟨rfl, hb'⟩
        have hbb := hb.trans (hb'.mono hb.size)
        exact ⟨by rw [HSV.out], HRG.out _ hbb, hbb⟩)
    have HC2 : Hid (∀ wx, Below W6.heap.size W6 wx → Calls Tryd.prog 7 #[.agg sb, .agg sb] wx fun e w' => e = .returned (.bool true) ∧ w'.rangeAt g6 0 sb.toList ∧ Below W6.heap.size W6 w') := fun wx hb =>
      (HEQ.out wx).mono (by
        rintro e w' ⟨rfl, hb'⟩
        have hbb := hb.trans (hb'.mono hb.size)
        exact ⟨rfl, HRG.out _ hbb, hbb⟩)
    have hb0 : Below W6.heap.size W6 W6.drew := (Below.refl _ _).drew
    have hr0' := HRG.out _ hb0
    go_region_held3 (fun w' => w'.rangeAt g6 0 sb.toList ∧ Below W6.heap.size W6 w') (first | (constructor <;> assumption) | go_keep_ranges)
      (first
        | (go_at_call 11; refine (HC0.out _ (by assumption)).mono ?_; rintro e w' ⟨vq, rfl, hvq, hr1', hb1⟩)
        | (go_at_call 8; refine (HC1.out _ _ (by assumption) (by assumption)).mono ?_; rintro e w' ⟨rfl, hr1', hb1⟩)
        | (go_at_call 7; refine (HC2.out _ (by assumption)).mono ?_; rintro e w' ⟨rfl, hr1', hb1⟩))
    have hbW := ‹Below W6.heap.size W6 w'›
    have HB7 := hide (HB6.out.trans (hbW.mono HB6.out.size))
    have HOK7 := hide (HOK6.out.kept hbW)
    have HOM7 := hide (HOM6.out.kept hbW)
    clear hbW hb0 hr0' HC0 HC1 HC2 HRG HF HB6 HOK6 HOM6 HPM6 HSV HEQ f1 f2 f3 hi hw16
    have HSP := hide (spoil_fine gk capk 51 k.length (k ++ marks 150) w.heap.size w' (by omega) (by rw [HKL.out]; omega) (by rw [HKL.out]; omega) hgk HOK7.out)
    go_wp2_with fail
    refine HSP.out.mono ?_
    rintro e w8 ⟨rfl, hos, hbs, hss, hoth⟩
    have HOM8 : Hid (Own w8 w1.heap.size (.slice (some ⟨gm, 0, none⟩) SM.length capm) SM) := HOM7.out.keptIf (fun g hg => by
      simp only [Value.ownBlock, Option.some.injEq] at hg
      exact hoth g (by rw [← hg]; exact Ne.symm hgne))
    have HB8 := hide (HB7.out.trans hbs)
    have hsl : (spoilL 51 k.length (k ++ marks 150)).length = (k ++ marks 150).length := spoilL_len _ _ _
    have HOK8 : Hid (Own w8 w.heap.size (.slice (some ⟨gk, 0, none⟩) (spoilL 51 k.length (k ++ marks 150)).length capk) (spoilL 51 k.length (k ++ marks 150))) := by rw [hsl]; exact hos
    have HPK8 := hide (HOK8.out.part k.length (by rw [hsl, HKL.out]; omega))
    have HPM8 := hide (HOM8.out.part m.length (by rw [HSPL.out]; omega))
    rw [HM2E.out] at HPM8
    have hK2 : ((spoilL 51 k.length (k ++ marks 150)).take k.length).length = k.length := by rw [List.length_take, hsl, HKL.out]; omega
    generalize spoilL 51 k.length (k ++ marks 150) = SK at *
    obtain ⟨K2, hK2e⟩ : ∃ K2, SK.take k.length = K2 := ⟨_, rfl⟩
    rw [hK2e] at HPK8 hK2
    have HK2L := hide hK2
    clear hos hbs hss hoth hsl HSP HB7 HOK7 HOM7 hK2e hK2
    obtain ⟨f1, f2, f3⟩ := mac_shape K2 M2
    have HEQ := hide (mac_equal K2 M2)
    obtain ⟨sc, hsc⟩ : ∃ sc, ((macL K2 M2).map byteV).toArray = sc := ⟨_, rfl⟩
    rw [hsc] at f1 f2 f3 HEQ
    have HSV := hide hsc
    have hsv32 : sc.toList.length = 32 := by rw [Array.length_toList, ← f2]; rfl
    have honev : ∀ v ∈ sc.toList, v.oneCell' = true := by
      intro v hv
      rw [← hsc] at hv
      exact byteV_oneCell _ v (by simpa using hv)
    have HMC : Hid (∀ wx, Below w8.heap.size w8 wx → Calls Tryd.prog 5 #[.slice (some ⟨gk, 0, none⟩) k.length capk, .slice (some ⟨gm, 0, none⟩) m.length capm] wx fun e w' => e = .returned (.agg sc) ∧ Below w8.heap.size w8 w' ∧ Below wx.heap.size wx w') := fun wx hb =>
      (mac_any _ _ K2 M2 wx (by rw [HK2L.out]; omega) (by rw [HM2L.out]; omega) ((HT.out.below HB8.out).below hb) (HPK8.out.below hb) (HPM8.out.below hb)).mono (by
        rintro e w' ⟨rfl, hb'⟩
        exact ⟨by rw [HSV.out], hb.trans (hb'.mono hb.size), hb'⟩)
    have hi : (Tryd.prog.info? 24).map (·.size) = some sc.toList.length := by rw [Array.length_toList]; exact f1
    have hb0 : Below w8.heap.size w8 w8.drew := (Below.refl _ _).drew
    have HZL : Hid (sc.toList.length ≤ (#[.int .u8 0, .int .u8 0, .int .u8 0, .int .u8 0, .int .u8 0, .int .u8 0, .int .u8 0, .int .u8 0, .int .u8 0, .int .u8 0, .int .u8 0, .int .u8 0, .int .u8 0, .int .u8 0, .int .u8 0, .int .u8 0, .int .u8 0, .int .u8 0, .int .u8 0, .int .u8 0, .int .u8 0, .int .u8 0, .int .u8 0, .int .u8 0, .int .u8 0, .int .u8 0, .int .u8 0, .int .u8 0, .int .u8 0, .int .u8 0, .int .u8 0, .int .u8 0] : Array Value).size) := by show _ ≤ _; rw [hsv32]; decide
    clear hsc
    go_wp2_with fail
    go_region_held3 (fun w' => Below w8.heap.size w8 w') (first | assumption | exact Below.alloc (by assumption) (by first | exact Nat.le_refl _ | exact Below.size (by assumption)) _ | exact belowCells (by first | exact Nat.le_refl _ | exact Below.size (by assumption)) _ _ _ (by first | assumption | exact Below.alloc (by assumption) (by first | exact Nat.le_refl _ | exact Below.size (by assumption)) _))
      (first
        | (go_at_call 5; refine (HMC.out _ (by assumption)).mono ?_; rintro e w' ⟨rfl, hbp, hbq⟩; have hth := there_new w' #[.int .u8 0, .int .u8 0, .int .u8 0, .int .u8 0, .int .u8 0, .int .u8 0, .int .u8 0, .int .u8 0, .int .u8 0, .int .u8 0, .int .u8 0, .int .u8 0, .int .u8 0, .int .u8 0, .int .u8 0, .int .u8 0, .int .u8 0, .int .u8 0, .int .u8 0, .int .u8 0, .int .u8 0, .int .u8 0, .int .u8 0, .int .u8 0, .int .u8 0, .int .u8 0, .int .u8 0, .int .u8 0, .int .u8 0, .int .u8 0, .int .u8 0, .int .u8 0] 24 _ HZL.out; (first | have hth2 := there_kept (g := w8.heap.size) (Z := #[.int .u8 0, .int .u8 0, .int .u8 0, .int .u8 0, .int .u8 0, .int .u8 0, .int .u8 0, .int .u8 0, .int .u8 0, .int .u8 0, .int .u8 0, .int .u8 0, .int .u8 0, .int .u8 0, .int .u8 0, .int .u8 0, .int .u8 0, .int .u8 0, .int .u8 0, .int .u8 0, .int .u8 0, .int .u8 0, .int .u8 0, .int .u8 0, .int .u8 0, .int .u8 0, .int .u8 0, .int .u8 0, .int .u8 0, .int .u8 0, .int .u8 0, .int .u8 0]) (t := 24) (Go.heap_alloc_new w8.drew _) HZL.out hbq | skip)))
    · have HF := hide (World.rangeAt_setCells_same _ w'.heap.size 0 sc.toList hth)
      have HBX : Hid (Below w8.heap.size w8 ((w'.alloc (.cells #[.int .u8 0, .int .u8 0, .int .u8 0, .int .u8 0, .int .u8 0, .int .u8 0, .int .u8 0, .int .u8 0, .int .u8 0, .int .u8 0, .int .u8 0, .int .u8 0, .int .u8 0, .int .u8 0, .int .u8 0, .int .u8 0, .int .u8 0, .int .u8 0, .int .u8 0, .int .u8 0, .int .u8 0, .int .u8 0, .int .u8 0, .int .u8 0, .int .u8 0, .int .u8 0, .int .u8 0, .int .u8 0, .int .u8 0, .int .u8 0, .int .u8 0, .int .u8 0] 24)).setCells w'.heap.size 0 sc.toList)) := belowCells hbp.size _ _ _ (hbp.alloc hbp.size _)
      obtain ⟨W9, hW9⟩ : ∃ W9, (w'.alloc (.cells #[.int .u8 0, .int .u8 0, .int .u8 0, .int .u8 0, .int .u8 0, .int .u8 0, .int .u8 0, .int .u8 0, .int .u8 0, .int .u8 0, .int .u8 0, .int .u8 0, .int .u8 0, .int .u8 0, .int .u8 0, .int .u8 0, .int .u8 0, .int .u8 0, .int .u8 0, .int .u8 0, .int .u8 0, .int .u8 0, .int .u8 0, .int .u8 0, .int .u8 0, .int .u8 0, .int .u8 0, .int .u8 0, .int .u8 0, .int .u8 0, .int .u8 0, .int .u8 0] 24)).setCells w'.heap.size 0 sc.toList = W9 := ⟨_, rfl⟩
      rw [hW9] at HF HBX ⊢
      obtain ⟨g9, hg9⟩ : ∃ g9, w'.heap.size = g9 := ⟨_, rfl⟩
      rw [hg9] at HF ⊢
      clear hW9 hg9 hth hbp hbq
      clear hb0 HMC HZL hsv32 honev hi
      have HB9 := hide (HB8.out.trans (HBX.out.mono HB8.out.size))
      have HPM9 := hide (HPM8.out.below HBX.out)
      have HPK9 := hide (HPK8.out.below HBX.out)
      clear HB8 HPM8 HPK8 HOK8 HOM8
      have hi : (Tryd.prog.info? 24).map (·.size) = some sc.toList.length := by rw [Array.length_toList]; exact f1
      clear HBX
      go_wp2_with fail
      have HRG : Hid (∀ wx, Below W9.heap.size W9 wx → wx.rangeAt g9 0 sc.toList) := fun wx hb => range_kept HF.out hb
      have HC0 : Hid (∀ wx, Below W9.heap.size W9 wx → Calls Tryd.prog 11 #[.slice (some ⟨gk, 0, none⟩) k.length capk] wx fun e w' => ∃ v', e = .returned v' ∧ BSl w' v' K2 ∧ w'.rangeAt g9 0 sc.toList ∧ Below W9.heap.size W9 w') := fun wx hb =>
        (copied_any _ K2 wx (HPK9.out.below hb) (by rw [HK2L.out]; omega)).mono (by
          rintro e w' ⟨v', rfl, ho', hb'⟩
          have hbb := hb.trans (hb'.mono hb.size)
          exact ⟨v', rfl, ho'.bsl, HRG.out _ hbb, hbb⟩)
      have HC3 : Hid (∀ vk wx, BSl wx vk K2 → Below W9.heap.size W9 wx → Calls Tryd.prog 11 #[.slice (some ⟨gm, 0, none⟩) m.length capm] wx fun e w' => ∃ v', e = .returned v' ∧ BSl w' v' M2 ∧ BSl w' vk K2 ∧ w'.rangeAt g9 0 sc.toList ∧ Below W9.heap.size W9 w') := fun vk wx hk hb =>
        (copied_any _ M2 wx (HPM9.out.below hb) (by rw [HM2L.out]; omega)).mono (by
          rintro e w' ⟨v', rfl, ho', hb'⟩
          have hbb := hb.trans (hb'.mono hb.size)
          exact ⟨v', rfl, ho'.bsl, hk.below hb', HRG.out _ hbb, hbb⟩)
      have HC1 : Hid (∀ vk vx wx, BSl wx vk K2 → BSl wx vx M2 → Below W9.heap.size W9 wx → Calls Tryd.prog 8 #[vk, vx] wx fun e w' => e = .returned (.agg sc) ∧ w'.rangeAt g9 0 sc.toList ∧ Below W9.heap.size W9 w') := fun vk vx wx hk hv hb =>
        (refMac_any _ _ K2 M2 wx hk hv (by rw [HK2L.out]; exact hr0) (by rw [HM2L.out]; exact hr1) ((HTB.out.below HB9.out).below hb) ((HTR.out.below HB9.out).below hb)).mono (by
          rintro e w' ⟨rfl, hb'⟩
          have hbb := hb.trans (hb'.mono hb.size)
          exact ⟨by rw [HSV.out], HRG.out _ hbb, hbb⟩)
      have HC2 : Hid (∀ wx, Below W9.heap.size W9 wx → Calls Tryd.prog 7 #[.agg sc, .agg sc] wx fun e w' => e = .returned (.bool true) ∧ w'.rangeAt g9 0 sc.toList ∧ Below W9.heap.size W9 w') := fun wx hb =>
        (HEQ.out wx).mono (by
          rintro e w' ⟨rfl, hb'⟩
          have hbb := hb.trans (hb'.mono hb.size)
          exact ⟨rfl, HRG.out _ hbb, hbb⟩)
      have hb0 : Below W9.heap.size W9 W9.drew := (Below.refl _ _).drew
      have hr0' := HRG.out _ hb0
      go_region_held3 (fun w' => w'.rangeAt g9 0 sc.toList ∧ Below W9.heap.size W9 w') (first | (constructor <;> assumption) | go_keep_ranges)
        (first
          | (go_at_call 11; with_reducible refine (HC0.out _ (by assumption)).mono ?_; rintro e w' ⟨vp, rfl, hvp, hr1', hb1⟩)
          | (go_at_call 11; with_reducible refine (HC3.out _ _ (by assumption) (by assumption)).mono ?_; rintro e w' ⟨vq, rfl, hvq, hvp, hr1', hb1⟩)
          | (go_at_call 8; refine (HC1.out _ _ _ (by assumption) (by assumption) (by assumption)).mono ?_; rintro e w' ⟨rfl, hr1', hb1⟩)
          | (go_at_call 7; refine (HC2.out _ (by assumption)).mono ?_; rintro e w' ⟨rfl, hr1', hb1⟩))
      have hbW := ‹Below W9.heap.size W9 w'›
      have HBF := hide (HB9.out.trans (hbW.mono HB9.out.size))
      go_wp2
      go_ret
      exact ⟨rfl, HBF.out⟩
    · have HF := hide (World.rangeAt_setCells_same w' w8.heap.size 0 sc.toList hth2)
      have HBX : Hid (Below w8.heap.size w8 (w'.setCells w8.heap.size 0 sc.toList)) := belowCells (Nat.le_refl _) _ _ _ hbp
      obtain ⟨W9, hW9⟩ : ∃ W9, w'.setCells w8.heap.size 0 sc.toList = W9 := ⟨_, rfl⟩
      rw [hW9] at HF HBX ⊢
      obtain ⟨g9, hg9⟩ : ∃ g9, w8.heap.size = g9 := ⟨_, rfl⟩
      rw [hg9] at HF ⊢
      clear hW9 hg9 hth hth2 hbp hbq
      clear hb0 HMC HZL hsv32 honev hi
      have HB9 := hide (HB8.out.trans (HBX.out.mono HB8.out.size))
      have HPM9 := hide (HPM8.out.below HBX.out)
      have HPK9 := hide (HPK8.out.below HBX.out)
      clear HB8 HPM8 HPK8 HOK8 HOM8
      have hi : (Tryd.prog.info? 24).map (·.size) = some sc.toList.length := by rw [Array.length_toList]; exact f1
      clear HBX
      go_wp2_with fail
      have HRG : Hid (∀ wx, Below W9.heap.size W9 wx → wx.rangeAt g9 0 sc.toList) := fun wx hb => range_kept HF.out hb
      have HC0 : Hid (∀ wx, Below W9.heap.size W9 wx → Calls Tryd.prog 11 #[.slice (some ⟨gk, 0, none⟩) k.length capk] wx fun e w' => ∃ v', e = .returned v' ∧ BSl w' v' K2 ∧ w'.rangeAt g9 0 sc.toList ∧ Below W9.heap.size W9 w') := fun wx hb =>
        (copied_any _ K2 wx (HPK9.out.below hb) (by rw [HK2L.out]; omega)).mono (by
          rintro e w' ⟨v', rfl, ho', hb'⟩
          have hbb := hb.trans (hb'.mono hb.size)
          exact ⟨v', rfl, ho'.bsl, HRG.out _ hbb, hbb⟩)
      have HC3 : Hid (∀ vk wx, BSl wx vk K2 → Below W9.heap.size W9 wx → Calls Tryd.prog 11 #[.slice (some ⟨gm, 0, none⟩) m.length capm] wx fun e w' => ∃ v', e = .returned v' ∧ BSl w' v' M2 ∧ BSl w' vk K2 ∧ w'.rangeAt g9 0 sc.toList ∧ Below W9.heap.size W9 w') := fun vk wx hk hb =>
        (copied_any _ M2 wx (HPM9.out.below hb) (by rw [HM2L.out]; omega)).mono (by
          rintro e w' ⟨v', rfl, ho', hb'⟩
          have hbb := hb.trans (hb'.mono hb.size)
          exact ⟨v', rfl, ho'.bsl, hk.below hb', HRG.out _ hbb, hbb⟩)
      have HC1 : Hid (∀ vk vx wx, BSl wx vk K2 → BSl wx vx M2 → Below W9.heap.size W9 wx → Calls Tryd.prog 8 #[vk, vx] wx fun e w' => e = .returned (.agg sc) ∧ w'.rangeAt g9 0 sc.toList ∧ Below W9.heap.size W9 w') := fun vk vx wx hk hv hb =>
        (refMac_any _ _ K2 M2 wx hk hv (by rw [HK2L.out]; exact hr0) (by rw [HM2L.out]; exact hr1) ((HTB.out.below HB9.out).below hb) ((HTR.out.below HB9.out).below hb)).mono (by
          rintro e w' ⟨rfl, hb'⟩
          have hbb := hb.trans (hb'.mono hb.size)
          exact ⟨by rw [HSV.out], HRG.out _ hbb, hbb⟩)
      have HC2 : Hid (∀ wx, Below W9.heap.size W9 wx → Calls Tryd.prog 7 #[.agg sc, .agg sc] wx fun e w' => e = .returned (.bool true) ∧ w'.rangeAt g9 0 sc.toList ∧ Below W9.heap.size W9 w') := fun wx hb =>
        (HEQ.out wx).mono (by
          rintro e w' ⟨rfl, hb'⟩
          have hbb := hb.trans (hb'.mono hb.size)
          exact ⟨rfl, HRG.out _ hbb, hbb⟩)
      have hb0 : Below W9.heap.size W9 W9.drew := (Below.refl _ _).drew
      have hr0' := HRG.out _ hb0
      go_region_held3 (fun w' => w'.rangeAt g9 0 sc.toList ∧ Below W9.heap.size W9 w') (first | (constructor <;> assumption) | go_keep_ranges)
        (first
          | (go_at_call 11; with_reducible refine (HC0.out _ (by assumption)).mono ?_; rintro e w' ⟨vp, rfl, hvp, hr1', hb1⟩)
          | (go_at_call 11; with_reducible refine (HC3.out _ _ (by assumption) (by assumption)).mono ?_; rintro e w' ⟨vq, rfl, hvq, hvp, hr1', hb1⟩)
          | (go_at_call 8; refine (HC1.out _ _ _ (by assumption) (by assumption) (by assumption)).mono ?_; rintro e w' ⟨rfl, hr1', hb1⟩)
          | (go_at_call 7; refine (HC2.out _ (by assumption)).mono ?_; rintro e w' ⟨rfl, hr1', hb1⟩))
      have hbW := ‹Below W9.heap.size W9 w'›
      have HBF := hide (HB9.out.trans (hbW.mono HB9.out.size))
      go_wp2
      go_ret
      exact ⟨rfl, HBF.out⟩
end Go.Proofs.YtbkcenpohcjgnacDoor
