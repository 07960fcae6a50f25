import Derived.Test.YtbkcenpohcjgnabDoorPublished
import Derived.Test.YtbkcenpohcjgnabDoorJoin
import Derived.Test.YtbkcenpohcjgnabDoorCount
import Derived.Test.YtbkcenpohcjgnabDoorUpTo
namespace Go.Proofs.YtbkcenpohcjgnabDoor
open Go.RowKit
open Num
set_option linter.unusedVariables false
set_option linter.unusedSimpArgs false

theorem keyL_long {k : List Nat} (h : 64 < k.length) : keyL (shaL k) = keyL k := by
  unfold keyL
  rw [if_neg (by rw [shaL_len]; omega), if_pos h, shaL_len]
theorem keyL_short {k : List Nat} (h : k.length < 64) : keyL (k ++ [0]) = keyL k := by
  unfold keyL
  rw [if_neg (by simp; omega), if_neg (by omega), List.length_append, List.append_assoc]
  congr 1
  rw [show 64 - k.length = (64 - (k.length + 1)) + 1 by omega, List.replicate_succ]
  rfl
theorem macL_long {k : List Nat} (m : List Nat) (h : 64 < k.length) : macL (shaL k) m = macL k m := by rw [macL, macL, keyL_long h]
theorem macL_short {k : List Nat} (m : List Nat) (h : k.length < 64) : macL (k ++ [0]) m = macL k m := by rw [macL, macL, keyL_short h]

theorem cell_one (w : World) (v : Value) (t : TypeId) : ∀ j u, [v][j]? = some u → (w.alloc (.cells #[v] t)).cell? ((⟨w.heap.size, 0, none⟩ : Addr).add j) = some u := by
  intro j u hu
  rw [Addr.add_lit, cell_of_row _ _ _ _ _ _ (Go.heap_alloc_new w _), Nat.zero_add]
  simpa using hu
theorem own_zero {wx : World} {base : Nat} {vx : Value} {L : List Nat} (hb : ∀ b ∈ L, b < 256) (h : wx.ownsRow base 5 1 vx (L.length + 1) (L.map byteV ++ [.int .u8 0])) : Own wx base vx (L ++ [0]) := by
  refine ⟨by rw [List.length_append, List.map_append]; exact h, fun b hb' => ?_⟩
  rcases List.mem_append.1 hb' with h1 | h1
  · exact hb b h1
  · have := List.mem_singleton.1 h1; omega
theorem Own.le {w : World} {b b' : Nat} {v : Value} {l : List Nat} (h : Own w b v l) (hb : b' ≤ b) : Own w b' v l := ⟨Joins.ownsRow_le h.1 hb, h.2⟩
theorem rep_snoc (L : List Nat) (j : Nat) : (L ++ List.replicate j 0) ++ [0] = L ++ List.replicate (j + 1) 0 := by
  rw [List.append_assoc, List.replicate_succ']

set_option maxRecDepth 100000 in
set_option maxHeartbeats 1000000 in
theorem keys_walk (vk vm : Value) (k m : List Nat) (w : World) (hT : Tabs w) (hk : BSl w vk k) (hm : BSl w vm m) (hr : k.length ≤ 140737488351232) (hr2 : m.length ≤ 140737488351232) :
    Calls Tryd.prog 4 #[vk, vm] w fun e w' => e = .returned (.bool true) ∧ Below w.heap.size w w' := by
  have HT := hide hT
  have HK := hide hk
  have HM := hide hm
  have HKB := hide hk.bytes
  have HMB := hide hm.bytes
  clear hT hk hm
  obtain ⟨f1, f2, f3⟩ := arr_shape (macL_len k m)
  have HS1 := hide f1
  have HS2 := hide f2
  have HS3 := hide f3
  have HEQ := hide (fun wx => equal_list (macL_len k m) wx)
  have HMA := hide (fun u v wx hx h1 h2 => mac_any u v k m wx (by omega) (by omega) hx h1 h2)
  clear f1 f2 f3
  generalize hga : ((macL k m).map byteV).toArray = ga at *
  have HGA := hide hga
  clear hga
  go_enter Tryd.func4, Tryd.ntmps4
  go_wp2_with fail
  refine (published_any _ HT.out).mono ?_
  rintro e w1 ⟨rfl, hb1⟩
  have HB1 := hide hb1
  clear hb1
  go_wp2_with fail
  refine (copied_any vk k _ (HK.out.below HB1.out) (by omega)).mono ?_
  rintro e w2 ⟨v2, rfl, ho2, hb2⟩
  have HQ2 := hide ho2.bsl
  have HB2 := hide (HB1.out.trans (hb2.mono HB1.out.size))
  clear ho2 hb2
  go_wp2_with fail
  refine (copied_any vm m _ (HM.out.below HB2.out) (by omega)).mono ?_
  rintro e w3 ⟨v3, rfl, ho3, hb3⟩
  have HQ3 := hide ho3.bsl
  have HQ2' := hide (HQ2.out.below hb3)
  have HB3 := hide (HB2.out.trans (hb3.mono HB2.out.size))
  clear ho3 hb3
  go_wp2_with fail
  refine (HMA.out _ _ _ (HT.out.below HB3.out) HQ2'.out HQ3.out).mono ?_
  rintro e w4 ⟨rfl, hb4⟩
  have HB4 := hide ((HB3.out.trans (hb4.mono HB3.out.size)).alloc (Nat.le_trans HB3.out.size hb4.size) (.cells ga 29))
  have HG4 := hide (Go.heap_alloc_new w4 (.cells ga 29))
  clear hb4 HQ2 HQ2' HQ3
  go_wp2_with (first
    | refine wpList_alloc_as rfl 29 rfl (.agg zero32) zero32 Tryd.zero32 rfl ?_
    | (refine wpList_store_row rfl 29 _ _ rfl w4.heap.size ga (by first | rfl | simp [Act.eval, Act.put]) (by first | rfl | simp [Act.eval, Act.put]) 29 zero32 (Go.heap_alloc_new w4 _) HS1.out HS2.out HS3.out ?_; rw [World.setRow_alloc_new]))
  generalize hg4 : w4.heap.size = g4 at *
  generalize w4.alloc (.cells ga 29) = w5 at *
  clear hg4
  refine (copied_any vk k _ (HK.out.below HB4.out) (by omega)).mono ?_
  rintro e w6 ⟨v6, rfl, ho6, hb6⟩
  have HO6 := hide ho6
  have HB6 := hide (HB4.out.trans (hb6.mono HB4.out.size))
  have HG6 := hide (heap_kept hb6 HG4.out)
  have hs6 : w5.heap.size ≤ w6.heap.size := hb6.size
  have hg4lt : g4 < w5.heap.size := (Array.getElem?_eq_some_iff.1 HG4.out).1
  clear hb6
  have hq6 := ho6.bsl
  obtain ⟨a6, cap6, rfl, hl6, hm6, hn6, _, _⟩ := hq6
  have hB0 : w.heap.size ≤ w5.heap.size := HB4.out.size
  clear ho6 HB4 HG4 HB3 HB2
  generalize hB05 : w5.heap.size = B0 at *
  clear hB05
  have hwb := HB6.out.size
  obtain ⟨i0, hi, hz0, hz1, hz2⟩ := info_parts Tryd.info5
  unfold maxLen at hm6
  have hg46 : g4 < w6.heap.size := (Array.getElem?_eq_some_iff.1 HG6.out).1
  rcases (show 64 < k.length ∨ k.length < 64 ∨ k.length = 64 by omega) with hlen | hlen | hlen
  · have hlI : (64 : Int) < (k.length : Int) := by omega
    go_wp2_with fail
    refine (copied_any vk k _ (HK.out.below HB6.out) (by omega)).mono ?_
    rintro e w7 ⟨v7, rfl, ho7, hb7⟩
    have HQ7 := hide ho7.bsl
    have HB7 := hide (HB6.out.trans (hb7.mono HB6.out.size))
    have HG7 := hide (heap_kept hb7 HG6.out)
    have hs7 := hb7.size
    clear ho7 hb7
    go_wp2_with fail
    refine (sum256_any v7 k w7 (by omega) (HT.out.below HB7.out) HQ7.out).mono ?_
    rintro e w8 ⟨rfl, hb8⟩
    have HB8 := hide (HB7.out.trans (hb8.mono HB7.out.size))
    have HG8 := hide (heap_kept hb8 HG7.out)
    have hs8 := hb8.size
    clear hb8 HB7 HG7 HQ7
    obtain ⟨f1, f2, f3⟩ := sum_shape k
    have HZ1 := hide f1
    have HZ2 := hide f2
    have HZ3 := hide f3
    clear f1 f2 f3
    have HB9 := hide (HB8.out.alloc HB8.out.size (.cells ((shaL k).map byteV).toArray 29))
    have HG9 := hide (heap_more (.cells ((shaL k).map byteV).toArray 29) HG8.out)
    have HBS := hide (BSl.ofRow (n := 32) (cap := 32) (l := shaL k) (Go.heap_alloc_new w8 (.cells ((shaL k).map byteV).toArray 29)) (by show List.take 32 ((shaL k).map byteV) = _; rw [List.take_of_length_le (by rw [List.length_map, shaL_len]; omega)]) (shaL_len _).symm (Nat.le_refl _) (by decide) (shaL_lt _))
    generalize ((shaL k).map byteV).toArray = sa at *
    go_wp2_with (first
      | refine wpList_alloc_as rfl 29 rfl (.agg zero32) zero32 Tryd.zero32 rfl ?_
      | (refine wpList_store_row rfl 29 _ _ rfl w8.heap.size sa (by first | rfl | simp [Act.eval, Act.put]) (by first | rfl | simp [Act.eval, Act.put]) 29 zero32 (Go.heap_alloc_new w8 _) HZ1.out HZ2.out HZ3.out ?_; rw [World.setRow_alloc_new]))
    have hs9 : (w8.alloc (.cells sa 29)).heap.size = w8.heap.size + 1 := by simp
    generalize hg8 : w8.heap.size = g8 at *
    generalize w8.alloc (.cells sa 29) = w9 at *
    clear hg8
    refine (join_any _ _ [] (shaL k) w9 (bsl_nil _) HBS.out (by rw [shaL_len]; simp)).mono ?_
    rintro e wa ⟨va, rfl, hoa, hba⟩
    rw [List.nil_append] at hoa
    have hb9 : B0 ≤ w9.heap.size := by omega
    have HBa := hide (HB9.out.trans (hba.mono HB9.out.size))
    have HGa := hide (heap_kept hba HG9.out)
    have HOa := hide (hoa.le hb9)
    have hsa := hba.size
    clear hba hoa HB9 HG9 HBS HG8 HB8
    go_wp2_with fail
    refine (copied_any va (shaL k) _ HOa.out.bsl (by rw [shaL_len]; omega)).mono ?_
    rintro e wb ⟨vb, rfl, hob, hbb⟩
    have HQb := hide hob.bsl
    have HBb := hide (HBa.out.trans (hbb.mono HBa.out.size))
    have HGb := hide (heap_kept hbb HGa.out)
    have HOb := hide (HOa.out.kept hbb)
    have hsb := hbb.size
    clear hob hbb HBa HGa
    go_wp2_with fail
    refine (copied_any vm m _ (HM.out.below HBb.out) (by omega)).mono ?_
    rintro e wc ⟨vc, rfl, hoc, hbc⟩
    have HQc := hide hoc.bsl
    have HQb' := hide (HQb.out.below hbc)
    have HBc := hide (HBb.out.trans (hbc.mono HBb.out.size))
    have HGc := hide (heap_kept hbc HGb.out)
    have HOc := hide (HOb.out.kept hbc)
    have hsc := hbc.size
    clear hoc hbc HBb HGb HOb HQb
    have HM2 := hide (mac_any vb vc (shaL k) m wc (by rw [shaL_len]; omega) (by omega) (HT.out.below HBc.out) HQb'.out HQc.out)
    rw [macL_long m hlen, HGA.out] at HM2
    go_wp2_with fail
    refine HM2.out.mono ?_
    rintro e wd ⟨rfl, hbd⟩
    have HBd := hide ((HBc.out.trans (hbd.mono HBc.out.size)).alloc (Nat.le_trans HBc.out.size hbd.size) (.cells ga 29))
    have HGd := hide (heap_more (.cells ga 29) (heap_kept hbd HGc.out))
    have HHd := hide (Go.heap_alloc_new wd (.cells ga 29))
    have HOd := hide ((HOc.out.kept hbd).grown (o := .cells ga 29) rfl)
    have hsd : wc.heap.size ≤ (wd.alloc (.cells ga 29)).heap.size := by have := hbd.size; simp; omega
    clear hbd HM2 HQb' HQc HBc HGc HOc
    go_wp2_with (first
      | refine wpList_alloc_as rfl 29 rfl (.agg zero32) zero32 Tryd.zero32 rfl ?_
      | (refine wpList_store_row rfl 29 _ _ rfl wd.heap.size ga (by first | rfl | simp [Act.eval, Act.put]) (by first | rfl | simp [Act.eval, Act.put]) 29 zero32 (Go.heap_alloc_new wd _) HS1.out HS2.out HS3.out ?_; rw [World.setRow_alloc_new])
      | refine wpList_load_row rfl 29 (.tmp 5) rfl g4 rfl 29 ga (0, 0) _ HGd.out Tryd.underlying29 rfl HS1.out ?_
      | refine wpList_load_row rfl 29 (.tmp 8) rfl wd.heap.size rfl 29 ga (0, 0) _ HHd.out Tryd.underlying29 rfl HS1.out ?_)
    refine (HEQ.out _).mono ?_
    rintro e we ⟨rfl, hbe⟩
    have HBe := hide (HBd.out.trans (hbe.mono HBd.out.size))
    have HGe := hide (heap_kept hbe HGd.out)
    have HOe := hide (HOd.out.kept hbe)
    have hse : B0 ≤ we.heap.size := by have := hbe.size; omega
    clear hbe HBd HGd HHd HOd hsd hsc hsb hsa
    have HKK : Hid (keyL k = shaL k ++ List.replicate (64 - (shaL k).length) 0) := by show _ = _; rw [keyL, if_pos hlen, shaL_len]
    have hkk : (shaL k).length ≤ 64 := by rw [shaL_len]; omega
    generalize shaL k = kk at *
    clear hs6
    go_wp2_with fail
    go_loopw [6] (fun v wr => ∃ j : Nat, kk.length + j ≤ 64 ∧ Own wr B0 v (kk ++ List.replicate j 0) ∧ Below B0 we wr ∧ B0 ≤ wr.heap.size) (fun v _ => 64 - sliceLen v)
    case atStart => exact ⟨0, by omega, by rw [List.replicate_zero, List.append_nil]; exact HOe.out, Below.refl _ _, hse⟩
    case round =>
      obtain ⟨j, hj, hown, hbel, hszr⟩ := hrel
      have hlj : (kk ++ List.replicate j 0).length = kk.length + j := by simp
      have hqj := hown.bsl
      obtain ⟨aj, capj, hvj, hl1, hl2, _, _, _⟩ := hqj
      rw [hlj] at hvj hl1
      subst hvj
      unfold maxLen at hl2
      by_cases hlt : kk.length + j < 64
      · have hltI : (kk.length : Int) + (j : Int) < 64 := by omega
        have HM1 : Hid (∀ wx vx, wx.ownsRow B0 5 1 vx (kk.length + j + 1) ((kk ++ List.replicate j 0).map byteV ++ [.int .u8 0]) → Own wx B0 vx (kk ++ List.replicate (j + 1) 0)) := fun wx vx h => by rw [← rep_snoc]; exact own_zero hown.2 (by rw [hlj]; exact h)
        have how := hown.1
        rw [hlj] at how
        have HO : Hid (∀ q, (Value.slice aj (kk.length + j) capj).ownBlock = some q → B0 ≤ q) := fun q hq => (how.lt q hq).1
        have HBL := hide hbel
        generalize (kk ++ List.replicate j 0).map byteV = LL at *
        clear hown hbel
        go_wp2_with (at_builtin; refine wpList_append_own _ rfl (.tmp 57) (.tmp 58) 22 rfl B0 5 i0 (.int .u8 0) 1 1 Tryd.underlying22 hi hz0 hz1 hz2 rfl (by decide) _ _ _ rfl (how.alloc _) ⟨wr.heap.size, 0, none⟩ 1 1 [.int .u8 0] rfl rfl (cell_one _ _ _) (by simp [Value.oneCell']) (by unfold maxLen; omega) (by omega) (by simp; omega) ?_)
        intro v' w1' hown' hg' _
        have R := HM1.out w1' v' (by exact hown')
        have hsz' : B0 ≤ w1'.heap.size := by have := hg'.size; simp at this; omega
        have RB : Below B0 we w1' := (HBL.out.alloc (by omega) _).grown hg' (by simp; omega) HO.out
        have hql := R.bsl
        obtain ⟨a2, cap2, rfl, _, _, _, _, _⟩ := hql
        clear hown' hg' HM1 how HO HBL
        go_wp2
        go_roundw
        case rel => exact ⟨j + 1, by omega, R, RB, hsz'⟩
        case measure => simp [sliceLen]; omega
      · have hj64 : kk.length + j = 64 := by omega
        have hKe : kk ++ List.replicate j 0 = keyL k := by rw [HKK.out]; congr 2; omega
        rw [hKe] at hown
        rw [hj64] at hown ⊢
        have hkl64 := keyL_len k
        obtain ⟨gk, capk, e, hgk, hgkl, _⟩ := hown.shape (by omega)
        simp only [Value.slice.injEq] at e
        obtain ⟨rfl, hz64, rfl⟩ := e
        clear hz64
        have HCK : Hid (∀ q, q < 64 → wr.cell? ⟨gk, q, none⟩ = some (.int .u8 ((keyL k).getD q 0 : Nat))) := by
          intro q hq
          have h1 : Own wr B0 (.slice (some ⟨gk, 0, none⟩) (keyL k).length capj) (keyL k) := by rw [hkl64]; exact hown
          rw [h1.1.cellAt q (by omega), map_byteV_getD (by omega)]
        have HKL := hide (keyL_lt HKB.out)
        have HLW : Hid (Below w.heap.size w wr) := HBe.out.trans (hbel.mono hB0)
        have HGW : Hid (wr.heap[g4]? = some (.cells ga 29 (0, 0))) := by show _ = _; rw [hbel.block g4 hg4lt]; exact HGe.out
        have hmk := run_make_row' (P := Tryd.prog) 22 5 (.int .u8 0) 1 Tryd.underlying22 Tryd.info5 rfl .i64 .i64 64 (by omega) (by omega)
        rw [made_fill ((keyL k).map (fun b => b ^^^ 54)) 64, show ((64 : Nat) : Int) = 64 from rfl] at hmk
        have HF : Hid (fillL ((keyL k).map (fun b => b ^^^ 92)) 64 0 = fillL ((keyL k).map (fun b => b ^^^ 54)) 64 0) := Eq.refl _
        have hXl : ((keyL k).map (fun b => b ^^^ 54)).length = 64 := by rw [List.length_map]; exact hkl64
        have hYl : ((keyL k).map (fun b => b ^^^ 92)).length = 64 := by rw [List.length_map]; exact hkl64
        have HXL := hide hXl
        have HYL := hide hYl
        have HKD : Hid (macL k m = shaL ((keyL k).map (fun b => b ^^^ 92) ++ shaL ((keyL k).map (fun b => b ^^^ 54) ++ m))) := Eq.refl _
        have HXG : Hid (∀ q, q < 64 → ((keyL k).map (fun b => b ^^^ 54)).getD q 0 = (keyL k).getD q 0 ^^^ 54 ∧ ((keyL k).map (fun b => b ^^^ 92)).getD q 0 = (keyL k).getD q 0 ^^^ 92) := by
          intro q hq
          have : q < (keyL k).length := by omega
          simp [List.getD, this]
        have HXB : Hid (∀ b ∈ (keyL k).map (fun b => b ^^^ 54), b < 256) := by
          intro b hb; obtain ⟨c, hc, rfl⟩ := List.mem_map.1 hb; exact xor_byte (HKL.out c hc) (by decide)
        have HYB : Hid (∀ b ∈ (keyL k).map (fun b => b ^^^ 92), b < 256) := by
          intro b hb; obtain ⟨c, hc, rfl⟩ := List.mem_map.1 hb; exact xor_byte (HKL.out c hc) (by decide)
        generalize (keyL k).map (fun b => b ^^^ 54) = X at *
        generalize (keyL k).map (fun b => b ^^^ 92) = Y at *
        have HKV : Hid (∀ q, q < 64 → (keyL k).getD q 0 < 256) := fun q hq => HKL.out _ (mem_getD (by omega))
        generalize keyL k = KL at *
        clear hown hbel hKe hXl hYl hkl64 hj64 hj hlt hl1
        go_wp2_with fail
        clear hmk
        go_loopw [12] (fun i wx => ∃ q : Nat, q ≤ 64 ∧ i = .int .i64 q ∧ wx = (wr.alloc (.cells ((fillL X 64 q).map byteV).toArray 5)).alloc (.cells ((fillL Y 64 q).map byteV).toArray 5)) (fun i _ => 64 - (intOf i).toNat)
        case atStart => exact ⟨0, Nat.zero_le _, rfl, by rw [HF.out]⟩
        case round =>
          obtain ⟨q, hq, rfl, rfl⟩ := hrel
          have hflX := fillL_len hq (by rw [HXL.out]; exact hq)
          have hflY := fillL_len hq (by rw [HYL.out]; exact hq)
          by_cases hlq : q < 64
          · have hck := HCK.out q hlq
            have hkv := HKV.out q hlq
            have hx1 := u8_xor_nat (KL.getD q 0) 54 hkv (by decide)
            have hx2 := u8_xor_nat (KL.getD q 0) 92 hkv (by decide)
            rw [show ((54 : Nat) : Int) = 54 from rfl] at hx1
            rw [show ((92 : Nat) : Int) = 92 from rfl] at hx2
            obtain ⟨g1, g2⟩ := HXG.out q hlq
            have HSX : Hid (((fillL X 64 q).map byteV).toArray.setIfInBounds q (.int .u8 ((KL.getD q 0 ^^^ 54 : Nat) : Int)) = ((fillL X 64 (q + 1)).map byteV).toArray) := by
              show _ = _; rw [← fillL_set hlq (by rw [HXL.out]; exact hlq), List.setIfInBounds_toArray, List.map_set, g1]; rfl
            have HSY : Hid (((fillL Y 64 q).map byteV).toArray.setIfInBounds q (.int .u8 ((KL.getD q 0 ^^^ 92 : Nat) : Int)) = ((fillL Y 64 (q + 1)).map byteV).toArray) := by
              show _ = _; rw [← fillL_set hlq (by rw [HYL.out]; exact hlq), List.setIfInBounds_toArray, List.map_set, g2]; rfl
            have hsX : ((fillL X 64 q).map byteV).toArray.size = 64 := by rw [List.size_toArray, List.length_map, hflX]
            have hsY : ((fillL Y 64 q).map byteV).toArray.size = 64 := by rw [List.size_toArray, List.length_map, hflY]
            obtain ⟨u0, hu0⟩ : ∃ v, ((fillL X 64 q).map byteV).toArray[q]? = some v := ⟨_, Array.getElem?_eq_getElem (by omega)⟩
            obtain ⟨u1, hu1⟩ : ∃ v, ((fillL Y 64 q).map byteV).toArray[q]? = some v := ⟨_, Array.getElem?_eq_getElem (by omega)⟩
            generalize ((fillL X 64 q).map byteV).toArray = ys at *
            generalize ((fillL Y 64 q).map byteV).toArray = zs at *
            generalize KL.getD q 0 = kx at *
            generalize kx ^^^ 54 = k1 at *
            generalize kx ^^^ 92 = k2 at *
            clear g1 g2 hflX hflY
            go_wp2_with fail
            go_roundw
            case rel => exact ⟨q + 1, by omega, by go_num, by rw [HSX.out, HSY.out]⟩
            case measure => simp [intOf]; omega
          · have hq64 : q = 64 := by omega
            subst hq64
            have eX : fillL X 64 64 = X := by rw [fillL, Nat.sub_self, List.replicate_zero, List.append_nil, List.take_of_length_le (by rw [HXL.out]; omega)]
            have eY : fillL Y 64 64 = Y := by rw [fillL, Nat.sub_self, List.replicate_zero, List.append_nil, List.take_of_length_le (by rw [HYL.out]; omega)]
            rw [eX, eY]
            have HBF := hide (below_alloc2 wr (.cells (X.map byteV).toArray 5) (.cells (Y.map byteV).toArray 5))
            have HRX := hide (heap_more (.cells (Y.map byteV).toArray 5) (Go.heap_alloc_new wr (.cells (X.map byteV).toArray 5)))
            have HRY := hide (heap_alloc2_new wr (.cells (X.map byteV).toArray 5) (.cells (Y.map byteV).toArray 5))
            have HGF := hide (heap_more (.cells (Y.map byteV).toArray 5) (heap_more (.cells (X.map byteV).toArray 5) HGW.out))
            have HLF := hide (HLW.out.trans (HBF.out.mono HLW.out.size))
            generalize (wr.alloc (.cells (X.map byteV).toArray 5)).alloc (.cells (Y.map byteV).toArray 5) = wf at *
            have HXS := hide (BSl.ofRow (n := 64) (cap := 64) HRX.out (by show List.take 64 (X.map byteV) = _; rw [List.take_of_length_le (by rw [List.length_map, HXL.out]; omega)]) HXL.out.symm (Nat.le_refl _) (by decide) HXB.out)
            have HYS := hide (BSl.ofRow (n := 64) (cap := 64) HRY.out (by show List.take 64 (Y.map byteV) = _; rw [List.take_of_length_le (by rw [List.length_map, HYL.out]; omega)]) HYL.out.symm (Nat.le_refl _) (by decide) HYB.out)
            clear HBF HRX HRY HCK HLW HGW eX eY hlq hq hflX hflY
            go_wp2_with fail
            refine (join_any _ vm X m wf HXS.out (HM.out.below HLF.out) (by rw [HXL.out]; omega)).mono ?_
            rintro e wg ⟨vg, rfl, hog, hbg⟩
            have HQg := hide hog.bsl
            have HYg := hide (HYS.out.below hbg)
            have HGg := hide (heap_kept hbg HGF.out)
            have HLg := hide (HLF.out.trans (hbg.mono HLF.out.size))
            clear hog hbg HXS HYS HGF HLF
            have hXm : (X ++ m).length < 4611686018427387904 := by rw [List.length_append, HXL.out]; omega
            go_wp2_with fail
            refine (sum256_any vg (X ++ m) wg hXm (HT.out.below HLg.out) HQg.out).mono ?_
            rintro e wh ⟨rfl, hbh⟩
            obtain ⟨f1, f2, f3⟩ := sum_shape (X ++ m)
            have HF1 := hide f1
            have HF2 := hide f2
            have HF3 := hide f3
            have HLh := hide ((HLg.out.trans (hbh.mono HLg.out.size)).alloc (Nat.le_trans HLg.out.size hbh.size) (.cells ((shaL (X ++ m)).map byteV).toArray 29))
            have HGh := hide (heap_more (.cells ((shaL (X ++ m)).map byteV).toArray 29) (heap_kept hbh HGg.out))
            have HYh := hide ((HYg.out.below hbh).below (below_alloc wh (.cells ((shaL (X ++ m)).map byteV).toArray 29)))
            have HFS := hide (BSl.ofRow (n := 32) (cap := 32) (l := shaL (X ++ m)) (Go.heap_alloc_new wh (.cells ((shaL (X ++ m)).map byteV).toArray 29)) (by show List.take 32 ((shaL (X ++ m)).map byteV) = _; rw [List.take_of_length_le (by rw [List.length_map, shaL_len]; omega)]) (shaL_len _).symm (Nat.le_refl _) (by decide) (shaL_lt _))
            have hfl := shaL_len (X ++ m)
            clear f1 f2 f3 hbh HQg HYg HGg HLg
            generalize ((shaL (X ++ m)).map byteV).toArray = fa at *
            go_wp2_with (first
              | refine wpList_alloc_as rfl 29 rfl (.agg zero32) zero32 Tryd.zero32 rfl ?_
              | (refine wpList_store_row rfl 29 _ _ rfl wh.heap.size fa (by first | rfl | simp [Act.eval, Act.put]) (by first | rfl | simp [Act.eval, Act.put]) 29 zero32 (Go.heap_alloc_new wh _) HF1.out HF2.out HF3.out ?_; rw [World.setRow_alloc_new]))
            generalize wh.heap.size = gf at *
            generalize wh.alloc (.cells fa 29) = wi at *
            refine (join_any _ _ Y (shaL (X ++ m)) wi HYh.out HFS.out (by rw [HYL.out, hfl]; omega)).mono ?_
            rintro e wj ⟨vj, rfl, hoj, hbj⟩
            have HQj := hide hoj.bsl
            have HGj := hide (heap_kept hbj HGh.out)
            have HLj := hide (HLh.out.trans (hbj.mono HLh.out.size))
            clear hoj hbj HYh HFS HGh HLh
            go_wp2_with fail
            refine (sum256_any vj (Y ++ shaL (X ++ m)) wj (by rw [List.length_append, HYL.out, hfl]; omega) (HT.out.below HLj.out) HQj.out).mono ?_
            rintro e wk ⟨rfl, hbk⟩
            rw [← HKD.out, HGA.out]
            have HLk := hide ((HLj.out.trans (hbk.mono HLj.out.size)).alloc (Nat.le_trans HLj.out.size hbk.size) (.cells ga 29))
            have HGk := hide (heap_more (.cells ga 29) (heap_kept hbk HGj.out))
            have HHk := hide (Go.heap_alloc_new wk (.cells ga 29))
            clear hbk HQj HGj HLj hfl hXm
            go_wp2_with (first
              | refine wpList_alloc_as rfl 29 rfl (.agg zero32) zero32 Tryd.zero32 rfl ?_
              | (refine wpList_store_row rfl 29 _ _ rfl wk.heap.size ga (by first | rfl | simp [Act.eval, Act.put]) (by first | rfl | simp [Act.eval, Act.put]) 29 zero32 (Go.heap_alloc_new wk _) HS1.out HS2.out HS3.out ?_; rw [World.setRow_alloc_new])
              | refine wpList_load_row rfl 29 (.tmp 5) rfl g4 rfl 29 ga (0, 0) _ HGk.out Tryd.underlying29 rfl HS1.out ?_
              | refine wpList_load_row rfl 29 (.tmp 14) rfl wk.heap.size rfl 29 ga (0, 0) _ HHk.out Tryd.underlying29 rfl HS1.out ?_)
            refine (HEQ.out _).mono ?_
            rintro e wl ⟨rfl, hbl⟩
            have HLl := hide (HLk.out.trans (hbl.mono HLk.out.size))
            clear hbl HLk HGk HHk
            go_wp2_with fail
            go_ret
            exact ⟨rfl, HLl.out⟩
  · have hlI : (k.length : Int) < 64 := by omega
    have HB7 := hide (HB6.out.alloc HB6.out.size (.cells #[.int .u8 0] 5))
    have HG7 := hide (heap_more (.cells #[.int .u8 0] 5) HG6.out)
    have HO7 := hide (HO6.out.grown (o := .cells #[.int .u8 0] 5) rfl)
    have HZS := hide (bsl_const (w := w6) (g := w6.heap.size) rfl [0] (by decide) (by decide) 5 (0, 0) #[.int .u8 0] rfl)
    have hs7 : (w6.alloc (.cells #[.int .u8 0] 5)).heap.size = w6.heap.size + 1 := by simp
    go_wp2_with fail
    generalize w6.alloc (.cells #[.int .u8 0] 5) = w7 at *
    refine (join_any vk _ k [0] w7 (HK.out.below HB7.out) HZS.out (by simp; omega)).mono ?_
    rintro e wb ⟨vb, rfl, hob, hbb⟩
    have HQb := hide hob.bsl
    have HBb := hide (HB7.out.trans (hbb.mono HB7.out.size))
    have HGb := hide (heap_kept hbb HG7.out)
    have HOb := hide (HO7.out.kept hbb)
    have hsb := hbb.size
    clear hob hbb HB7 HG7 HO7 HZS
    go_wp2_with fail
    refine (copied_any vm m _ (HM.out.below HBb.out) (by omega)).mono ?_
    rintro e wc ⟨vc, rfl, hoc, hbc⟩
    have HQc := hide hoc.bsl
    have HQb' := hide (HQb.out.below hbc)
    have HBc := hide (HBb.out.trans (hbc.mono HBb.out.size))
    have HGc := hide (heap_kept hbc HGb.out)
    have HOc := hide (HOb.out.kept hbc)
    have hsc := hbc.size
    clear hoc hbc HBb HGb HOb HQb
    have HM2 := hide (mac_any vb vc (k ++ [0]) m wc (by simp; omega) (by omega) (HT.out.below HBc.out) HQb'.out HQc.out)
    rw [macL_short m hlen, HGA.out] at HM2
    go_wp2_with fail
    refine HM2.out.mono ?_
    rintro e wd ⟨rfl, hbd⟩
    have HBd := hide ((HBc.out.trans (hbd.mono HBc.out.size)).alloc (Nat.le_trans HBc.out.size hbd.size) (.cells ga 29))
    have HGd := hide (heap_more (.cells ga 29) (heap_kept hbd HGc.out))
    have HHd := hide (Go.heap_alloc_new wd (.cells ga 29))
    have HOd := hide ((HOc.out.kept hbd).grown (o := .cells ga 29) rfl)
    have hsd : wc.heap.size ≤ (wd.alloc (.cells ga 29)).heap.size := by have := hbd.size; simp; omega
    clear hbd HM2 HQb' HQc HBc HGc HOc
    go_wp2_with (first
      | refine wpList_alloc_as rfl 29 rfl (.agg zero32) zero32 Tryd.zero32 rfl ?_
      | (refine wpList_store_row rfl 29 _ _ rfl wd.heap.size ga (by first | rfl | simp [Act.eval, Act.put]) (by first | rfl | simp [Act.eval, Act.put]) 29 zero32 (Go.heap_alloc_new wd _) HS1.out HS2.out HS3.out ?_; rw [World.setRow_alloc_new])
      | refine wpList_load_row rfl 29 (.tmp 5) rfl g4 rfl 29 ga (0, 0) _ HGd.out Tryd.underlying29 rfl HS1.out ?_
      | refine wpList_load_row rfl 29 (.tmp 9) rfl wd.heap.size rfl 29 ga (0, 0) _ HHd.out Tryd.underlying29 rfl HS1.out ?_)
    refine (HEQ.out _).mono ?_
    rintro e we ⟨rfl, hbe⟩
    have HBe := hide (HBd.out.trans (hbe.mono HBd.out.size))
    have HGe := hide (heap_kept hbe HGd.out)
    have HOe := hide (HOd.out.kept hbe)
    have hse : B0 ≤ we.heap.size := by have := hbe.size; omega
    clear hbe HBd HGd HHd HOd hsd hsc hsb
    have HKK : Hid (keyL k = k ++ List.replicate (64 - k.length) 0) := by show _ = _; rw [keyL, if_neg (by omega)]
    obtain ⟨kk, hkke⟩ : ∃ kk, k = kk := ⟨_, rfl⟩
    have hkk : kk.length ≤ 64 := by rw [← hkke]; omega
    have HKK : Hid (keyL k = kk ++ List.replicate (64 - kk.length) 0) := by show _ = _; rw [← hkke]; exact HKK.out
    have HOe : Hid (Own we B0 (.slice a6 k.length cap6) kk) := by rw [← hkke]; exact HOe.out
    clear hkke
    clear hs6
    go_wp2_with fail
    go_loopw [6] (fun v wr => ∃ j : Nat, kk.length + j ≤ 64 ∧ Own wr B0 v (kk ++ List.replicate j 0) ∧ Below B0 we wr ∧ B0 ≤ wr.heap.size) (fun v _ => 64 - sliceLen v)
    case atStart => exact ⟨0, by omega, by rw [List.replicate_zero, List.append_nil]; exact HOe.out, Below.refl _ _, hse⟩
    case round =>
      obtain ⟨j, hj, hown, hbel, hszr⟩ := hrel
      have hlj : (kk ++ List.replicate j 0).length = kk.length + j := by simp
      have hqj := hown.bsl
      obtain ⟨aj, capj, hvj, hl1, hl2, _, _, _⟩ := hqj
      rw [hlj] at hvj hl1
      subst hvj
      unfold maxLen at hl2
      by_cases hlt : kk.length + j < 64
      · have hltI : (kk.length : Int) + (j : Int) < 64 := by omega
        have HM1 : Hid (∀ wx vx, wx.ownsRow B0 5 1 vx (kk.length + j + 1) ((kk ++ List.replicate j 0).map byteV ++ [.int .u8 0]) → Own wx B0 vx (kk ++ List.replicate (j + 1) 0)) := fun wx vx h => by rw [← rep_snoc]; exact own_zero hown.2 (by rw [hlj]; exact h)
        have how := hown.1
        rw [hlj] at how
        have HO : Hid (∀ q, (Value.slice aj (kk.length + j) capj).ownBlock = some q → B0 ≤ q) := fun q hq => (how.lt q hq).1
        have HBL := hide hbel
        generalize (kk ++ List.replicate j 0).map byteV = LL at *
        clear hown hbel
        go_wp2_with (at_builtin; refine wpList_append_own _ rfl (.tmp 57) (.tmp 58) 22 rfl B0 5 i0 (.int .u8 0) 1 1 Tryd.underlying22 hi hz0 hz1 hz2 rfl (by decide) _ _ _ rfl (how.alloc _) ⟨wr.heap.size, 0, none⟩ 1 1 [.int .u8 0] rfl rfl (cell_one _ _ _) (by simp [Value.oneCell']) (by unfold maxLen; omega) (by omega) (by simp; omega) ?_)
        intro v' w1' hown' hg' _
        have R := HM1.out w1' v' (by exact hown')
        have hsz' : B0 ≤ w1'.heap.size := by have := hg'.size; simp at this; omega
        have RB : Below B0 we w1' := (HBL.out.alloc (by omega) _).grown hg' (by simp; omega) HO.out
        have hql := R.bsl
        obtain ⟨a2, cap2, rfl, _, _, _, _, _⟩ := hql
        clear hown' hg' HM1 how HO HBL
        go_wp2
        go_roundw
        case rel => exact ⟨j + 1, by omega, R, RB, hsz'⟩
        case measure => simp [sliceLen]; omega
      · have hj64 : kk.length + j = 64 := by omega
        have hKe : kk ++ List.replicate j 0 = keyL k := by rw [HKK.out]; congr 2; omega
        rw [hKe] at hown
        rw [hj64] at hown ⊢
        have hkl64 := keyL_len k
        obtain ⟨gk, capk, e, hgk, hgkl, _⟩ := hown.shape (by omega)
        simp only [Value.slice.injEq] at e
        obtain ⟨rfl, hz64, rfl⟩ := e
        clear hz64
        have HCK : Hid (∀ q, q < 64 → wr.cell? ⟨gk, q, none⟩ = some (.int .u8 ((keyL k).getD q 0 : Nat))) := by
          intro q hq
          have h1 : Own wr B0 (.slice (some ⟨gk, 0, none⟩) (keyL k).length capj) (keyL k) := by rw [hkl64]; exact hown
          rw [h1.1.cellAt q (by omega), map_byteV_getD (by omega)]
        have HKL := hide (keyL_lt HKB.out)
        have HLW : Hid (Below w.heap.size w wr) := HBe.out.trans (hbel.mono hB0)
        have HGW : Hid (wr.heap[g4]? = some (.cells ga 29 (0, 0))) := by show _ = _; rw [hbel.block g4 hg4lt]; exact HGe.out
        have hmk := run_make_row' (P := Tryd.prog) 22 5 (.int .u8 0) 1 Tryd.underlying22 Tryd.info5 rfl .i64 .i64 64 (by omega) (by omega)
        rw [made_fill ((keyL k).map (fun b => b ^^^ 54)) 64, show ((64 : Nat) : Int) = 64 from rfl] at hmk
        have HF : Hid (fillL ((keyL k).map (fun b => b ^^^ 92)) 64 0 = fillL ((keyL k).map (fun b => b ^^^ 54)) 64 0) := Eq.refl _
        have hXl : ((keyL k).map (fun b => b ^^^ 54)).length = 64 := by rw [List.length_map]; exact hkl64
        have hYl : ((keyL k).map (fun b => b ^^^ 92)).length = 64 := by rw [List.length_map]; exact hkl64
        have HXL := hide hXl
        have HYL := hide hYl
        have HKD : Hid (macL k m = shaL ((keyL k).map (fun b => b ^^^ 92) ++ shaL ((keyL k).map (fun b => b ^^^ 54) ++ m))) := Eq.refl _
        have HXG : Hid (∀ q, q < 64 → ((keyL k).map (fun b => b ^^^ 54)).getD q 0 = (keyL k).getD q 0 ^^^ 54 ∧ ((keyL k).map (fun b => b ^^^ 92)).getD q 0 = (keyL k).getD q 0 ^^^ 92) := by
          intro q hq
          have : q < (keyL k).length := by omega
          simp [List.getD, this]
        have HXB : Hid (∀ b ∈ (keyL k).map (fun b => b ^^^ 54), b < 256) := by
          intro b hb; obtain ⟨c, hc, rfl⟩ := List.mem_map.1 hb; exact xor_byte (HKL.out c hc) (by decide)
        have HYB : Hid (∀ b ∈ (keyL k).map (fun b => b ^^^ 92), b < 256) := by
          intro b hb; obtain ⟨c, hc, rfl⟩ := List.mem_map.1 hb; exact xor_byte (HKL.out c hc) (by decide)
        generalize (keyL k).map (fun b => b ^^^ 54) = X at *
        generalize (keyL k).map (fun b => b ^^^ 92) = Y at *
        have HKV : Hid (∀ q, q < 64 → (keyL k).getD q 0 < 256) := fun q hq => HKL.out _ (mem_getD (by omega))
        generalize keyL k = KL at *
        clear hown hbel hKe hXl hYl hkl64 hj64 hj hlt hl1
        go_wp2_with fail
        clear hmk
        go_loopw [12] (fun i wx => ∃ q : Nat, q ≤ 64 ∧ i = .int .i64 q ∧ wx = (wr.alloc (.cells ((fillL X 64 q).map byteV).toArray 5)).alloc (.cells ((fillL Y 64 q).map byteV).toArray 5)) (fun i _ => 64 - (intOf i).toNat)
        case atStart => exact ⟨0, Nat.zero_le _, rfl, by rw [HF.out]⟩
        case round =>
          obtain ⟨q, hq, rfl, rfl⟩ := hrel
          have hflX := fillL_len hq (by rw [HXL.out]; exact hq)
          have hflY := fillL_len hq (by rw [HYL.out]; exact hq)
          by_cases hlq : q < 64
          · have hck := HCK.out q hlq
            have hkv := HKV.out q hlq
            have hx1 := u8_xor_nat (KL.getD q 0) 54 hkv (by decide)
            have hx2 := u8_xor_nat (KL.getD q 0) 92 hkv (by decide)
            rw [show ((54 : Nat) : Int) = 54 from rfl] at hx1
            rw [show ((92 : Nat) : Int) = 92 from rfl] at hx2
            obtain ⟨g1, g2⟩ := HXG.out q hlq
            have HSX : Hid (((fillL X 64 q).map byteV).toArray.setIfInBounds q (.int .u8 ((KL.getD q 0 ^^^ 54 : Nat) : Int)) = ((fillL X 64 (q + 1)).map byteV).toArray) := by
              show _ = _; rw [← fillL_set hlq (by rw [HXL.out]; exact hlq), List.setIfInBounds_toArray, List.map_set, g1]; rfl
            have HSY : Hid (((fillL Y 64 q).map byteV).toArray.setIfInBounds q (.int .u8 ((KL.getD q 0 ^^^ 92 : Nat) : Int)) = ((fillL Y 64 (q + 1)).map byteV).toArray) := by
              show _ = _; rw [← fillL_set hlq (by rw [HYL.out]; exact hlq), List.setIfInBounds_toArray, List.map_set, g2]; rfl
            have hsX : ((fillL X 64 q).map byteV).toArray.size = 64 := by rw [List.size_toArray, List.length_map, hflX]
            have hsY : ((fillL Y 64 q).map byteV).toArray.size = 64 := by rw [List.size_toArray, List.length_map, hflY]
            obtain ⟨u0, hu0⟩ : ∃ v, ((fillL X 64 q).map byteV).toArray[q]? = some v := ⟨_, Array.getElem?_eq_getElem (by omega)⟩
            obtain ⟨u1, hu1⟩ : ∃ v, ((fillL Y 64 q).map byteV).toArray[q]? = some v := ⟨_, Array.getElem?_eq_getElem (by omega)⟩
            generalize ((fillL X 64 q).map byteV).toArray = ys at *
            generalize ((fillL Y 64 q).map byteV).toArray = zs at *
            generalize KL.getD q 0 = kx at *
            generalize kx ^^^ 54 = k1 at *
            generalize kx ^^^ 92 = k2 at *
            clear g1 g2 hflX hflY
            go_wp2_with fail
            go_roundw
            case rel => exact ⟨q + 1, by omega, by go_num, by rw [HSX.out, HSY.out]⟩
            case measure => simp [intOf]; omega
          · have hq64 : q = 64 := by omega
            subst hq64
            have eX : fillL X 64 64 = X := by rw [fillL, Nat.sub_self, List.replicate_zero, List.append_nil, List.take_of_length_le (by rw [HXL.out]; omega)]
            have eY : fillL Y 64 64 = Y := by rw [fillL, Nat.sub_self, List.replicate_zero, List.append_nil, List.take_of_length_le (by rw [HYL.out]; omega)]
            rw [eX, eY]
            have HBF := hide (below_alloc2 wr (.cells (X.map byteV).toArray 5) (.cells (Y.map byteV).toArray 5))
            have HRX := hide (heap_more (.cells (Y.map byteV).toArray 5) (Go.heap_alloc_new wr (.cells (X.map byteV).toArray 5)))
            have HRY := hide (heap_alloc2_new wr (.cells (X.map byteV).toArray 5) (.cells (Y.map byteV).toArray 5))
            have HGF := hide (heap_more (.cells (Y.map byteV).toArray 5) (heap_more (.cells (X.map byteV).toArray 5) HGW.out))
            have HLF := hide (HLW.out.trans (HBF.out.mono HLW.out.size))
            generalize (wr.alloc (.cells (X.map byteV).toArray 5)).alloc (.cells (Y.map byteV).toArray 5) = wf at *
            have HXS := hide (BSl.ofRow (n := 64) (cap := 64) HRX.out (by show List.take 64 (X.map byteV) = _; rw [List.take_of_length_le (by rw [List.length_map, HXL.out]; omega)]) HXL.out.symm (Nat.le_refl _) (by decide) HXB.out)
            have HYS := hide (BSl.ofRow (n := 64) (cap := 64) HRY.out (by show List.take 64 (Y.map byteV) = _; rw [List.take_of_length_le (by rw [List.length_map, HYL.out]; omega)]) HYL.out.symm (Nat.le_refl _) (by decide) HYB.out)
            clear HBF HRX HRY HCK HLW HGW eX eY hlq hq hflX hflY
            go_wp2_with fail
            refine (join_any _ vm X m wf HXS.out (HM.out.below HLF.out) (by rw [HXL.out]; omega)).mono ?_
            rintro e wg ⟨vg, rfl, hog, hbg⟩
            have HQg := hide hog.bsl
            have HYg := hide (HYS.out.below hbg)
            have HGg := hide (heap_kept hbg HGF.out)
            have HLg := hide (HLF.out.trans (hbg.mono HLF.out.size))
            clear hog hbg HXS HYS HGF HLF
            have hXm : (X ++ m).length < 4611686018427387904 := by rw [List.length_append, HXL.out]; omega
            go_wp2_with fail
            refine (sum256_any vg (X ++ m) wg hXm (HT.out.below HLg.out) HQg.out).mono ?_
            rintro e wh ⟨rfl, hbh⟩
            obtain ⟨f1, f2, f3⟩ := sum_shape (X ++ m)
            have HF1 := hide f1
            have HF2 := hide f2
            have HF3 := hide f3
            have HLh := hide ((HLg.out.trans (hbh.mono HLg.out.size)).alloc (Nat.le_trans HLg.out.size hbh.size) (.cells ((shaL (X ++ m)).map byteV).toArray 29))
            have HGh := hide (heap_more (.cells ((shaL (X ++ m)).map byteV).toArray 29) (heap_kept hbh HGg.out))
            have HYh := hide ((HYg.out.below hbh).below (below_alloc wh (.cells ((shaL (X ++ m)).map byteV).toArray 29)))
            have HFS := hide (BSl.ofRow (n := 32) (cap := 32) (l := shaL (X ++ m)) (Go.heap_alloc_new wh (.cells ((shaL (X ++ m)).map byteV).toArray 29)) (by show List.take 32 ((shaL (X ++ m)).map byteV) = _; rw [List.take_of_length_le (by rw [List.length_map, shaL_len]; omega)]) (shaL_len _).symm (Nat.le_refl _) (by decide) (shaL_lt _))
            have hfl := shaL_len (X ++ m)
            clear f1 f2 f3 hbh HQg HYg HGg HLg
            generalize ((shaL (X ++ m)).map byteV).toArray = fa at *
            go_wp2_with (first
              | refine wpList_alloc_as rfl 29 rfl (.agg zero32) zero32 Tryd.zero32 rfl ?_
              | (refine wpList_store_row rfl 29 _ _ rfl wh.heap.size fa (by first | rfl | simp [Act.eval, Act.put]) (by first | rfl | simp [Act.eval, Act.put]) 29 zero32 (Go.heap_alloc_new wh _) HF1.out HF2.out HF3.out ?_; rw [World.setRow_alloc_new]))
            generalize wh.heap.size = gf at *
            generalize wh.alloc (.cells fa 29) = wi at *
            refine (join_any _ _ Y (shaL (X ++ m)) wi HYh.out HFS.out (by rw [HYL.out, hfl]; omega)).mono ?_
            rintro e wj ⟨vj, rfl, hoj, hbj⟩
            have HQj := hide hoj.bsl
            have HGj := hide (heap_kept hbj HGh.out)
            have HLj := hide (HLh.out.trans (hbj.mono HLh.out.size))
            clear hoj hbj HYh HFS HGh HLh
            go_wp2_with fail
            refine (sum256_any vj (Y ++ shaL (X ++ m)) wj (by rw [List.length_append, HYL.out, hfl]; omega) (HT.out.below HLj.out) HQj.out).mono ?_
            rintro e wk ⟨rfl, hbk⟩
            rw [← HKD.out, HGA.out]
            have HLk := hide ((HLj.out.trans (hbk.mono HLj.out.size)).alloc (Nat.le_trans HLj.out.size hbk.size) (.cells ga 29))
            have HGk := hide (heap_more (.cells ga 29) (heap_kept hbk HGj.out))
            have HHk := hide (Go.heap_alloc_new wk (.cells ga 29))
            clear hbk HQj HGj HLj hfl hXm
            go_wp2_with (first
              | refine wpList_alloc_as rfl 29 rfl (.agg zero32) zero32 Tryd.zero32 rfl ?_
              | (refine wpList_store_row rfl 29 _ _ rfl wk.heap.size ga (by first | rfl | simp [Act.eval, Act.put]) (by first | rfl | simp [Act.eval, Act.put]) 29 zero32 (Go.heap_alloc_new wk _) HS1.out HS2.out HS3.out ?_; rw [World.setRow_alloc_new])
              | refine wpList_load_row rfl 29 (.tmp 5) rfl g4 rfl 29 ga (0, 0) _ HGk.out Tryd.underlying29 rfl HS1.out ?_
              | refine wpList_load_row rfl 29 (.tmp 14) rfl wk.heap.size rfl 29 ga (0, 0) _ HHk.out Tryd.underlying29 rfl HS1.out ?_)
            refine (HEQ.out _).mono ?_
            rintro e wl ⟨rfl, hbl⟩
            have HLl := hide (HLk.out.trans (hbl.mono HLk.out.size))
            clear hbl HLk HGk HHk
            go_wp2_with fail
            go_ret
            exact ⟨rfl, HLl.out⟩
  · have hlI : (k.length : Int) = 64 := by omega
    have HKK : Hid (keyL k = k ++ List.replicate (64 - k.length) 0) := by show _ = _; rw [keyL, if_neg (by omega)]
    obtain ⟨we, hwe⟩ : ∃ we, w6 = we := ⟨_, rfl⟩
    subst hwe
    have HBe := hide HB6.out
    have HGe := hide HG6.out
    have hse : B0 ≤ w6.heap.size := hs6
    obtain ⟨kk, hkke⟩ : ∃ kk, k = kk := ⟨_, rfl⟩
    have hkk : kk.length ≤ 64 := by rw [← hkke]; omega
    have HKK : Hid (keyL k = kk ++ List.replicate (64 - kk.length) 0) := by show _ = _; rw [← hkke]; exact HKK.out
    have HOe : Hid (Own w6 B0 (.slice a6 64 cap6) kk) := by rw [← hkke, ← hlen]; exact HO6.out
    clear hkke
    clear hs6
    go_wp2_with fail
    go_loopw [6] (fun v wr => ∃ j : Nat, kk.length + j ≤ 64 ∧ Own wr B0 v (kk ++ List.replicate j 0) ∧ Below B0 w6 wr ∧ B0 ≤ wr.heap.size) (fun v _ => 64 - sliceLen v)
    case atStart => exact ⟨0, by omega, by rw [List.replicate_zero, List.append_nil]; exact HOe.out, Below.refl _ _, hse⟩
    case round =>
      obtain ⟨j, hj, hown, hbel, hszr⟩ := hrel
      have hlj : (kk ++ List.replicate j 0).length = kk.length + j := by simp
      have hqj := hown.bsl
      obtain ⟨aj, capj, hvj, hl1, hl2, _, _, _⟩ := hqj
      rw [hlj] at hvj hl1
      subst hvj
      unfold maxLen at hl2
      by_cases hlt : kk.length + j < 64
      · have hltI : (kk.length : Int) + (j : Int) < 64 := by omega
        have HM1 : Hid (∀ wx vx, wx.ownsRow B0 5 1 vx (kk.length + j + 1) ((kk ++ List.replicate j 0).map byteV ++ [.int .u8 0]) → Own wx B0 vx (kk ++ List.replicate (j + 1) 0)) := fun wx vx h => by rw [← rep_snoc]; exact own_zero hown.2 (by rw [hlj]; exact h)
        have how := hown.1
        rw [hlj] at how
        have HO : Hid (∀ q, (Value.slice aj (kk.length + j) capj).ownBlock = some q → B0 ≤ q) := fun q hq => (how.lt q hq).1
        have HBL := hide hbel
        generalize (kk ++ List.replicate j 0).map byteV = LL at *
        clear hown hbel
        go_wp2_with (at_builtin; refine wpList_append_own _ rfl (.tmp 57) (.tmp 58) 22 rfl B0 5 i0 (.int .u8 0) 1 1 Tryd.underlying22 hi hz0 hz1 hz2 rfl (by decide) _ _ _ rfl (how.alloc _) ⟨wr.heap.size, 0, none⟩ 1 1 [.int .u8 0] rfl rfl (cell_one _ _ _) (by simp [Value.oneCell']) (by unfold maxLen; omega) (by omega) (by simp; omega) ?_)
        intro v' w1' hown' hg' _
        have R := HM1.out w1' v' (by exact hown')
        have hsz' : B0 ≤ w1'.heap.size := by have := hg'.size; simp at this; omega
        have RB : Below B0 w6 w1' := (HBL.out.alloc (by omega) _).grown hg' (by simp; omega) HO.out
        have hql := R.bsl
        obtain ⟨a2, cap2, rfl, _, _, _, _, _⟩ := hql
        clear hown' hg' HM1 how HO HBL
        go_wp2
        go_roundw
        case rel => exact ⟨j + 1, by omega, R, RB, hsz'⟩
        case measure => simp [sliceLen]; omega
      · have hj64 : kk.length + j = 64 := by omega
        have hKe : kk ++ List.replicate j 0 = keyL k := by rw [HKK.out]; congr 2; omega
        rw [hKe] at hown
        rw [hj64] at hown ⊢
        have hkl64 := keyL_len k
        obtain ⟨gk, capk, e, hgk, hgkl, _⟩ := hown.shape (by omega)
        simp only [Value.slice.injEq] at e
        obtain ⟨rfl, hz64, rfl⟩ := e
        clear hz64
        have HCK : Hid (∀ q, q < 64 → wr.cell? ⟨gk, q, none⟩ = some (.int .u8 ((keyL k).getD q 0 : Nat))) := by
          intro q hq
          have h1 : Own wr B0 (.slice (some ⟨gk, 0, none⟩) (keyL k).length capj) (keyL k) := by rw [hkl64]; exact hown
          rw [h1.1.cellAt q (by omega), map_byteV_getD (by omega)]
        have HKL := hide (keyL_lt HKB.out)
        have HLW : Hid (Below w.heap.size w wr) := HBe.out.trans (hbel.mono hB0)
        have HGW : Hid (wr.heap[g4]? = some (.cells ga 29 (0, 0))) := by show _ = _; rw [hbel.block g4 hg4lt]; exact HGe.out
        have hmk := run_make_row' (P := Tryd.prog) 22 5 (.int .u8 0) 1 Tryd.underlying22 Tryd.info5 rfl .i64 .i64 64 (by omega) (by omega)
        rw [made_fill ((keyL k).map (fun b => b ^^^ 54)) 64, show ((64 : Nat) : Int) = 64 from rfl] at hmk
        have HF : Hid (fillL ((keyL k).map (fun b => b ^^^ 92)) 64 0 = fillL ((keyL k).map (fun b => b ^^^ 54)) 64 0) := Eq.refl _
        have hXl : ((keyL k).map (fun b => b ^^^ 54)).length = 64 := by rw [List.length_map]; exact hkl64
        have hYl : ((keyL k).map (fun b => b ^^^ 92)).length = 64 := by rw [List.length_map]; exact hkl64
        have HXL := hide hXl
        have HYL := hide hYl
        have HKD : Hid (macL k m = shaL ((keyL k).map (fun b => b ^^^ 92) ++ shaL ((keyL k).map (fun b => b ^^^ 54) ++ m))) := Eq.refl _
        have HXG : Hid (∀ q, q < 64 → ((keyL k).map (fun b => b ^^^ 54)).getD q 0 = (keyL k).getD q 0 ^^^ 54 ∧ ((keyL k).map (fun b => b ^^^ 92)).getD q 0 = (keyL k).getD q 0 ^^^ 92) := by
          intro q hq
          have : q < (keyL k).length := by omega
          simp [List.getD, this]
        have HXB : Hid (∀ b ∈ (keyL k).map (fun b => b ^^^ 54), b < 256) := by
          intro b hb; obtain ⟨c, hc, rfl⟩ := List.mem_map.1 hb; exact xor_byte (HKL.out c hc) (by decide)
        have HYB : Hid (∀ b ∈ (keyL k).map (fun b => b ^^^ 92), b < 256) := by
          intro b hb; obtain ⟨c, hc, rfl⟩ := List.mem_map.1 hb; exact xor_byte (HKL.out c hc) (by decide)
        generalize (keyL k).map (fun b => b ^^^ 54) = X at *
        generalize (keyL k).map (fun b => b ^^^ 92) = Y at *
        have HKV : Hid (∀ q, q < 64 → (keyL k).getD q 0 < 256) := fun q hq => HKL.out _ (mem_getD (by omega))
        generalize keyL k = KL at *
        clear hown hbel hKe hXl hYl hkl64 hj64 hj hlt hl1
        go_wp2_with fail
        clear hmk
        go_loopw [12] (fun i wx => ∃ q : Nat, q ≤ 64 ∧ i = .int .i64 q ∧ wx = (wr.alloc (.cells ((fillL X 64 q).map byteV).toArray 5)).alloc (.cells ((fillL Y 64 q).map byteV).toArray 5)) (fun i _ => 64 - (intOf i).toNat)
        case atStart => exact ⟨0, Nat.zero_le _, rfl, by rw [HF.out]⟩
        case round =>
          obtain ⟨q, hq, rfl, rfl⟩ := hrel
          have hflX := fillL_len hq (by rw [HXL.out]; exact hq)
          have hflY := fillL_len hq (by rw [HYL.out]; exact hq)
          by_cases hlq : q < 64
          · have hck := HCK.out q hlq
            have hkv := HKV.out q hlq
            have hx1 := u8_xor_nat (KL.getD q 0) 54 hkv (by decide)
            have hx2 := u8_xor_nat (KL.getD q 0) 92 hkv (by decide)
            rw [show ((54 : Nat) : Int) = 54 from rfl] at hx1
            rw [show ((92 : Nat) : Int) = 92 from rfl] at hx2
            obtain ⟨g1, g2⟩ := HXG.out q hlq
            have HSX : Hid (((fillL X 64 q).map byteV).toArray.setIfInBounds q (.int .u8 ((KL.getD q 0 ^^^ 54 : Nat) : Int)) = ((fillL X 64 (q + 1)).map byteV).toArray) := by
              show _ = _; rw [← fillL_set hlq (by rw [HXL.out]; exact hlq), List.setIfInBounds_toArray, List.map_set, g1]; rfl
            have HSY : Hid (((fillL Y 64 q).map byteV).toArray.setIfInBounds q (.int .u8 ((KL.getD q 0 ^^^ 92 : Nat) : Int)) = ((fillL Y 64 (q + 1)).map byteV).toArray) := by
              show _ = _; rw [← fillL_set hlq (by rw [HYL.out]; exact hlq), List.setIfInBounds_toArray, List.map_set, g2]; rfl
            have hsX : ((fillL X 64 q).map byteV).toArray.size = 64 := by rw [List.size_toArray, List.length_map, hflX]
            have hsY : ((fillL Y 64 q).map byteV).toArray.size = 64 := by rw [List.size_toArray, List.length_map, hflY]
            obtain ⟨u0, hu0⟩ : ∃ v, ((fillL X 64 q).map byteV).toArray[q]? = some v := ⟨_, Array.getElem?_eq_getElem (by omega)⟩
            obtain ⟨u1, hu1⟩ : ∃ v, ((fillL Y 64 q).map byteV).toArray[q]? = some v := ⟨_, Array.getElem?_eq_getElem (by omega)⟩
            generalize ((fillL X 64 q).map byteV).toArray = ys at *
            generalize ((fillL Y 64 q).map byteV).toArray = zs at *
            generalize KL.getD q 0 = kx at *
            generalize kx ^^^ 54 = k1 at *
            generalize kx ^^^ 92 = k2 at *
            clear g1 g2 hflX hflY
            go_wp2_with fail
            go_roundw
            case rel => exact ⟨q + 1, by omega, by go_num, by rw [HSX.out, HSY.out]⟩
            case measure => simp [intOf]; omega
          · have hq64 : q = 64 := by omega
            subst hq64
            have eX : fillL X 64 64 = X := by rw [fillL, Nat.sub_self, List.replicate_zero, List.append_nil, List.take_of_length_le (by rw [HXL.out]; omega)]
            have eY : fillL Y 64 64 = Y := by rw [fillL, Nat.sub_self, List.replicate_zero, List.append_nil, List.take_of_length_le (by rw [HYL.out]; omega)]
            rw [eX, eY]
            have HBF := hide (below_alloc2 wr (.cells (X.map byteV).toArray 5) (.cells (Y.map byteV).toArray 5))
            have HRX := hide (heap_more (.cells (Y.map byteV).toArray 5) (Go.heap_alloc_new wr (.cells (X.map byteV).toArray 5)))
            have HRY := hide (heap_alloc2_new wr (.cells (X.map byteV).toArray 5) (.cells (Y.map byteV).toArray 5))
            have HGF := hide (heap_more (.cells (Y.map byteV).toArray 5) (heap_more (.cells (X.map byteV).toArray 5) HGW.out))
            have HLF := hide (HLW.out.trans (HBF.out.mono HLW.out.size))
            generalize (wr.alloc (.cells (X.map byteV).toArray 5)).alloc (.cells (Y.map byteV).toArray 5) = wf at *
            have HXS := hide (BSl.ofRow (n := 64) (cap := 64) HRX.out (by show List.take 64 (X.map byteV) = _; rw [List.take_of_length_le (by rw [List.length_map, HXL.out]; omega)]) HXL.out.symm (Nat.le_refl _) (by decide) HXB.out)
            have HYS := hide (BSl.ofRow (n := 64) (cap := 64) HRY.out (by show List.take 64 (Y.map byteV) = _; rw [List.take_of_length_le (by rw [List.length_map, HYL.out]; omega)]) HYL.out.symm (Nat.le_refl _) (by decide) HYB.out)
            clear HBF HRX HRY HCK HLW HGW eX eY hlq hq hflX hflY
            go_wp2_with fail
            refine (join_any _ vm X m wf HXS.out (HM.out.below HLF.out) (by rw [HXL.out]; omega)).mono ?_
            rintro e wg ⟨vg, rfl, hog, hbg⟩
            have HQg := hide hog.bsl
            have HYg := hide (HYS.out.below hbg)
            have HGg := hide (heap_kept hbg HGF.out)
            have HLg := hide (HLF.out.trans (hbg.mono HLF.out.size))
            clear hog hbg HXS HYS HGF HLF
            have hXm : (X ++ m).length < 4611686018427387904 := by rw [List.length_append, HXL.out]; omega
            go_wp2_with fail
            refine (sum256_any vg (X ++ m) wg hXm (HT.out.below HLg.out) HQg.out).mono ?_
            rintro e wh ⟨rfl, hbh⟩
            obtain ⟨f1, f2, f3⟩ := sum_shape (X ++ m)
            have HF1 := hide f1
            have HF2 := hide f2
            have HF3 := hide f3
            have HLh := hide ((HLg.out.trans (hbh.mono HLg.out.size)).alloc (Nat.le_trans HLg.out.size hbh.size) (.cells ((shaL (X ++ m)).map byteV).toArray 29))
            have HGh := hide (heap_more (.cells ((shaL (X ++ m)).map byteV).toArray 29) (heap_kept hbh HGg.out))
            have HYh := hide ((HYg.out.below hbh).below (below_alloc wh (.cells ((shaL (X ++ m)).map byteV).toArray 29)))
            have HFS := hide (BSl.ofRow (n := 32) (cap := 32) (l := shaL (X ++ m)) (Go.heap_alloc_new wh (.cells ((shaL (X ++ m)).map byteV).toArray 29)) (by show List.take 32 ((shaL (X ++ m)).map byteV) = _; rw [List.take_of_length_le (by rw [List.length_map, shaL_len]; omega)]) (shaL_len _).symm (Nat.le_refl _) (by decide) (shaL_lt _))
            have hfl := shaL_len (X ++ m)
            clear f1 f2 f3 hbh HQg HYg HGg HLg
            generalize ((shaL (X ++ m)).map byteV).toArray = fa at *
            go_wp2_with (first
              | refine wpList_alloc_as rfl 29 rfl (.agg zero32) zero32 Tryd.zero32 rfl ?_
              | (refine wpList_store_row rfl 29 _ _ rfl wh.heap.size fa (by first | rfl | simp [Act.eval, Act.put]) (by first | rfl | simp [Act.eval, Act.put]) 29 zero32 (Go.heap_alloc_new wh _) HF1.out HF2.out HF3.out ?_; rw [World.setRow_alloc_new]))
            generalize wh.heap.size = gf at *
            generalize wh.alloc (.cells fa 29) = wi at *
            refine (join_any _ _ Y (shaL (X ++ m)) wi HYh.out HFS.out (by rw [HYL.out, hfl]; omega)).mono ?_
            rintro e wj ⟨vj, rfl, hoj, hbj⟩
            have HQj := hide hoj.bsl
            have HGj := hide (heap_kept hbj HGh.out)
            have HLj := hide (HLh.out.trans (hbj.mono HLh.out.size))
            clear hoj hbj HYh HFS HGh HLh
            go_wp2_with fail
            refine (sum256_any vj (Y ++ shaL (X ++ m)) wj (by rw [List.length_append, HYL.out, hfl]; omega) (HT.out.below HLj.out) HQj.out).mono ?_
            rintro e wk ⟨rfl, hbk⟩
            rw [← HKD.out, HGA.out]
            have HLk := hide ((HLj.out.trans (hbk.mono HLj.out.size)).alloc (Nat.le_trans HLj.out.size hbk.size) (.cells ga 29))
            have HGk := hide (heap_more (.cells ga 29) (heap_kept hbk HGj.out))
            have HHk := hide (Go.heap_alloc_new wk (.cells ga 29))
            clear hbk HQj HGj HLj hfl hXm
            go_wp2_with (first
              | refine wpList_alloc_as rfl 29 rfl (.agg zero32) zero32 Tryd.zero32 rfl ?_
              | (refine wpList_store_row rfl 29 _ _ rfl wk.heap.size ga (by first | rfl | simp [Act.eval, Act.put]) (by first | rfl | simp [Act.eval, Act.put]) 29 zero32 (Go.heap_alloc_new wk _) HS1.out HS2.out HS3.out ?_; rw [World.setRow_alloc_new])
              | refine wpList_load_row rfl 29 (.tmp 5) rfl g4 rfl 29 ga (0, 0) _ HGk.out Tryd.underlying29 rfl HS1.out ?_
              | refine wpList_load_row rfl 29 (.tmp 14) rfl wk.heap.size rfl 29 ga (0, 0) _ HHk.out Tryd.underlying29 rfl HS1.out ?_)
            refine (HEQ.out _).mono ?_
            rintro e wl ⟨rfl, hbl⟩
            have HLl := hide (HLk.out.trans (hbl.mono HLk.out.size))
            clear hbl HLk HGk HHk
            go_wp2_with fail
            go_ret
            exact ⟨rfl, HLl.out⟩
end Go.Proofs.YtbkcenpohcjgnabDoor
