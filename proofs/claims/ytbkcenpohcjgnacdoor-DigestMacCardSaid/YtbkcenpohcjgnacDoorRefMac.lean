import Derived.Test.YtbkcenpohcjgnacDoorRefSum
import Derived.Test.YtbkcenpohcjgnacDoorMac
import Derived.Test.YtbkcenpohcjgnacDoorApp2
import Derived.Deep.RegionHeld3
import Derived.Deep.MidRow
namespace Go.Proofs.YtbkcenpohcjgnacDoor
open Go.RowKit
open Num
set_option linter.unusedVariables false
set_option linter.unusedSimpArgs false

theorem own_nil (w : World) (base : Nat) : Own w base (.slice none 0 0) [] := ⟨⟨rfl, .inl ⟨rfl, rfl⟩⟩, by simp⟩
theorem own_empty (w : World) (base : Nat) (h : base ≤ w.heap.size) : Own (w.alloc (.cells #[] 5)) base (.slice (some ⟨w.heap.size, 0, none⟩) 0 0) [] :=
  ⟨World.ownsRow_made w #[] 0 h (by unfold maxLen; omega) rfl, by simp⟩
theorem own_slice {w : World} {base : Nat} {v : Value} {l : List Nat} (h : Own w base v l) : ∃ a cap, v = .slice a l.length cap ∧ l.length ≤ cap ∧ cap ≤ maxLen := by
  obtain ⟨a, cap, e, h1, h2, _⟩ := h.bsl
  exact ⟨a, cap, e, h1, h2⟩
theorem keyed_lt {k : List Nat} (m : Nat) (hm : m < 256) (h : ∀ b ∈ k, b < 256) : ∀ b ∈ k.map (fun b => b ^^^ m), b < 256 := by
  intro b hb; obtain ⟨c, hc, rfl⟩ := List.mem_map.1 hb; exact xor_byte (h c hc) hm
theorem keyed_getD {k : List Nat} (m : Nat) {q : Nat} (h : q < k.length) : (k.map (fun b => b ^^^ m)).getD q 0 = k.getD q 0 ^^^ m := by simp [List.getD, h]
theorem take_next {l : List Nat} {q : Nat} (h : q < l.length) : l.take q ++ [l.getD q 0] = l.take (q + 1) := by
  rw [List.take_succ_eq_append_getElem h]; simp [List.getD, h]

set_option maxRecDepth 100000 in
set_option maxHeartbeats 8000000 in
theorem refMac_any (u v : Value) (k l : List Nat) (w : World) (hu : BSl w u k) (hv : BSl w v l) (hr1 : k.length ≤ 140737488351232) (hr2 : l.length ≤ 140737488351232) (hB : Tab w 0 H0) (hR : Tab w 1 Ks) :
    Calls Tryd.prog 8 #[u, v] w fun e w' => e = .returned (.agg ((macL k l).map byteV).toArray) ∧ Below w.heap.size w w' := by
  have HV := hide hv
  have HTB := hide (hB.below (below_alloc w (.cells zero32 24)))
  have HTR := hide (hR.below (below_alloc w (.cells zero32 24)))
  have HU0 := hide ((hu.below (below_alloc w (.cells zero32 24))).below (below_alloc _ (.cells #[] 5)))
  have HV0 := hide (hv.below (below_alloc w (.cells zero32 24)))
  have HZ0 := hide (Go.heap_alloc_new w (.cells zero32 24))
  have HM0 := hide (own_empty (w.alloc (.cells zero32 24)) (w.heap.size + 1) (by simp))
  have HBW := hide (below_alloc w (.cells zero32 24))
  have HBX := hide (below_alloc (w.alloc (.cells zero32 24)) (.cells #[] 5))
  have hW0 : (w.alloc (.cells zero32 24)).heap.size = w.heap.size + 1 := by simp
  rw [hW0] at HM0 HBX
  have HKB := hide hu.bytes
  have HMA : Hid (macL k l = shaL ((keyL k).map (fun b => b ^^^ 92) ++ shaL ((keyL k).map (fun b => b ^^^ 54) ++ l))) := Eq.refl _
  have HKL := hide (keyL_len k)
  have HKBB := hide (keyL_lt hu.bytes)
  obtain ⟨au, cu, hue, _, hum, _, _, _⟩ := hu
  obtain ⟨av, cv, hve, _, hvm, _, _, _⟩ := hv
  subst hue
  subst hve
  unfold maxLen at hum hvm
  clear hB hR
  go_enter Tryd.func8, Tryd.ntmps8
  go_wp2_with (first
    | refine wpList_alloc_as rfl 24 rfl (.agg zero32) zero32 Tryd.zero32 rfl ?_
    | (at_builtin; refine wpList_app2 rfl (.tmp 11) (.tmp 12) rfl (w.heap.size + 1) _ _ [] k rfl rfl HM0.out HU0.out (by simp; omega) (by simp) ?_))
  obtain ⟨W0, hW0e⟩ : ∃ W0, w.alloc (.cells zero32 24) = W0 := ⟨_, rfl⟩
  rw [hW0e] at HTB HTR HV0 HZ0 HBW HBX hW0 ⊢
  intro v1 w1 hown hb1 hs1 _
  have HB1 : Hid (Below (w.heap.size + 1) W0 w1) := HBX.out.trans hb1
  have HO1 := hide hown
  obtain ⟨a1, cap1, hv1, hl1, hm1⟩ := own_slice hown
  subst hv1
  unfold maxLen at hm1
  obtain ⟨B0, hB0⟩ : ∃ B0, w.heap.size + 1 = B0 := ⟨_, rfl⟩
  rw [hB0] at HB1 HO1 hs1 hW0
  have hB0w : w.heap.size < B0 := by omega
  have HGE : Hid (∀ wx, Below B0 W0 wx → wx.heap[w.heap.size]? = some (.cells zero32 24 (0, 0)) ∧ Below w.heap.size w wx) := fun wx hb => by
    rw [← hW0] at hb
    exact ⟨heap_kept hb HZ0.out, HBW.out.trans (hb.mono HBW.out.size)⟩
  have HGT : Hid (∀ wx, Below B0 W0 wx → Tab wx 0 H0 ∧ Tab wx 1 Ks ∧ BSl wx (.slice av l.length cv) l) := fun wx hb => by
    rw [← hW0] at hb
    exact ⟨HTB.out.below hb, HTR.out.below hb, HV0.out.below hb⟩
  have HB00 := hide hB0
  clear hown hb1 HM0 HU0 HBX hB0 hW0e HTB HTR HV0 HZ0
  by_cases hlen : 64 < k.length
  · have hlenI : (64 : Int) < (k.length : Int) := by omega
    go_wp2_with fail
    obtain ⟨t1, t2, _⟩ := HGT.out _ HB1.out
    refine (refSum_any _ k w1 HO1.out.bsl (by omega) t1 t2).mono ?_
    rintro e w2 ⟨rfl, hb2⟩
    obtain ⟨f1, f2, f3⟩ := sum_shape k
    have hsl := shaL_len k
    have hsb := shaL_lt k
    have HKK : Hid (keyL k = shaL k ++ List.replicate (64 - (shaL k).length) 0) := by show _ = _; rw [keyL, if_pos hlen, hsl]
    obtain ⟨sa, hsa⟩ : ∃ sa, ((shaL k).map byteV).toArray = sa := ⟨_, rfl⟩
    rw [hsa] at f1 f2 f3 ⊢
    have HBk : Hid (Below B0 W0 (w2.alloc (.cells sa 24))) := (HB1.out.trans (hb2.mono hs1)).alloc (Nat.le_trans hs1 hb2.size) _
    have HBS : Hid (BSl (w2.alloc (.cells sa 24)) (.slice (some ⟨w2.heap.size, 0, none⟩) 32 32) (shaL k)) := BSl.ofRow (n := 32) (cap := 32) (Go.heap_alloc_new w2 (.cells sa 24)) (by rw [← hsa]; show List.take 32 ((shaL k).map byteV) = _; rw [List.take_of_length_le (by rw [List.length_map, hsl]; omega)]) hsl.symm (Nat.le_refl _) (by decide) hsb
    have hs2 : B0 ≤ w2.heap.size := Nat.le_trans hs1 hb2.size
    have hkk : (shaL k).length ≤ 64 := by rw [hsl]; omega
    generalize shaL k = kk at *
    clear hb2 hsa hsl hsb HO1 HB1 t1 t2 hlen
    have HME := hide (own_empty (w2.alloc (.cells sa 24)) B0 (by simp; omega))
    have HSS := hide (HBS.out.below (below_alloc (w2.alloc (.cells sa 24)) (.cells #[] 5)))
    have HBe : Hid (Below B0 W0 ((w2.alloc (.cells sa 24)).alloc (.cells #[] 5))) := HBk.out.alloc (by simp; omega) _
    have hsz2 : (w2.alloc (.cells sa 24)).heap.size = w2.heap.size + 1 := by simp
    rw [hsz2] at HME
    go_wp2_with (first
      | refine wpList_alloc_as rfl 24 rfl (.agg zero32) zero32 Tryd.zero32 rfl ?_
      | (refine wpList_store_row rfl 24 (.tmp 6) (.tmp 18) rfl w2.heap.size sa (by first | rfl | simp [Act.eval, Act.put]) (by first | rfl | simp [Act.eval, Act.put]) 24 zero32 (Go.heap_alloc_new w2 _) f1 f2 f3 ?_; rw [World.setRow_alloc_new])
      | (at_builtin; refine wpList_app2 rfl (.tmp 19) (.tmp 20) rfl B0 _ _ [] kk (by first | rfl | simp [Act.eval, Act.put]) (by first | rfl | simp [Act.eval, Act.put]) HME.out HSS.out (by simp; omega) (by simp; omega) ?_))
    intro v3 w3 hown3 hb3 hs3 _
    have HB3 : Hid (Below B0 W0 w3) := HBe.out.trans hb3
    have HO3 : Hid (Own w3 B0 v3 kk) := hown3
    obtain ⟨a3, cap3, hv3, hl3, hm3⟩ := own_slice HO3.out
    subst hv3
    unfold maxLen at hm3
    clear hown3 hb3 HME HSS HBe HBk HBS hsz2
    go_wp2_with fail
    clear hlenI
    go_loopw [5] (fun vk wr => ∃ j : Nat, kk.length + j ≤ 64 ∧ Own wr B0 vk (kk ++ List.replicate j 0) ∧ Below B0 W0 wr ∧ B0 ≤ wr.heap.size) (fun vk _ => 64 - sliceLen vk)
    case atStart => exact ⟨0, by omega, by rw [List.replicate_zero, List.append_nil]; exact HO3.out, HB3.out, hs3⟩
    case round =>
      clear HO3 HB3 hs3
      obtain ⟨j, hj, hown, hbel, hszr⟩ := hrel
      have hlj : (kk ++ List.replicate j 0).length = kk.length + j := by simp
      obtain ⟨aj, capj, hvj, hl4, hm4⟩ := own_slice hown
      rw [hlj] at hvj hl4
      subst hvj
      unfold maxLen at hm4
      by_cases hlt : kk.length + j < 64
      · have hltI : (kk.length : Int) + (j : Int) < 64 := by omega
        have HE : Hid ((kk ++ List.replicate j 0) ++ [0] = kk ++ List.replicate (j + 1) 0) := by
          show _ = _; rw [List.append_assoc, List.replicate_succ']
        have HLJ := hide hlj
        have HO := hide hown
        have HBL := hide hbel
        have hone : BSl (wr.alloc (.cells #[.int .u8 0] 5)) (.slice (some ⟨wr.heap.size, 0, none⟩) 1 1) [0] := BSl.one 0 (by decide) 5
        generalize kk ++ List.replicate j 0 = LL at *
        clear hown hbel hlj
        go_wp2_with (at_builtin; refine wpList_app2 rfl (.tmp 25) (.tmp 26) rfl B0 _ _ LL [0] rfl rfl (HO.out.grown rfl) hone (by rw [HLJ.out]; simp; omega) (by simp; omega) ?_)
        intro v' w' hown' hb' hs' _
        rw [HE.out] at hown'
        have R := hide hown'
        have RB : Hid (Below B0 W0 w') := (HBL.out.alloc hszr _).trans hb'
        obtain ⟨a', cap', hv', _, _⟩ := own_slice hown'
        subst hv'
        clear hown' hb' HO HBL hone
        go_wp2
        go_roundw
        case rel => exact ⟨j + 1, by omega, R.out, RB.out, hs'⟩
        case measure => simp [sliceLen]; omega
      · have hj64 : kk.length + j = 64 := by omega
        have hKe : kk ++ List.replicate j 0 = keyL k := by rw [HKK.out]; congr 2; omega
        rw [hKe] at hown
        rw [hj64] at hown hl4 ⊢
        have HOK := hide hown
        have HBL := hide hbel
        have HXL : Hid (((keyL k).map (fun b => b ^^^ 54)).length = 64) := by show _ = _; rw [List.length_map]; exact HKL.out
        have HYL : Hid (((keyL k).map (fun b => b ^^^ 92)).length = 64) := by show _ = _; rw [List.length_map]; exact HKL.out
        have HXB := hide (keyed_lt 54 (by decide) HKBB.out)
        have HYB := hide (keyed_lt 92 (by decide) HKBB.out)
        have HXG : Hid (∀ q, q < 64 → ((keyL k).map (fun b => b ^^^ 54)).getD q 0 = (keyL k).getD q 0 ^^^ 54 ∧ ((keyL k).map (fun b => b ^^^ 92)).getD q 0 = (keyL k).getD q 0 ^^^ 92) := fun q hq => ⟨keyed_getD 54 (by rw [HKL.out]; exact hq), keyed_getD 92 (by rw [HKL.out]; exact hq)⟩
        have HKV : Hid (∀ q, q < 64 → (keyL k).getD q 0 < 256) := fun q hq => HKBB.out _ (mem_getD (by rw [HKL.out]; exact hq))
        have HKLl := hide HKL.out
        generalize (keyL k).map (fun b => b ^^^ 54) = X at *
        generalize (keyL k).map (fun b => b ^^^ 92) = Y at *
        generalize keyL k = KL at *
        clear hown hbel hKe hj64 hj hlt hlj
        go_wp2_with fail
        go_loopw [7, 8, 9] (fun vi vo iv wx => ∃ q : Nat, q ≤ 64 ∧ iv = .int .i64 q ∧ Own wx B0 vi (X.take q) ∧ Own wx B0 vo (Y.take q) ∧ Own wx B0 (.slice aj 64 capj) KL ∧ Apart vi vo ∧ Apart vi (.slice aj 64 capj) ∧ Apart vo (.slice aj 64 capj) ∧ Below B0 W0 wx ∧ B0 ≤ wx.heap.size) (fun _ _ iv _ => 64 - (intOf iv).toNat)
        case atStart => exact ⟨0, Nat.zero_le _, rfl, own_nil _ _, own_nil _ _, HOK.out, apart_nil _, apart_nil _, apart_nil _, HBL.out, hszr⟩
        case round =>
          clear HOK HBL hszr
          obtain ⟨q, hq, rfl, hoi, hoo, hok, ap1, ap2, ap3, hbl, hszr⟩ := hrel
          have hXt : (X.take q).length = q := by rw [List.length_take, HXL.out]; omega
          have hYt : (Y.take q).length = q := by rw [List.length_take, HYL.out]; omega
          obtain ⟨ai, ci, hvi, hli, hmi⟩ := own_slice hoi
          obtain ⟨ao, co, hvo, hlo, hmo⟩ := own_slice hoo
          rw [hXt] at hvi hli
          rw [hYt] at hvo hlo
          subst hvi
          subst hvo
          unfold maxLen at hmi hmo
          by_cases hlq : q < 64
          · obtain ⟨gk, capk, e, _, hgkl, _⟩ := hok.shape (by rw [HKLl.out]; omega)
            rw [HKLl.out] at e
            simp only [Value.slice.injEq, true_and] at e
            obtain ⟨rfl, rfl⟩ := e
            have hck : ∀ wz, Own wz B0 (.slice (some ⟨gk, 0, none⟩) 64 capj) KL → wz.cell? ⟨gk, q, none⟩ = some (.int .u8 (KL.getD q 0 : Nat)) := by
              intro wz h
              have h1 : Own wz B0 (.slice (some ⟨gk, 0, none⟩) KL.length capj) KL := by rw [HKLl.out]; exact h
              rw [h1.1.cellAt q (by rw [HKLl.out]; omega), map_byteV_getD (by rw [HKLl.out]; omega)]
            have hc0 := hck _ hok
            have HCK := hide hck
            have hkv := HKV.out q hlq
            have hx1 := u8_xor_nat (KL.getD q 0) 54 hkv (by decide)
            have hx2 := u8_xor_nat (KL.getD q 0) 92 hkv (by decide)
            rw [show ((54 : Nat) : Int) = 54 from rfl] at hx1
            rw [show ((92 : Nat) : Int) = 92 from rfl] at hx2
            obtain ⟨g1, g2⟩ := HXG.out q hlq
            have HXN : Hid (X.take q ++ [KL.getD q 0 ^^^ 54] = X.take (q + 1)) := by show _ = _; rw [← g1]; exact take_next (by rw [HXL.out]; exact hlq)
            have HYN : Hid (Y.take q ++ [KL.getD q 0 ^^^ 92] = Y.take (q + 1)) := by show _ = _; rw [← g2]; exact take_next (by rw [HYL.out]; exact hlq)
            have hk1 : KL.getD q 0 ^^^ 54 < 256 := xor_byte hkv (by decide)
            have hk2 : KL.getD q 0 ^^^ 92 < 256 := xor_byte hkv (by decide)
            generalize KL.getD q 0 = kx at *
            generalize kx ^^^ 54 = k1 at *
            generalize kx ^^^ 92 = k2 at *
            have hone1 : BSl (wr.alloc (.cells #[.int .u8 (k1 : Int)] 5)) (.slice (some ⟨wr.heap.size, 0, none⟩) 1 1) [k1] := BSl.one k1 hk1 5
            have HOI := hide (hoi.grown (o := .cells #[.int .u8 (k1 : Int)] 5) rfl)
            have HOO := hide (hoo.grown (o := .cells #[.int .u8 (k1 : Int)] 5) rfl)
            have HOK := hide (hok.grown (o := .cells #[.int .u8 (k1 : Int)] 5) rfl)
            have HBL : Hid (Below B0 W0 (wr.alloc (.cells #[.int .u8 (k1 : Int)] 5))) := hbl.alloc hszr _
            have hlqI : (q : Int) < 64 := by omega
            have HXt := hide hXt
            have HYt := hide hYt
            have AP1 := hide ap1
            have AP2 := hide ap2
            have AP3 := hide ap3
            clear hoi hoo hok hbl g1 g2 hkv hck ap1 ap2 ap3 hXt hYt
            go_wp2_with (at_builtin; refine wpList_app2 rfl (.tmp 32) (.tmp 38) rfl B0 _ _ (X.take q) [k1] rfl rfl HOI.out hone1 (by rw [HXt.out]; simp; omega) (by simp; omega) ?_)
            intro v' w' hown' hb' hs' hkeep
            rw [HXN.out] at hown'
            obtain ⟨hoo', ap1'⟩ := hkeep _ _ _ HOO.out AP1.out
            obtain ⟨hok', ap2'⟩ := hkeep _ _ _ HOK.out AP2.out
            have HBL2 : Hid (Below B0 W0 w') := HBL.out.trans hb'
            obtain ⟨a', cap', hv', hl7, hm7⟩ := own_slice hown'
            rw [show (X.take (q + 1)).length = q + 1 by rw [List.length_take, HXL.out]; omega] at hv' hl7
            subst hv'
            unfold maxLen at hm7
            have hc1 := HCK.out _ hok'
            have hone2 : BSl (w'.alloc (.cells #[.int .u8 (k2 : Int)] 5)) (.slice (some ⟨w'.heap.size, 0, none⟩) 1 1) [k2] := BSl.one k2 hk2 5
            have HOI2 := hide (hown'.grown (o := .cells #[.int .u8 (k2 : Int)] 5) rfl)
            have HOO2 := hide (hoo'.grown (o := .cells #[.int .u8 (k2 : Int)] 5) rfl)
            have HOK2 := hide (hok'.grown (o := .cells #[.int .u8 (k2 : Int)] 5) rfl)
            have HBL3 : Hid (Below B0 W0 (w'.alloc (.cells #[.int .u8 (k2 : Int)] 5))) := HBL2.out.alloc hs' _
            have AP1' := hide ap1'.symm
            have AP2' := hide ap2'
            clear hown' hb' hkeep hoo' hok' ap1' ap2' HOI HOO HOK HBL HBL2 hone1 hc0 AP1 AP2
            go_wp2_with (at_builtin; refine wpList_app2 rfl (.tmp 40) (.tmp 46) rfl B0 _ _ (Y.take q) [k2] rfl rfl HOO2.out hone2 (by rw [HYt.out]; simp; omega) (by simp; omega) ?_)
            intro v2 w2' hown2 hb2' hs2' hkeep2
            rw [HYN.out] at hown2
            obtain ⟨hoi3, ap13⟩ := hkeep2 _ _ _ HOI2.out AP1'.out
            obtain ⟨hok3, ap33⟩ := hkeep2 _ _ _ HOK2.out AP3.out
            have HBL4 : Hid (Below B0 W0 w2') := HBL3.out.trans hb2'
            obtain ⟨a2', cap2', hv2', _, _⟩ := own_slice hown2
            subst hv2'
            have R1 := hide hoi3
            have R2 := hide hown2
            have R3 := hide hok3
            have R4 := hide ap13.symm
            have R5 := hide ap33
            clear hown2 hb2' hkeep2 hoi3 hok3 ap13 ap33 HOI2 HOO2 HOK2 HBL3 hone2 hc1 AP3 AP1' HCK
            go_wp2
            go_roundw
            case rel => exact ⟨q + 1, by omega, by go_num, R1.out, R2.out, R3.out, R4.out, AP2'.out, R5.out, HBL4.out, hs2'⟩
            case measure => simp [intOf]; omega
          · have hq64 : q = 64 := by omega
            subst hq64
            rw [List.take_of_length_le (by rw [HXL.out]; omega)] at hoi
            rw [List.take_of_length_le (by rw [HYL.out]; omega)] at hoo
            obtain ⟨t1, t2, t3⟩ := HGT.out _ hbl
            have HOI := hide hoi
            have HOO := hide hoo
            have HBL := hide hbl
            have HMS := hide t3
            have AP1 := hide ap1
            have HXLn := HXL.out
            have HYLn := HYL.out
            have HXm : Hid (X.length + l.length + 72 ≤ 140737488355328) := by show _ ≤ _; rw [HXLn]; omega
            clear hoi hoo hok ap1 ap2 ap3 hbl t1 t2 t3 hlq hq hXt hYt
            go_wp2_with (at_builtin; refine wpList_app2 rfl (.tmp 48) (.tmp 49) rfl B0 _ _ X l rfl rfl HOI.out HMS.out (by have := HXm.out; omega) hszr ?_)
            intro v5 w5 hown5 hb5 hs5 hkeep5
            obtain ⟨hoo5, _⟩ := hkeep5 _ _ _ HOO.out AP1.out
            have HO5 := hide hown5
            have HOO5 := hide hoo5
            have HB5 : Hid (Below B0 W0 w5) := HBL.out.trans hb5
            clear hown5 hb5 hkeep5 hoo5 HOI HOO HBL HMS AP1
            go_wp2_with fail
            obtain ⟨t1, t2, _⟩ := HGT.out _ HB5.out
            refine (refSum_any _ (X ++ l) w5 HO5.out.bsl (by rw [List.length_append]; exact HXm.out) t1 t2).mono ?_
            rintro e w6 ⟨rfl, hb6⟩
            obtain ⟨f1, f2, f3⟩ := sum_shape (X ++ l)
            have hsl := shaL_len (X ++ l)
            have hsb := shaL_lt (X ++ l)
            obtain ⟨sc, hsc⟩ : ∃ sc, ((shaL (X ++ l)).map byteV).toArray = sc := ⟨_, rfl⟩
            rw [hsc] at f1 f2 f3 ⊢
            have HB6 : Hid (Below B0 W0 (w6.alloc (.cells sc 24))) := (HB5.out.trans (hb6.mono hs5)).alloc (Nat.le_trans hs5 hb6.size) _
            have HS6 : Hid (BSl (w6.alloc (.cells sc 24)) (.slice (some ⟨w6.heap.size, 0, none⟩) 32 32) (shaL (X ++ l))) := BSl.ofRow (n := 32) (cap := 32) (Go.heap_alloc_new w6 (.cells sc 24)) (by rw [← hsc]; show List.take 32 ((shaL (X ++ l)).map byteV) = _; rw [List.take_of_length_le (by rw [List.length_map, hsl]; omega)]) hsl.symm (Nat.le_refl _) (by decide) hsb
            have HOO6 := hide ((HOO5.out.kept hb6).grown (o := .cells sc 24) rfl)
            have hs6 : B0 ≤ (w6.alloc (.cells sc 24)).heap.size := by have := hb6.size; simp; omega
            have HFL : Hid ((shaL (X ++ l)).length = 32) := hsl
            generalize shaL (X ++ l) = fst at *
            clear hb6 hsc hsl hsb t1 t2 HO5 HOO5 HB5
            go_wp2_with (first
              | refine wpList_alloc_as rfl 24 rfl (.agg zero32) zero32 Tryd.zero32 rfl ?_
              | (refine wpList_store_row rfl 24 (.tmp 10) (.tmp 52) rfl w6.heap.size sc (by first | rfl | simp [Act.eval, Act.put]) (by first | rfl | simp [Act.eval, Act.put]) 24 zero32 (Go.heap_alloc_new w6 _) f1 f2 f3 ?_; rw [World.setRow_alloc_new])
              | (at_builtin; refine wpList_app2 rfl (.tmp 53) (.tmp 54) rfl B0 _ _ Y fst (by first | rfl | simp [Act.eval, Act.put]) (by first | rfl | simp [Act.eval, Act.put]) HOO6.out HS6.out (by rw [HFL.out, HYLn]; decide) hs6 ?_))
            intro v8 w8 hown8 hb8 hs8 _
            have HO8 := hide hown8
            have HB8 : Hid (Below B0 W0 w8) := HB6.out.trans hb8
            clear hown8 hb8 HOO6 HS6 HB6
            go_wp2_with fail
            obtain ⟨t1, t2, _⟩ := HGT.out _ HB8.out
            refine (refSum_any _ (Y ++ fst) w8 HO8.out.bsl (by rw [List.length_append, HFL.out, HYLn]; decide) t1 t2).mono ?_
            rintro e w9 ⟨rfl, hb9⟩
            rw [← HMA.out]
            have HB9 : Hid (Below B0 W0 w9) := HB8.out.trans (hb9.mono hs8)
            obtain ⟨HZr, HBr⟩ := HGE.out _ HB9.out
            have e1 : (Tryd.prog.info? 24).map (·.size) = some ((macL k l).map byteV).toArray.size ∧ zero32.size = ((macL k l).map byteV).toArray.size ∧ ((macL k l).map byteV).toArray.all (·.oneCell') = true := by
              have h : ((macL k l).map byteV).toArray.size = 32 := by rw [List.size_toArray, List.length_map, macL_len]
              exact ⟨by rw [h]; exact Tryd.size32, by rw [h]; rfl, oneCell_map _⟩
            obtain ⟨e1, e2, e3⟩ := e1
            obtain ⟨oa, hoa⟩ : ∃ oa, ((macL k l).map byteV).toArray = oa := ⟨_, rfl⟩
            rw [hoa] at e1 e2 e3 ⊢
            have HOA := hide hoa
            have HRZ := hide HZr
            have HRB := hide HBr
            have HRS := hide (setRow_heap w9 w.heap.size zero32 oa 24 (0, 0) HZr)
            clear hb9 hoa HZr HBr t1 t2
            go_wp2_with (refine wpList_store_row rfl 24 (.tmp 4) _ rfl w.heap.size oa rfl rfl 24 zero32 HRZ.out e1 e2 e3 ?_)
            exact bodyPost_ret (v := .agg oa) (results_cell_row rfl _ _ w.heap.size 24 oa (0, 0) _ rfl HRS.out Tryd.underlying24 rfl e1) rfl ⟨by rw [HOA.out], below_setRow HRB.out (Nat.le_refl _) _⟩
  · have hlenI : ¬ (64 : Int) < (k.length : Int) := by omega
    have HKK : Hid (keyL k = k ++ List.replicate (64 - k.length) 0) := by show _ = _; rw [keyL, if_neg hlen]
    have hkk : k.length ≤ 64 := by omega
    have HO3 := HO1
    have HB3 := HB1
    have hs3 := hs1
    clear HO1 HB1 hs1
    obtain ⟨kk, hkke⟩ : ∃ kk, k = kk := ⟨_, rfl⟩
    have HKE := hide hkke
    rw [hkke] at HO3
    have hkk2 : kk.length ≤ 64 := by rw [← hkke]; exact hkk
    have HKK2 : Hid (keyL k = kk ++ List.replicate (64 - kk.length) 0) := by show _ = _; rw [HKK.out, hkke]
    clear HKK
    have HKK := HKK2
    clear HKK2 hkke
    obtain ⟨w3, hw3⟩ : ∃ w3, w1 = w3 := ⟨_, rfl⟩
    subst hw3
    go_wp2_with fail
    clear hlenI
    go_loopw [5] (fun vk wr => ∃ j : Nat, kk.length + j ≤ 64 ∧ Own wr B0 vk (kk ++ List.replicate j 0) ∧ Below B0 W0 wr ∧ B0 ≤ wr.heap.size) (fun vk _ => 64 - sliceLen vk)
    case atStart => exact ⟨0, by omega, by rw [List.replicate_zero, List.append_nil]; rw [HKE.out]; exact HO3.out, HB3.out, hs3⟩
    case round =>
      clear HO3 HB3 hs3
      obtain ⟨j, hj, hown, hbel, hszr⟩ := hrel
      have hlj : (kk ++ List.replicate j 0).length = kk.length + j := by simp
      obtain ⟨aj, capj, hvj, hl4, hm4⟩ := own_slice hown
      rw [hlj] at hvj hl4
      subst hvj
      unfold maxLen at hm4
      by_cases hlt : kk.length + j < 64
      · have hltI : (kk.length : Int) + (j : Int) < 64 := by omega
        have HE : Hid ((kk ++ List.replicate j 0) ++ [0] = kk ++ List.replicate (j + 1) 0) := by
          show _ = _; rw [List.append_assoc, List.replicate_succ']
        have HLJ := hide hlj
        have HO := hide hown
        have HBL := hide hbel
        have hone : BSl (wr.alloc (.cells #[.int .u8 0] 5)) (.slice (some ⟨wr.heap.size, 0, none⟩) 1 1) [0] := BSl.one 0 (by decide) 5
        generalize kk ++ List.replicate j 0 = LL at *
        clear hown hbel hlj
        go_wp2_with (at_builtin; refine wpList_app2 rfl (.tmp 25) (.tmp 26) rfl B0 _ _ LL [0] rfl rfl (HO.out.grown rfl) hone (by rw [HLJ.out]; simp; omega) (by simp; omega) ?_)
        intro v' w' hown' hb' hs' _
        rw [HE.out] at hown'
        have R := hide hown'
        have RB : Hid (Below B0 W0 w') := (HBL.out.alloc hszr _).trans hb'
        obtain ⟨a', cap', hv', _, _⟩ := own_slice hown'
        subst hv'
        clear hown' hb' HO HBL hone
        go_wp2
        go_roundw
        case rel => exact ⟨j + 1, by omega, R.out, RB.out, hs'⟩
        case measure => simp [sliceLen]; omega
      · have hj64 : kk.length + j = 64 := by omega
        have hKe : kk ++ List.replicate j 0 = keyL k := by rw [HKK.out]; congr 2; omega
        rw [hKe] at hown
        rw [hj64] at hown hl4 ⊢
        have HOK := hide hown
        have HBL := hide hbel
        have HXL : Hid (((keyL k).map (fun b => b ^^^ 54)).length = 64) := by show _ = _; rw [List.length_map]; exact HKL.out
        have HYL : Hid (((keyL k).map (fun b => b ^^^ 92)).length = 64) := by show _ = _; rw [List.length_map]; exact HKL.out
        have HXB := hide (keyed_lt 54 (by decide) HKBB.out)
        have HYB := hide (keyed_lt 92 (by decide) HKBB.out)
        have HXG : Hid (∀ q, q < 64 → ((keyL k).map (fun b => b ^^^ 54)).getD q 0 = (keyL k).getD q 0 ^^^ 54 ∧ ((keyL k).map (fun b => b ^^^ 92)).getD q 0 = (keyL k).getD q 0 ^^^ 92) := fun q hq => ⟨keyed_getD 54 (by rw [HKL.out]; exact hq), keyed_getD 92 (by rw [HKL.out]; exact hq)⟩
        have HKV : Hid (∀ q, q < 64 → (keyL k).getD q 0 < 256) := fun q hq => HKBB.out _ (mem_getD (by rw [HKL.out]; exact hq))
        have HKLl := hide HKL.out
        generalize (keyL k).map (fun b => b ^^^ 54) = X at *
        generalize (keyL k).map (fun b => b ^^^ 92) = Y at *
        generalize keyL k = KL at *
        clear hown hbel hKe hj64 hj hlt hlj
        go_wp2_with fail
        go_loopw [7, 8, 9] (fun vi vo iv wx => ∃ q : Nat, q ≤ 64 ∧ iv = .int .i64 q ∧ Own wx B0 vi (X.take q) ∧ Own wx B0 vo (Y.take q) ∧ Own wx B0 (.slice aj 64 capj) KL ∧ Apart vi vo ∧ Apart vi (.slice aj 64 capj) ∧ Apart vo (.slice aj 64 capj) ∧ Below B0 W0 wx ∧ B0 ≤ wx.heap.size) (fun _ _ iv _ => 64 - (intOf iv).toNat)
        case atStart => exact ⟨0, Nat.zero_le _, rfl, own_nil _ _, own_nil _ _, HOK.out, apart_nil _, apart_nil _, apart_nil _, HBL.out, hszr⟩
        case round =>
          clear HOK HBL hszr
          obtain ⟨q, hq, rfl, hoi, hoo, hok, ap1, ap2, ap3, hbl, hszr⟩ := hrel
          have hXt : (X.take q).length = q := by rw [List.length_take, HXL.out]; omega
          have hYt : (Y.take q).length = q := by rw [List.length_take, HYL.out]; omega
          obtain ⟨ai, ci, hvi, hli, hmi⟩ := own_slice hoi
          obtain ⟨ao, co, hvo, hlo, hmo⟩ := own_slice hoo
          rw [hXt] at hvi hli
          rw [hYt] at hvo hlo
          subst hvi
          subst hvo
          unfold maxLen at hmi hmo
          by_cases hlq : q < 64
          · obtain ⟨gk, capk, e, _, hgkl, _⟩ := hok.shape (by rw [HKLl.out]; omega)
            rw [HKLl.out] at e
            simp only [Value.slice.injEq, true_and] at e
            obtain ⟨rfl, rfl⟩ := e
            have hck : ∀ wz, Own wz B0 (.slice (some ⟨gk, 0, none⟩) 64 capj) KL → wz.cell? ⟨gk, q, none⟩ = some (.int .u8 (KL.getD q 0 : Nat)) := by
              intro wz h
              have h1 : Own wz B0 (.slice (some ⟨gk, 0, none⟩) KL.length capj) KL := by rw [HKLl.out]; exact h
              rw [h1.1.cellAt q (by rw [HKLl.out]; omega), map_byteV_getD (by rw [HKLl.out]; omega)]
            have hc0 := hck _ hok
            have HCK := hide hck
            have hkv := HKV.out q hlq
            have hx1 := u8_xor_nat (KL.getD q 0) 54 hkv (by decide)
            have hx2 := u8_xor_nat (KL.getD q 0) 92 hkv (by decide)
            rw [show ((54 : Nat) : Int) = 54 from rfl] at hx1
            rw [show ((92 : Nat) : Int) = 92 from rfl] at hx2
            obtain ⟨g1, g2⟩ := HXG.out q hlq
            have HXN : Hid (X.take q ++ [KL.getD q 0 ^^^ 54] = X.take (q + 1)) := by show _ = _; rw [← g1]; exact take_next (by rw [HXL.out]; exact hlq)
            have HYN : Hid (Y.take q ++ [KL.getD q 0 ^^^ 92] = Y.take (q + 1)) := by show _ = _; rw [← g2]; exact take_next (by rw [HYL.out]; exact hlq)
            have hk1 : KL.getD q 0 ^^^ 54 < 256 := xor_byte hkv (by decide)
            have hk2 : KL.getD q 0 ^^^ 92 < 256 := xor_byte hkv (by decide)
            generalize KL.getD q 0 = kx at *
            generalize kx ^^^ 54 = k1 at *
            generalize kx ^^^ 92 = k2 at *
            have hone1 : BSl (wr.alloc (.cells #[.int .u8 (k1 : Int)] 5)) (.slice (some ⟨wr.heap.size, 0, none⟩) 1 1) [k1] := BSl.one k1 hk1 5
            have HOI := hide (hoi.grown (o := .cells #[.int .u8 (k1 : Int)] 5) rfl)
            have HOO := hide (hoo.grown (o := .cells #[.int .u8 (k1 : Int)] 5) rfl)
            have HOK := hide (hok.grown (o := .cells #[.int .u8 (k1 : Int)] 5) rfl)
            have HBL : Hid (Below B0 W0 (wr.alloc (.cells #[.int .u8 (k1 : Int)] 5))) := hbl.alloc hszr _
            have hlqI : (q : Int) < 64 := by omega
            have HXt := hide hXt
            have HYt := hide hYt
            have AP1 := hide ap1
            have AP2 := hide ap2
            have AP3 := hide ap3
            clear hoi hoo hok hbl g1 g2 hkv hck ap1 ap2 ap3 hXt hYt
            go_wp2_with (at_builtin; refine wpList_app2 rfl (.tmp 32) (.tmp 38) rfl B0 _ _ (X.take q) [k1] rfl rfl HOI.out hone1 (by rw [HXt.out]; simp; omega) (by simp; omega) ?_)
            intro v' w' hown' hb' hs' hkeep
            rw [HXN.out] at hown'
            obtain ⟨hoo', ap1'⟩ := hkeep _ _ _ HOO.out AP1.out
            obtain ⟨hok', ap2'⟩ := hkeep _ _ _ HOK.out AP2.out
            have HBL2 : Hid (Below B0 W0 w') := HBL.out.trans hb'
            obtain ⟨a', cap', hv', hl7, hm7⟩ := own_slice hown'
            rw [show (X.take (q + 1)).length = q + 1 by rw [List.length_take, HXL.out]; omega] at hv' hl7
            subst hv'
            unfold maxLen at hm7
            have hc1 := HCK.out _ hok'
            have hone2 : BSl (w'.alloc (.cells #[.int .u8 (k2 : Int)] 5)) (.slice (some ⟨w'.heap.size, 0, none⟩) 1 1) [k2] := BSl.one k2 hk2 5
            have HOI2 := hide (hown'.grown (o := .cells #[.int .u8 (k2 : Int)] 5) rfl)
            have HOO2 := hide (hoo'.grown (o := .cells #[.int .u8 (k2 : Int)] 5) rfl)
            have HOK2 := hide (hok'.grown (o := .cells #[.int .u8 (k2 : Int)] 5) rfl)
            have HBL3 : Hid (Below B0 W0 (w'.alloc (.cells #[.int .u8 (k2 : Int)] 5))) := HBL2.out.alloc hs' _
            have AP1' := hide ap1'.symm
            have AP2' := hide ap2'
            clear hown' hb' hkeep hoo' hok' ap1' ap2' HOI HOO HOK HBL HBL2 hone1 hc0 AP1 AP2
            go_wp2_with (at_builtin; refine wpList_app2 rfl (.tmp 40) (.tmp 46) rfl B0 _ _ (Y.take q) [k2] rfl rfl HOO2.out hone2 (by rw [HYt.out]; simp; omega) (by simp; omega) ?_)
            intro v2 w2' hown2 hb2' hs2' hkeep2
            rw [HYN.out] at hown2
            obtain ⟨hoi3, ap13⟩ := hkeep2 _ _ _ HOI2.out AP1'.out
            obtain ⟨hok3, ap33⟩ := hkeep2 _ _ _ HOK2.out AP3.out
            have HBL4 : Hid (Below B0 W0 w2') := HBL3.out.trans hb2'
            obtain ⟨a2', cap2', hv2', _, _⟩ := own_slice hown2
            subst hv2'
            have R1 := hide hoi3
            have R2 := hide hown2
            have R3 := hide hok3
            have R4 := hide ap13.symm
            have R5 := hide ap33
            clear hown2 hb2' hkeep2 hoi3 hok3 ap13 ap33 HOI2 HOO2 HOK2 HBL3 hone2 hc1 AP3 AP1' HCK
            go_wp2
            go_roundw
            case rel => exact ⟨q + 1, by omega, by go_num, R1.out, R2.out, R3.out, R4.out, AP2'.out, R5.out, HBL4.out, hs2'⟩
            case measure => simp [intOf]; omega
          · have hq64 : q = 64 := by omega
            subst hq64
            rw [List.take_of_length_le (by rw [HXL.out]; omega)] at hoi
            rw [List.take_of_length_le (by rw [HYL.out]; omega)] at hoo
            obtain ⟨t1, t2, t3⟩ := HGT.out _ hbl
            have HOI := hide hoi
            have HOO := hide hoo
            have HBL := hide hbl
            have HMS := hide t3
            have AP1 := hide ap1
            have HXLn := HXL.out
            have HYLn := HYL.out
            have HXm : Hid (X.length + l.length + 72 ≤ 140737488355328) := by show _ ≤ _; rw [HXLn]; omega
            clear hoi hoo hok ap1 ap2 ap3 hbl t1 t2 t3 hlq hq hXt hYt
            go_wp2_with (at_builtin; refine wpList_app2 rfl (.tmp 48) (.tmp 49) rfl B0 _ _ X l rfl rfl HOI.out HMS.out (by have := HXm.out; omega) hszr ?_)
            intro v5 w5 hown5 hb5 hs5 hkeep5
            obtain ⟨hoo5, _⟩ := hkeep5 _ _ _ HOO.out AP1.out
            have HO5 := hide hown5
            have HOO5 := hide hoo5
            have HB5 : Hid (Below B0 W0 w5) := HBL.out.trans hb5
            clear hown5 hb5 hkeep5 hoo5 HOI HOO HBL HMS AP1
            go_wp2_with fail
            obtain ⟨t1, t2, _⟩ := HGT.out _ HB5.out
            refine (refSum_any _ (X ++ l) w5 HO5.out.bsl (by rw [List.length_append]; exact HXm.out) t1 t2).mono ?_
            rintro e w6 ⟨rfl, hb6⟩
            obtain ⟨f1, f2, f3⟩ := sum_shape (X ++ l)
            have hsl := shaL_len (X ++ l)
            have hsb := shaL_lt (X ++ l)
            obtain ⟨sc, hsc⟩ : ∃ sc, ((shaL (X ++ l)).map byteV).toArray = sc := ⟨_, rfl⟩
            rw [hsc] at f1 f2 f3 ⊢
            have HB6 : Hid (Below B0 W0 (w6.alloc (.cells sc 24))) := (HB5.out.trans (hb6.mono hs5)).alloc (Nat.le_trans hs5 hb6.size) _
            have HS6 : Hid (BSl (w6.alloc (.cells sc 24)) (.slice (some ⟨w6.heap.size, 0, none⟩) 32 32) (shaL (X ++ l))) := BSl.ofRow (n := 32) (cap := 32) (Go.heap_alloc_new w6 (.cells sc 24)) (by rw [← hsc]; show List.take 32 ((shaL (X ++ l)).map byteV) = _; rw [List.take_of_length_le (by rw [List.length_map, hsl]; omega)]) hsl.symm (Nat.le_refl _) (by decide) hsb
            have HOO6 := hide ((HOO5.out.kept hb6).grown (o := .cells sc 24) rfl)
            have hs6 : B0 ≤ (w6.alloc (.cells sc 24)).heap.size := by have := hb6.size; simp; omega
            have HFL : Hid ((shaL (X ++ l)).length = 32) := hsl
            generalize shaL (X ++ l) = fst at *
            clear hb6 hsc hsl hsb t1 t2 HO5 HOO5 HB5
            go_wp2_with (first
              | refine wpList_alloc_as rfl 24 rfl (.agg zero32) zero32 Tryd.zero32 rfl ?_
              | (refine wpList_store_row rfl 24 (.tmp 10) (.tmp 52) rfl w6.heap.size sc (by first | rfl | simp [Act.eval, Act.put]) (by first | rfl | simp [Act.eval, Act.put]) 24 zero32 (Go.heap_alloc_new w6 _) f1 f2 f3 ?_; rw [World.setRow_alloc_new])
              | (at_builtin; refine wpList_app2 rfl (.tmp 53) (.tmp 54) rfl B0 _ _ Y fst (by first | rfl | simp [Act.eval, Act.put]) (by first | rfl | simp [Act.eval, Act.put]) HOO6.out HS6.out (by rw [HFL.out, HYLn]; decide) hs6 ?_))
            intro v8 w8 hown8 hb8 hs8 _
            have HO8 := hide hown8
            have HB8 : Hid (Below B0 W0 w8) := HB6.out.trans hb8
            clear hown8 hb8 HOO6 HS6 HB6
            go_wp2_with fail
            obtain ⟨t1, t2, _⟩ := HGT.out _ HB8.out
            refine (refSum_any _ (Y ++ fst) w8 HO8.out.bsl (by rw [List.length_append, HFL.out, HYLn]; decide) t1 t2).mono ?_
            rintro e w9 ⟨rfl, hb9⟩
            rw [← HMA.out]
            have HB9 : Hid (Below B0 W0 w9) := HB8.out.trans (hb9.mono hs8)
            obtain ⟨HZr, HBr⟩ := HGE.out _ HB9.out
            have e1 : (Tryd.prog.info? 24).map (·.size) = some ((macL k l).map byteV).toArray.size ∧ zero32.size = ((macL k l).map byteV).toArray.size ∧ ((macL k l).map byteV).toArray.all (·.oneCell') = true := by
              have h : ((macL k l).map byteV).toArray.size = 32 := by rw [List.size_toArray, List.length_map, macL_len]
              exact ⟨by rw [h]; exact Tryd.size32, by rw [h]; rfl, oneCell_map _⟩
            obtain ⟨e1, e2, e3⟩ := e1
            obtain ⟨oa, hoa⟩ : ∃ oa, ((macL k l).map byteV).toArray = oa := ⟨_, rfl⟩
            rw [hoa] at e1 e2 e3 ⊢
            have HOA := hide hoa
            have HRZ := hide HZr
            have HRB := hide HBr
            have HRS := hide (setRow_heap w9 w.heap.size zero32 oa 24 (0, 0) HZr)
            clear hb9 hoa HZr HBr t1 t2
            go_wp2_with (refine wpList_store_row rfl 24 (.tmp 4) _ rfl w.heap.size oa rfl rfl 24 zero32 HRZ.out e1 e2 e3 ?_)
            exact bodyPost_ret (v := .agg oa) (results_cell_row rfl _ _ w.heap.size 24 oa (0, 0) _ rfl HRS.out Tryd.underlying24 rfl e1) rfl ⟨by rw [HOA.out], below_setRow HRB.out (Nat.le_refl _) _⟩
end Go.Proofs.YtbkcenpohcjgnacDoor
