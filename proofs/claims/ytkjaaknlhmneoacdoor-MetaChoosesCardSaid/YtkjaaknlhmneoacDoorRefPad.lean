import Derived.Test.YtkjaaknlhmneoacDoorApp
import Derived.Test.YtkjaaknlhmneoacDoorShaSum
namespace Go.Proofs.YtkjaaknlhmneoacDoor
open Go.RowKit
open Num
set_option linter.unusedVariables false
set_option linter.unusedSimpArgs false

set_option maxRecDepth 100000 in
set_option maxHeartbeats 4000000 in
theorem padded_any (v : Value) (l : List Nat) (w : World) (h : BSl w v l) (hr : l.length + 72 ≤ 140737488355328) :
    Calls Tryd.prog 63 #[v] w fun e w' => ∃ v', e = .returned v' ∧ Own w' w.heap.size v' (padL l) ∧ Below w.heap.size w w' := by
  have hmade : Own (w.alloc (.cells #[] 5)) w.heap.size (.slice (some ⟨w.heap.size, 0, none⟩) 0 0) [] := ⟨World.ownsRow_made w #[] 0 (Nat.le_refl _) (by unfold maxLen; omega) rfl, by simp⟩
  have HV := hide h
  have HB := hide h.bytes
  have HBW := hide (below_alloc w (.cells #[] 5))
  obtain ⟨a, cap, rfl, hl, hm, hn, hb, hcell⟩ := h
  unfold maxLen at hm
  clear hcell hb hn
  have HVB := hide (HV.out.below HBW.out)
  go_enter Tryd.func63, Tryd.ntmps63
  go_wp2_with (at_builtin; refine wpList_app rfl _ _ rfl w.heap.size _ _ [] l rfl rfl hmade HVB.out (by simp; omega) (by simp) ?_)
  intro v1 w1 hown hb1 hs1 hn1
  have HB1 := hide (HBW.out.trans (hb1.mono (by simp)))
  have HO1 := hide hown
  have hq1 := hown.bsl
  obtain ⟨a1, cap1, rfl, hl1, hm1, _, _, _⟩ := hq1
  unfold maxLen at hm1
  clear hown hb1 hmade HVB hn1
  have hone : BSl (w1.alloc (.cells #[.int .u8 128] 5)) (.slice (some ⟨w1.heap.size, 0, none⟩) 1 1) [128] := BSl.one 128 (by decide) 5
  go_wp2_with (at_builtin; refine wpList_app rfl (.tmp 9) (.tmp 10) rfl w.heap.size _ _ l [128] rfl rfl (HO1.out.grown rfl) hone (by simp; omega) (by simp; omega) ?_)
  intro v2 w2 hown hb2 hs2 hn2
  have HB2 := hide ((HB1.out.alloc hs1 (.cells #[.int .u8 128] 5)).trans hb2)
  have HO2 := hide hown
  have hq2 := hown.bsl
  obtain ⟨a2, cap2, hv2, hl2, hm2, _, _, _⟩ := hq2
  rw [show (l ++ [128] : List Nat).length = l.length + 1 by simp] at hv2
  subst hv2
  clear hown hb2 hn2 hone HO1 HB1 hs1
  obtain ⟨pn, hpn⟩ : ∃ pn, padN l.length = pn := ⟨_, rfl⟩
  have hpb := padN_bd l.length
  have HPM : Hid (∀ j, j + 1 ≤ pn → ((l.length + 1 + j) % 64 = 56 ↔ j + 1 = pn)) := by
    intro j hj
    unfold padN at hpn
    split at hpn <;> omega
  rw [hpn] at hpb
  go_wp2
  go_loopw [3] (fun v wr => ∃ j : Nat, j + 1 ≤ pn ∧ Own wr w.heap.size v ((l ++ [128]) ++ List.replicate j 0) ∧ Below w.heap.size w wr) (fun v _ => l.length + 72 - sliceLen v)
  case atStart => exact ⟨0, by omega, by rw [List.replicate_zero, List.append_nil]; exact HO2.out, HB2.out⟩
  case round =>
    clear HO2 HB2 hs2
    obtain ⟨j, hj, hown, hbel⟩ := hrel
    have hlj : ((l ++ [128]) ++ List.replicate j 0).length = l.length + 1 + j := by simp; omega
    have hszr := hbel.size
    have hqj := hown.bsl
    obtain ⟨aj, capj, hvj, hl4, hm4, _, _, _⟩ := hqj
    rw [hlj] at hvj hl4
    subst hvj
    unfold maxLen at hm4
    obtain ⟨hA, hB⟩ := HPM.out j hj
    by_cases hlt : j + 1 = pn
    · have hee : (l.length + 1 + j) % 64 = 56 := hB hlt
      have hlen : l.length + 1 + j + 8 ≤ 140737488355328 := by omega
      generalize hN : l.length + 1 + j = N at hee hlen hlj hl4 hown ⊢
      have hr1 : (N : Int) % 64 = 56 := by omega
      have HE : Hid ((l ++ [128]) ++ List.replicate j 0 = l ++ padA.take pn) := by
        show _ = _
        rw [← hlt, List.append_assoc, padA, List.take_succ_cons, List.take_replicate]
        congr 2
        simp; omega
      rw [HE.out] at hown hlj
      have HLJ := hide hlj
      have HPD : Hid (padL l = (l ++ padA.take pn) ++ lenB l.length 8) := by show _ = _; rw [padL, hpn]
      have HLB := hide (fun k => lenB_succ l.length k)
      have HLN := hide (lenB_len l.length)
      have HLT := hide (lenB_lt l.length)
      have HO := hide hown
      have HBL := hide hbel
      have h0 : lenB l.length 0 = [] := rfl
      have HLB0 : Hid (lenB l.length 0 = []) := h0
      have hB8 : l.length * 8 % 18446744073709551616 = l.length * 8 := by omega
      rw [hB8] at HLB
      obtain ⟨B, hBe⟩ : ∃ B, l.length * 8 = B := ⟨_, rfl⟩
      rw [hBe] at HLB
      have hBi : (l.length : Int) * 8 = (B : Int) := by omega
      have hB64 : B < 18446744073709551616 := by omega
      generalize lenB l.length = LB at *
      generalize l ++ padA.take pn = L at *
      clear hown hbel hlj hN hee HE hA hB h0 hB8 hlt
      go_wp2_with fail
      clear hBi hBe hr1
      go_loopw [3, 5] (fun v i wr => ∃ k : Nat, k ≤ 8 ∧ i = .int .i64 (56 - 8 * (k : Int)) ∧ Own wr w.heap.size v (L ++ LB k) ∧ Below w.heap.size w wr) (fun _ i _ => (intOf i + 8).toNat)
      case atStart => exact ⟨0, Nat.zero_le _, rfl, by rw [HLB0.out, List.append_nil]; exact HO.out, HBL.out⟩
      case round =>
        clear HO HBL
        obtain ⟨k, hk, rfl, hox, hbx⟩ := hrel
        have hszx := hbx.size
        have hlx : (L ++ LB k).length = N + k := by rw [List.length_append, HLJ.out, HLN.out]
        have hqx := hox.bsl
        obtain ⟨ax, capx, hvx, hl7, hm7, _, _, _⟩ := hqx
        rw [hlx] at hvx hl7
        subst hvx
        unfold maxLen at hm7
        have HOx := hide hox
        have HBx := hide hbx
        have HLx := hide hlx
        clear hox hbx hlx
        rcases (show k = 8 ∨ k = 0 ∨ k = 1 ∨ k = 2 ∨ k = 3 ∨ k = 4 ∨ k = 5 ∨ k = 6 ∨ k = 7 by omega) with rfl | rfl | rfl | rfl | rfl | rfl | rfl | rfl | rfl
        · go_wp2
          go_ret
          exact ⟨_, rfl, by rw [HPD.out]; exact HOx.out, HBx.out⟩
        · rw [show (56 - 8 * ((0 : Nat) : Int)) = 56 from rfl]
          have HS := HLB.out 0
          obtain ⟨y, hy⟩ : ∃ y, B / 72057594037927936 % 256 = y := ⟨_, rfl⟩
          have HSy : Hid (LB 1 = LB 0 ++ [y]) := by show _ = _; rw [HS, ← hy]
          have hyi : (B : Int) / 72057594037927936 = (y : Int) := by omega
          have hyl : y < 256 := by omega
          have hone : BSl (wr.alloc (.cells #[.int .u8 (y : Int)] 5)) (.slice (some ⟨wr.heap.size, 0, none⟩) 1 1) [y] := BSl.one y hyl 5
          clear hy HS
          go_wp2_with (at_builtin; refine wpList_app rfl (.tmp 27) (.tmp 33) rfl w.heap.size _ _ (L ++ LB 0) [y] rfl rfl (HOx.out.grown rfl) hone (by rw [HLx.out]; simp; omega) (by simp; omega) ?_)
          intro v' w' hown' hb' hs' hn'
          rw [← HSy.out] at hown'
          have R := hide hown'
          have RB := hide ((HBx.out.alloc hszx (.cells #[.int .u8 (y : Int)] 5)).trans hb')
          have hq' := hown'.bsl
          obtain ⟨a', cap', rfl, _, _, _, _, _⟩ := hq'
          clear hown' hb' hn' hone
          go_wp2
          go_roundw
          case rel => exact ⟨1, by omega, by go_num, R.out, RB.out⟩
          case measure => simp [intOf]
        · rw [show (56 - 8 * ((1 : Nat) : Int)) = 48 from rfl]
          have HS := HLB.out 1
          obtain ⟨y, hy⟩ : ∃ y, B / 281474976710656 % 256 = y := ⟨_, rfl⟩
          have HSy : Hid (LB 2 = LB 1 ++ [y]) := by show _ = _; rw [HS, ← hy]
          have hyi : (B : Int) / 281474976710656 % 256 = (y : Int) := by omega
          have hyl : y < 256 := by omega
          have hone : BSl (wr.alloc (.cells #[.int .u8 (y : Int)] 5)) (.slice (some ⟨wr.heap.size, 0, none⟩) 1 1) [y] := BSl.one y hyl 5
          clear hy HS
          go_wp2_with (at_builtin; refine wpList_app rfl (.tmp 27) (.tmp 33) rfl w.heap.size _ _ (L ++ LB 1) [y] rfl rfl (HOx.out.grown rfl) hone (by rw [HLx.out]; simp; omega) (by simp; omega) ?_)
          intro v' w' hown' hb' hs' hn'
          rw [← HSy.out] at hown'
          have R := hide hown'
          have RB := hide ((HBx.out.alloc hszx (.cells #[.int .u8 (y : Int)] 5)).trans hb')
          have hq' := hown'.bsl
          obtain ⟨a', cap', rfl, _, _, _, _, _⟩ := hq'
          clear hown' hb' hn' hone
          go_wp2
          go_roundw
          case rel => exact ⟨2, by omega, by go_num, R.out, RB.out⟩
          case measure => simp [intOf]
        · rw [show (56 - 8 * ((2 : Nat) : Int)) = 40 from rfl]
          have HS := HLB.out 2
          obtain ⟨y, hy⟩ : ∃ y, B / 1099511627776 % 256 = y := ⟨_, rfl⟩
          have HSy : Hid (LB 3 = LB 2 ++ [y]) := by show _ = _; rw [HS, ← hy]
          have hyi : (B : Int) / 1099511627776 % 256 = (y : Int) := by omega
          have hyl : y < 256 := by omega
          have hone : BSl (wr.alloc (.cells #[.int .u8 (y : Int)] 5)) (.slice (some ⟨wr.heap.size, 0, none⟩) 1 1) [y] := BSl.one y hyl 5
          clear hy HS
          go_wp2_with (at_builtin; refine wpList_app rfl (.tmp 27) (.tmp 33) rfl w.heap.size _ _ (L ++ LB 2) [y] rfl rfl (HOx.out.grown rfl) hone (by rw [HLx.out]; simp; omega) (by simp; omega) ?_)
          intro v' w' hown' hb' hs' hn'
          rw [← HSy.out] at hown'
          have R := hide hown'
          have RB := hide ((HBx.out.alloc hszx (.cells #[.int .u8 (y : Int)] 5)).trans hb')
          have hq' := hown'.bsl
          obtain ⟨a', cap', rfl, _, _, _, _, _⟩ := hq'
          clear hown' hb' hn' hone
          go_wp2
          go_roundw
          case rel => exact ⟨3, by omega, by go_num, R.out, RB.out⟩
          case measure => simp [intOf]
        · rw [show (56 - 8 * ((3 : Nat) : Int)) = 32 from rfl]
          have HS := HLB.out 3
          obtain ⟨y, hy⟩ : ∃ y, B / 4294967296 % 256 = y := ⟨_, rfl⟩
          have HSy : Hid (LB 4 = LB 3 ++ [y]) := by show _ = _; rw [HS, ← hy]
          have hyi : (B : Int) / 4294967296 % 256 = (y : Int) := by omega
          have hyl : y < 256 := by omega
          have hone : BSl (wr.alloc (.cells #[.int .u8 (y : Int)] 5)) (.slice (some ⟨wr.heap.size, 0, none⟩) 1 1) [y] := BSl.one y hyl 5
          clear hy HS
          go_wp2_with (at_builtin; refine wpList_app rfl (.tmp 27) (.tmp 33) rfl w.heap.size _ _ (L ++ LB 3) [y] rfl rfl (HOx.out.grown rfl) hone (by rw [HLx.out]; simp; omega) (by simp; omega) ?_)
          intro v' w' hown' hb' hs' hn'
          rw [← HSy.out] at hown'
          have R := hide hown'
          have RB := hide ((HBx.out.alloc hszx (.cells #[.int .u8 (y : Int)] 5)).trans hb')
          have hq' := hown'.bsl
          obtain ⟨a', cap', rfl, _, _, _, _, _⟩ := hq'
          clear hown' hb' hn' hone
          go_wp2
          go_roundw
          case rel => exact ⟨4, by omega, by go_num, R.out, RB.out⟩
          case measure => simp [intOf]
        · rw [show (56 - 8 * ((4 : Nat) : Int)) = 24 from rfl]
          have HS := HLB.out 4
          obtain ⟨y, hy⟩ : ∃ y, B / 16777216 % 256 = y := ⟨_, rfl⟩
          have HSy : Hid (LB 5 = LB 4 ++ [y]) := by show _ = _; rw [HS, ← hy]
          have hyi : (B : Int) / 16777216 % 256 = (y : Int) := by omega
          have hyl : y < 256 := by omega
          have hone : BSl (wr.alloc (.cells #[.int .u8 (y : Int)] 5)) (.slice (some ⟨wr.heap.size, 0, none⟩) 1 1) [y] := BSl.one y hyl 5
          clear hy HS
          go_wp2_with (at_builtin; refine wpList_app rfl (.tmp 27) (.tmp 33) rfl w.heap.size _ _ (L ++ LB 4) [y] rfl rfl (HOx.out.grown rfl) hone (by rw [HLx.out]; simp; omega) (by simp; omega) ?_)
          intro v' w' hown' hb' hs' hn'
          rw [← HSy.out] at hown'
          have R := hide hown'
          have RB := hide ((HBx.out.alloc hszx (.cells #[.int .u8 (y : Int)] 5)).trans hb')
          have hq' := hown'.bsl
          obtain ⟨a', cap', rfl, _, _, _, _, _⟩ := hq'
          clear hown' hb' hn' hone
          go_wp2
          go_roundw
          case rel => exact ⟨5, by omega, by go_num, R.out, RB.out⟩
          case measure => simp [intOf]
        · rw [show (56 - 8 * ((5 : Nat) : Int)) = 16 from rfl]
          have HS := HLB.out 5
          obtain ⟨y, hy⟩ : ∃ y, B / 65536 % 256 = y := ⟨_, rfl⟩
          have HSy : Hid (LB 6 = LB 5 ++ [y]) := by show _ = _; rw [HS, ← hy]
          have hyi : (B : Int) / 65536 % 256 = (y : Int) := by omega
          have hyl : y < 256 := by omega
          have hone : BSl (wr.alloc (.cells #[.int .u8 (y : Int)] 5)) (.slice (some ⟨wr.heap.size, 0, none⟩) 1 1) [y] := BSl.one y hyl 5
          clear hy HS
          go_wp2_with (at_builtin; refine wpList_app rfl (.tmp 27) (.tmp 33) rfl w.heap.size _ _ (L ++ LB 5) [y] rfl rfl (HOx.out.grown rfl) hone (by rw [HLx.out]; simp; omega) (by simp; omega) ?_)
          intro v' w' hown' hb' hs' hn'
          rw [← HSy.out] at hown'
          have R := hide hown'
          have RB := hide ((HBx.out.alloc hszx (.cells #[.int .u8 (y : Int)] 5)).trans hb')
          have hq' := hown'.bsl
          obtain ⟨a', cap', rfl, _, _, _, _, _⟩ := hq'
          clear hown' hb' hn' hone
          go_wp2
          go_roundw
          case rel => exact ⟨6, by omega, by go_num, R.out, RB.out⟩
          case measure => simp [intOf]
        · rw [show (56 - 8 * ((6 : Nat) : Int)) = 8 from rfl]
          have HS := HLB.out 6
          obtain ⟨y, hy⟩ : ∃ y, B / 256 % 256 = y := ⟨_, rfl⟩
          have HSy : Hid (LB 7 = LB 6 ++ [y]) := by show _ = _; rw [HS, ← hy]
          have hyi : (B : Int) / 256 % 256 = (y : Int) := by omega
          have hyl : y < 256 := by omega
          have hone : BSl (wr.alloc (.cells #[.int .u8 (y : Int)] 5)) (.slice (some ⟨wr.heap.size, 0, none⟩) 1 1) [y] := BSl.one y hyl 5
          clear hy HS
          go_wp2_with (at_builtin; refine wpList_app rfl (.tmp 27) (.tmp 33) rfl w.heap.size _ _ (L ++ LB 6) [y] rfl rfl (HOx.out.grown rfl) hone (by rw [HLx.out]; simp; omega) (by simp; omega) ?_)
          intro v' w' hown' hb' hs' hn'
          rw [← HSy.out] at hown'
          have R := hide hown'
          have RB := hide ((HBx.out.alloc hszx (.cells #[.int .u8 (y : Int)] 5)).trans hb')
          have hq' := hown'.bsl
          obtain ⟨a', cap', rfl, _, _, _, _, _⟩ := hq'
          clear hown' hb' hn' hone
          go_wp2
          go_roundw
          case rel => exact ⟨7, by omega, by go_num, R.out, RB.out⟩
          case measure => simp [intOf]
        · rw [show (56 - 8 * ((7 : Nat) : Int)) = 0 from rfl]
          have HS := HLB.out 7
          obtain ⟨y, hy⟩ : ∃ y, B / 1 % 256 = y := ⟨_, rfl⟩
          have HSy : Hid (LB 8 = LB 7 ++ [y]) := by show _ = _; rw [HS, ← hy]
          have hyi : (B : Int) % 256 = (y : Int) := by omega
          have hyl : y < 256 := by omega
          have hone : BSl (wr.alloc (.cells #[.int .u8 (y : Int)] 5)) (.slice (some ⟨wr.heap.size, 0, none⟩) 1 1) [y] := BSl.one y hyl 5
          clear hy HS
          go_wp2_with (at_builtin; refine wpList_app rfl (.tmp 27) (.tmp 33) rfl w.heap.size _ _ (L ++ LB 7) [y] rfl rfl (HOx.out.grown rfl) hone (by rw [HLx.out]; simp; omega) (by simp; omega) ?_)
          intro v' w' hown' hb' hs' hn'
          rw [← HSy.out] at hown'
          have R := hide hown'
          have RB := hide ((HBx.out.alloc hszx (.cells #[.int .u8 (y : Int)] 5)).trans hb')
          have hq' := hown'.bsl
          obtain ⟨a', cap', rfl, _, _, _, _, _⟩ := hq'
          clear hown' hb' hn' hone
          go_wp2
          go_roundw
          case rel => exact ⟨8, by omega, by go_num, R.out, RB.out⟩
          case measure => simp [intOf]
    · have hne : (l.length + 1 + j) % 64 ≠ 56 := fun h => hlt (hA h)
      have hNl : l.length + 1 + j + 1 ≤ 140737488355328 := by omega
      generalize hN : l.length + 1 + j = N at hne hNl hlj hl4 hown ⊢
      obtain ⟨r, hr0⟩ : ∃ r, N % 64 = r := ⟨_, rfl⟩
      rw [hr0] at hne
      have hr1 : (N : Int) % 64 = (r : Int) := by omega
      have hr2 : ¬ (r : Int) = 56 := by omega
      have HO := hide hown
      have HE : Hid (((l ++ [128]) ++ List.replicate j 0) ++ [0] = (l ++ [128]) ++ List.replicate (j + 1) 0) := by
        show _ = _; rw [List.append_assoc, List.replicate_succ']
      have HLJ := hide hlj
      have HBL := hide hbel
      have hone : BSl (wr.alloc (.cells #[.int .u8 0] 5)) (.slice (some ⟨wr.heap.size, 0, none⟩) 1 1) [0] := BSl.one 0 (by decide) 5
      have HN := hide hN
      generalize (l ++ [128]) ++ List.replicate j 0 = L at *
      clear hown hbel hA hB hlj hN hr0 hne
      go_wp2_with (at_builtin; refine wpList_app rfl (.tmp 16) (.tmp 17) rfl w.heap.size _ _ L [0] rfl rfl (HO.out.grown rfl) hone (by rw [HLJ.out]; exact hNl) (by simp; omega) ?_)
      intro v' w' hown' hb' hs' hn'
      rw [HE.out] at hown'
      have R := hide hown'
      have RB := hide ((HBL.out.alloc hszr (.cells #[.int .u8 0] 5)).trans hb')
      have hq' := hown'.bsl
      obtain ⟨a', cap', rfl, _, _, _, _, _⟩ := hq'
      clear hown' hb' hn' HO HBL hone
      go_wp2
      go_roundw
      case rel => exact ⟨j + 1, by omega, R.out, RB.out⟩
      case measure => simp [sliceLen]; have := HN.out; omega
end Go.Proofs.YtkjaaknlhmneoacDoor
