import Derived.Test.YtkjaaknlhmneoabDoorMtSpoM
import Derived.Test.YtkjaaknlhmneoabDoorMtRnd
import Derived.Test.YtkjaaknlhmneoabDoorFlip
import Derived.Test.YtkjaaknlhmneoabDoorCount
import Derived.Deep.RegionWith
import Derived.Deep.RegionHeld3
namespace Go.Proofs.YtkjaaknlhmneoabDoor
open Go.RowKit Go.Lib
open Num
set_option linter.unusedVariables false
set_option linter.unusedSimpArgs false
set_option maxRecDepth 20000

set_option maxHeartbeats 1000000 in
theorem spoilt_no (w : World) (s : Sup) (hw : s.Wf) (ho : s.ok = false) (pv tv : Value) : Calls Tryd.prog 6 #[s.val, pv, tv] w fun e w' => e = .returned (.bool true) ∧ Below w.heap.size w w' := by
  have HX := hide (Bx.start w s)
  have HL := hide fun x => lawful_any x s hw
  rw [ho] at HL
  clear hw ho
  unfold Sup.val Sup.row at *
  go_enter Tryd.func6, Tryd.ntmps6
  go_wp2_with (go_at_call 9; refine (HL.out _).mono ?_; rintro e w3 ⟨rfl, hb3⟩; have HX3 : Hid (Bx w w3 s) := hide (HX.out.below' hb3); clear hb3)
  go_ret
  exact ⟨rfl, HX3.out.below⟩
set_option maxHeartbeats 8000000 in
theorem spoilt_yes (w : World) (s : Sup) (hw : s.Wf) (ho : s.ok = true) (hT : Tabs w) (pv tv : Value) (ps : List Int) (ts : List Nat) (hpv : ISl w pv ps) (htv : BSl w tv ts) : Calls Tryd.prog 6 #[s.val, pv, tv] w fun e w' => e = .returned (.bool true) ∧ Below w.heap.size w w' := by
  have HPC : Hid (∀ x, Below w.heap.size w x → ∀ j, j < ps.length → ∃ bp op, (∃ cp, pv = .slice (some ⟨bp, op, none⟩) ps.length cp) ∧ x.cell? ⟨bp, op + j, none⟩ = some (.int .i64 (ps.getD j 0)) ∧ -9223372036854775808 ≤ ps.getD j 0 ∧ ps.getD j 0 ≤ 9223372036854775807) := hide fun x hb j hj => by
    obtain ⟨a, c, e, _, _, h3, h4⟩ := hpv.below hb
    obtain ⟨bp, op, rfl, hc⟩ := h4 (by omega)
    exact ⟨bp, op, ⟨c, e⟩, hc j hj, h3 _ (by rw [show ps.getD j 0 = ps[j] by simp [List.getD, hj]]; exact List.getElem_mem _)⟩
  have HTC : Hid (∀ x, Below w.heap.size w x → ∀ j, j < ts.length → ∃ bt ot, (∃ ct, tv = .slice (some ⟨bt, ot, none⟩) ts.length ct) ∧ x.cell? ⟨bt, ot + j, none⟩ = some (.int .u8 (ts.getD j 0 : Nat)) ∧ ts.getD j 0 < 256) := hide fun x hb j hj => by
    obtain ⟨a, c, e, _, _, _, h3, h4⟩ := htv.below hb
    obtain ⟨bt, ot, rfl, hc⟩ := h4 (by omega)
    exact ⟨bt, ot, ⟨c, e⟩, hc j hj, h3 _ (by rw [show ts.getD j 0 = ts[j] by simp [List.getD, hj]]; exact List.getElem_mem _)⟩
  obtain ⟨ap, cp, hpe, hp1, hp2, -⟩ := hpv
  obtain ⟨at', ct, hte, ht1, ht2, -⟩ := htv
  unfold maxLen at hp2 ht2
  rw [hpe, hte]
  rw [hpe] at HPC
  rw [hte] at HTC
  clear hpe hte
  have HX := hide (Bx.start w s)
  have HT := hide hT
  have HS := hide fun x hx => seal_yes x s hw ho hx
  have HL := hide fun x => lawful_any x s hw
  rw [ho] at HL
  have hOk : s.Ok := ⟨ho, hw⟩
  have HEN := hide (Sup.enc_len hOk)
  obtain ⟨q, nz, g0, g1, g2, g3, f, b, k, mk, hs, hn1, hn2, hnt, hv, hr⟩ := hOk.parts
  obtain ⟨m, hm⟩ : ∃ m, nz = m + 32 := ⟨nz - 32, by omega⟩
  subst hm
  have HC : Hid (∀ w1, Bx w w1 s → ∀ j, w1.cell? ⟨w.heap.size, j, none⟩ = (#[.int .u64 (q : Int), .int .i64 b, .int .i64 ((m + 32 : Nat) : Int), .int .i64 k, .int .u64 (g0 : Int), .int .u64 (g1 : Int), .int .u64 (g2 : Int), .int .u64 (g3 : Int), .int .u32 (f : Int), .int .i64 mk] : Array Value)[j]?) := hide fun w1 h j => by rw [h.cell j, hr]
  rw [hnt] at HEN
  obtain ⟨e1, e2, e3, e4, e5⟩ := enc_parts hOk hnt
  have HM1 : Hid (∀ Z : List Nat, Z.length = m + 32 → (uns Z).2 = chk Z m) := hide fun Z hz => uns_chk hz e4
  have HM2 : Hid (∀ Z : List Nat, s.enc.take 8 ≠ Z.take 8 → chk Z m = 51) := hide fun Z h => spo_magic e3 h
  have HM3 : Hid (∀ Z : List Nat, Z.length = m + 32 → s.enc.take m = Z.take m → chk Z m = if s.enc = Z then 0 else 52) := hide fun Z hz h => spo_same hOk hnt hz (by omega) h
  have HM4 : Hid (∀ Z : List Nat, s.enc.take 8 = Z.take 8 → (chk Z m = 52 ↔ shaL (Z.take m) ≠ Z.drop m) ∧ chk Z m ≠ 51) := hide fun Z h => spo_rest e3 h
  clear e1 e2 e3 e4 e5
  unfold SealPost at HS
  rw [hv, hnt] at HS
  rw [hv] at HL ⊢
  rw [hr] at HX
  have HCB : Hid (∀ x gg, BSl x (.slice (some ⟨gg, 0, none⟩) s.enc.length (m + 32)) s.enc → Calls Tryd.prog 13 #[.slice (some ⟨gg, 0, none⟩) (m + 32) (m + 32)] x fun e w' => e = .returned (gsl x.heap.size (m + 32) (m + 32)) ∧ Room w' x.heap.size x.heap.size (m + 32) s.enc ∧ Below x.heap.size x w') := hide fun x gg h => by
    have hx := copyB_any x gg (m + 32) s.enc h (by rw [HEN.out]; omega)
    rw [HEN.out] at hx
    exact hx
  clear hw ho hT hOk hnt hs hv hr
  go_enter Tryd.func6, Tryd.ntmps6
  go_wp2_with (first
    | (go_at_call 9; refine (HL.out _).mono ?_; rintro e w3 ⟨rfl, hb3⟩; have HX3 : Hid (Bx w w3 s) := hide (HX.out.below' hb3); clear hb3; have c0 : w3.cell? ⟨w.heap.size, 0, none⟩ = some (.int .u64 (q : Int)) := HC.out _ HX3.out 0; have c1 : w3.cell? ⟨w.heap.size, 1, none⟩ = some (.int .i64 b) := HC.out _ HX3.out 1; have c2 : w3.cell? ⟨w.heap.size, 2, none⟩ = some (.int .i64 ((m + 32 : Nat) : Int)) := HC.out _ HX3.out 2; have c3 : w3.cell? ⟨w.heap.size, 3, none⟩ = some (.int .i64 k) := HC.out _ HX3.out 3; have c4 : w3.cell? ⟨w.heap.size, 4, none⟩ = some (.int .u64 (g0 : Int)) := HC.out _ HX3.out 4; have c5 : w3.cell? ⟨w.heap.size, 5, none⟩ = some (.int .u64 (g1 : Int)) := HC.out _ HX3.out 5; have c6 : w3.cell? ⟨w.heap.size, 6, none⟩ = some (.int .u64 (g2 : Int)) := HC.out _ HX3.out 6; have c7 : w3.cell? ⟨w.heap.size, 7, none⟩ = some (.int .u64 (g3 : Int)) := HC.out _ HX3.out 7; have c8 : w3.cell? ⟨w.heap.size, 8, none⟩ = some (.int .u32 (f : Int)) := HC.out _ HX3.out 8; have c9 : w3.cell? ⟨w.heap.size, 9, none⟩ = some (.int .i64 mk) := HC.out _ HX3.out 9)
    | (go_at_call 8; refine (HS.out _ (HT.out.below HX3.out.below)).mono ?_; rintro e w2 ⟨g, rfl, hr, hb2⟩; have HX2 : Hid (Bx w w2 s) := hide (HX3.out.below' hb2); have HR2 : Hid (BSl w2 (.slice (some ⟨g, 0, none⟩) s.enc.length (m + 32)) s.enc) := hide hr.own.bsl; have c2 : w2.cell? ⟨w.heap.size, 2, none⟩ = some (.int .i64 ((m + 32 : Nat) : Int)) := HC.out _ HX2.out 2; unfold gsl; clear hb2 hr)
    | (go_at_call 13; refine (HCB.out _ _ HR2.out).mono ?_; rintro e w4 ⟨rfl, hr4, hb4⟩; have HX4 : Hid (Bx w w4 s) := hide (HX2.out.below' hb4); have HR4 := hide hr4; have HL4 := hide (HR2.out.below hb4); have HB4X := hide hb4; unfold gsl; clear hb4 hr4))
  have HY4 : Hid (Below w2.heap.size w2 w4) := HB4X
  clear c0 c1 c3 c4 c5 c6 c7 c8 c9
  go_loopw [11] (fun i wr => ∃ (j : Nat) (Z : List Nat), i = .int .i64 j ∧ Z.length = m + 32 ∧ Room wr w2.heap.size w2.heap.size (m + 32) Z ∧ Below w2.heap.size w2 wr) (fun i _ => ps.length - (intOf i).toNat)
  case atStart => exact ⟨0, s.enc, rfl, HEN.out, HR4.out, HY4.out⟩
  case round =>
    clear HR4 HL4 HX4 HY4
    obtain ⟨j, Z, rfl, hZl, hrm, hbz⟩ := hrel
    have HRM := hide hrm
    have HBZ := hide hbz
    have HXR : Hid (Bx w wr s) := hide (HX2.out.below' hbz)
    clear hrm hbz
    rcases (show (j < ps.length ∧ j < ts.length) ∨ ¬ j < ps.length ∨ (j < ps.length ∧ ¬ j < ts.length) by omega) with ⟨hp, ht⟩ | hp | ⟨hp, ht⟩
    · obtain ⟨bp, op, ⟨cp', hpe⟩, k1, k2, k3⟩ := HPC.out wr HXR.out.below j hp
      obtain ⟨bt, ot, ⟨ct', hte⟩, q1, q2⟩ := HTC.out wr HXR.out.below j ht
      cases hpe
      cases hte
      generalize ps.getD j 0 = p at *
      generalize ts.getD j 0 = x at *
      by_cases hin : 0 ≤ p ∧ p < ((m + 32 : Nat) : Int)
      · obtain ⟨pn, rfl⟩ : ∃ pn : Nat, p = pn := ⟨p.toNat, by omega⟩
        have hpn : pn < m + 32 := by omega
        have hz : Z.getD pn 0 < 256 := HRM.out.own.2 _ (by rw [show Z.getD pn 0 = Z[pn]'(by omega) by simp [List.getD, show pn < Z.length by omega]]; exact List.getElem_mem _)
        have cz : wr.cell? ⟨w2.heap.size, pn, none⟩ = some (.int .u8 (Z.getD pn 0 : Nat)) := by
          rw [HRM.out.own.1.cellAt pn (by omega), map_byteV_getD (by omega)]
        have fz := HRM.out.own.1.frozenAt pn
        have hrd : Room wr.drew w2.heap.size w2.heap.size (m + 32) Z := HRM.out.kept (Below.refl _ _).drew
        have HNR : Hid (Room (wr.drew.setCell ⟨w2.heap.size, pn, none⟩ (.int .u8 ((Z.getD pn 0 ^^^ x : Nat) : Int))) w2.heap.size w2.heap.size (m + 32) (Z.set pn (Z.getD pn 0 ^^^ x))) := hide ⟨by
          have h := hrd.own.stored pn (Z.getD pn 0 ^^^ x) (Nat.xor_lt_two_pow (n := 8) hz q2)
          unfold gsl
          rw [List.length_set]
          exact h, by simpa [World.setCell] using hrd.le⟩
        clear hrd
        have hxo := u8_xor_nat (Z.getD pn 0) x hz q2
        generalize Z.getD pn 0 = zv at *
        go_wp2_with fail
        go_region
        go_wp2_with fail
        go_roundw
        case rel => exact ⟨j + 1, Z.set pn (zv ^^^ x), by go_num, by rw [List.length_set]; exact hZl, HNR.out, HBZ.out.drew.setCell (p := ⟨w2.heap.size, pn, none⟩) (Nat.le_refl _) _⟩
        case measure => simp [intOf]; omega
      · rcases (show p < 0 ∨ (0 ≤ p ∧ ((m + 32 : Nat) : Int) ≤ p) by omega) with hlo | ⟨hl0, hhi⟩
        · go_wp2_with fail
          go_roundw
          case rel => exact ⟨j + 1, Z, by go_num, hZl, HRM.out, HBZ.out⟩
          case measure => simp [intOf]; omega
        · have hhi' : (m : Int) + 32 ≤ p := by push_cast at hhi; omega
          go_wp2_with fail
          go_roundw
          case rel => exact ⟨j + 1, Z, by go_num, hZl, HRM.out, HBZ.out⟩
          case measure => simp [intOf]; omega
    all_goals
      have HE8 : Hid (Z.length = m + 32) := hide hZl
      obtain ⟨sj, ez, hu⟩ : ∃ sj ez, uns Z = (sj, ez) := ⟨_, _, rfl⟩
      have HEZ : Hid (ez = chk Z m) := hide (by rw [← HM1.out Z hZl, hu])
      have HU := hide hu
      have HLW : Hid (∀ x, Below wr.heap.size wr x → ∀ k, k ≤ m + 32 → BSl x (.slice (some ⟨g, 0, none⟩) k (m + 32)) (s.enc.take k)) := hide fun x hb k hk => bsl_take (by have hx := (HR2.out.below HBZ.out).below hb; rw [HEN.out] at hx; exact hx) HEN.out k hk
      have HZW : Hid (∀ x, Below wr.heap.size wr x → ∀ k, k ≤ m + 32 → BSl x (.slice (some ⟨w2.heap.size, 0, none⟩) k (m + 32)) (Z.take k)) := hide fun x hb k hk => bsl_take (by have hx := HRM.out.own.bsl.below hb; unfold gsl at hx; rw [HE8.out] at hx; exact hx) HE8.out k hk
      have HSM : Hid (∀ x, Below wr.heap.size wr x → ∀ k, k ≤ m + 32 → Calls Tryd.prog 14 #[.slice (some ⟨g, 0, none⟩) k (m + 32), .slice (some ⟨w2.heap.size, 0, none⟩) k (m + 32)] x fun e w' => e = .returned (.bool (decide (s.enc.take k = Z.take k))) ∧ Below x.heap.size x w') := hide fun x hb k hk => same_any x _ _ _ _ (HLW.out x hb k hk) (HZW.out x hb k hk)
      have HUN : Hid (Calls Tryd.prog 10 #[.slice (some ⟨w2.heap.size, 0, none⟩) (m + 32) (m + 32)] wr fun e w' => e = .returned (.tuple #[sj.val, .int .i64 ez]) ∧ Below wr.heap.size wr w') := hide ((unseal_any wr _ Z (by have hx := HZW.out wr (Below.refl _ _) (m + 32) (Nat.le_refl _); rw [List.take_of_length_le (by rw [HE8.out]; exact Nat.le_refl _)] at hx; exact hx) (HT.out.below HXR.out.below)).mono (by rintro e w' ⟨he, hb⟩; rw [HU.out] at he; exact ⟨he, hb⟩))
      unfold Sup.val Sup.row at HUN
      clear hu hZl
      have hc8 : ¬ (m + 32 = 8) := by omega
      have hcm : ¬ (m + 32 = m) := by omega
      by_cases h8 : s.enc.take 8 = Z.take 8
      case neg =>
        have hez1 : ez = 51 := by rw [HEZ.out]; exact HM2.out Z h8
        clear HEZ
        subst hez1
        go_wp2_with (go_at_call 10; refine HUN.out.mono ?_; rintro e w5 ⟨rfl, hb5⟩; have HB5 : Hid (∀ o, Below wr.heap.size wr (w5.alloc o).drew) := hide fun o => (hb5.alloc hb5.size o).drew; clear hb5)
        go_region_with (go_at_call 14; refine (HSM.out _ (HB5.out _) 8 (by omega)).mono ?_; rintro e w6 ⟨rfl, hb6⟩; rw [decide_eq_false h8]; have HB6 : Hid (Below wr.heap.size wr w6) := hide ((HB5.out _).trans (hb6.mono (HB5.out _).size)); clear hb6)
        all_goals go_wp2_with fail
        all_goals go_ret
        all_goals exact ⟨rfl, HXR.out.below.trans (HB6.out.mono HXR.out.below.size)⟩
      go_wp2_with (go_at_call 10; refine HUN.out.mono ?_; rintro e w5 ⟨rfl, hb5⟩; have HB5 : Hid (∀ o, Below wr.heap.size wr (w5.alloc o).drew) := hide fun o => (hb5.alloc hb5.size o).drew; clear hb5)
      go_region_with (go_at_call 14; refine (HSM.out _ (HB5.out _) 8 (by omega)).mono ?_; rintro e w6 ⟨rfl, hb6⟩; rw [decide_eq_true h8]; have HB6 : Hid (Below wr.heap.size wr w6.drew) := hide ((HB5.out _).trans (hb6.mono (HB5.out _).size)).drew; clear hb6)
      all_goals clear HB5 hc8
      all_goals by_cases hmm : s.enc.take m = Z.take m
      case pos | pos =>
        have hcc := HM3.out Z HE8.out hmm
        rw [← HEZ.out] at hcc
        have HSF : Hid (∀ x, Below wr.heap.size wr x → Calls Tryd.prog 14 #[.slice (some ⟨g, 0, none⟩) (m + 32) (m + 32), .slice (some ⟨w2.heap.size, 0, none⟩) (m + 32) (m + 32)] x fun e w' => e = .returned (.bool (decide (s.enc = Z))) ∧ Below x.heap.size x w') := hide fun x hb => by
          have hx := HSM.out x hb (m + 32) (Nat.le_refl _)
          rw [List.take_of_length_le (by rw [HEN.out]; exact Nat.le_refl _), List.take_of_length_le (by rw [HE8.out]; exact Nat.le_refl _)] at hx
          exact hx
        clear HEZ
        by_cases hE : s.enc = Z
        case pos =>
          rw [if_pos hE] at hcc
          rw [decide_eq_true hE] at HSF
          subst hcc
          go_wp2_with fail
          go_region_with (go_at_call 14; refine (HSM.out _ HB6.out m (by omega)).mono ?_; rintro e w7 ⟨rfl, hb7⟩; rw [decide_eq_true hmm]; have HB7 : Hid (Below wr.heap.size wr w7) := hide (HB6.out.trans (hb7.mono HB6.out.size)); clear hb7)
          all_goals go_wp2_with (go_at_call 14; first
            | (refine (HSF.out _ HB7.out).mono ?_; rintro e w8 ⟨rfl, hb8⟩; have HB8 : Hid (Below wr.heap.size wr w8) := hide (HB7.out.trans (hb8.mono HB7.out.size)); clear hb8)
            | (refine (HSF.out _ HB8.out).mono ?_; rintro e w9 ⟨rfl, hb9⟩; have HB9 : Hid (Below wr.heap.size wr w9) := hide (HB8.out.trans (hb9.mono HB8.out.size)); clear hb9))
          all_goals go_ret
          all_goals exact ⟨rfl, HXR.out.below.trans (HB9.out.mono HXR.out.below.size)⟩
        case neg =>
          rw [if_neg hE] at hcc
          rw [decide_eq_false hE] at HSF
          subst hcc
          go_wp2_with fail
          go_region_with (go_at_call 14; refine (HSM.out _ HB6.out m (by omega)).mono ?_; rintro e w7 ⟨rfl, hb7⟩; rw [decide_eq_true hmm]; have HB7 : Hid (Below wr.heap.size wr w7) := hide (HB6.out.trans (hb7.mono HB6.out.size)); clear hb7)
          all_goals go_wp2_with (go_at_call 14; first
            | (refine (HSF.out _ HB7.out).mono ?_; rintro e w8 ⟨rfl, hb8⟩; have HB8 : Hid (Below wr.heap.size wr w8) := hide (HB7.out.trans (hb8.mono HB7.out.size)); clear hb8)
            | (refine (HSF.out _ HB8.out).mono ?_; rintro e w9 ⟨rfl, hb9⟩; have HB9 : Hid (Below wr.heap.size wr w9) := hide (HB8.out.trans (hb9.mono HB8.out.size)); clear hb9))
          all_goals go_ret
          all_goals exact ⟨rfl, HXR.out.below.trans (HB9.out.mono HXR.out.below.size)⟩
      all_goals
        obtain ⟨hr1, hr2⟩ := HM4.out Z h8
        rw [← HEZ.out] at hr1 hr2
        have hlz : (Z.drop m).length = 32 := by rw [List.length_drop, HE8.out]; omega
        have HBE := hide (allE_eq (m := m) (shaL_len (Z.take m)) hlz)
        obtain ⟨B, hBB⟩ : ∃ B : Bool, B = allE Z (shaL (Z.take m)) m 32 := ⟨_, rfl⟩
        rw [← hBB] at HBE
        have hf1 : (ez == 52) = !B := by
          rw [HBE.out]
          by_cases hd : shaL (Z.take m) = Z.drop m
          · rw [decide_eq_true hd]
            have : ez ≠ 52 := fun e => (hr1.1 e) hd
            simpa using this
          · rw [decide_eq_false hd, hr1.2 hd]
            rfl
        have hf2 : (ez == 51) = false := by simpa using hr2
        have hf3 : (ez != 51) = true := by simp [bne, hf2]
        have HBB := hide hBB
        have HCX : Hid (∀ w5, Below wr.heap.size wr w5 → ∀ i, i < 32 → (Z.getD (m + i) 0 < 256) ∧ ((shaL (Z.take m)).getD i 0 < 256) ∧ (∀ n, ((w5.alloc (.cells ((shaL (Z.take m)).map byteV).toArray 43)).drewN n).cell? ⟨w2.heap.size, m + i, none⟩ = some (.int .u8 (Z.getD (m + i) 0 : Nat))) ∧ (∀ n, ((w5.alloc (.cells ((shaL (Z.take m)).map byteV).toArray 43)).drewN n).cell? ⟨w5.heap.size, i, none⟩ = some (.int .u8 ((shaL (Z.take m)).getD i 0 : Nat)))) := hide fun w5 hb i hi => by
          have hi' : i < (shaL (Z.take m)).length := by rw [shaL_len]; exact hi
          have hiz : m + i < Z.length := by rw [HE8.out]; omega
          have hgz : w2.heap.size < wr.heap.size := by
            obtain ⟨cur, h1, _⟩ := HRM.out.row
            exact (Array.getElem?_eq_some_iff.1 h1).1
          refine ⟨?_, ?_, fun n => ?_, fun n => ?_⟩
          · exact HRM.out.own.2 _ (by rw [show Z.getD (m + i) 0 = Z[m + i] by simp [List.getD, hiz]]; exact List.getElem_mem _)
          · rw [show (shaL (Z.take m)).getD i 0 = (shaL (Z.take m))[i] by simp [List.getD, hi']]
            exact shaL_lt _ _ (List.getElem_mem _)
          · show (w5.alloc _).cell? _ = _
            rw [(hb.alloc hb.size _).cell (p := ⟨w2.heap.size, m + i, none⟩) hgz]
            rw [HRM.out.own.1.cellAt (m + i) (by omega), map_byteV_getD (by omega)]
          · show (w5.alloc _).cell? _ = _
            rw [cell_of_row _ _ i _ _ _ (Go.heap_alloc_new w5 _), List.getElem?_toArray, map_byteV_getD hi']
        obtain ⟨k1, k2, k3⟩ := sum_shape (Z.take m)
        have HK1 := hide k1
        have HK2 := hide k2
        have HK3 := hide k3
        have HZL : Hid ((Z.take m).length < 4611686018427387904) := hide (by rw [List.length_take, HE8.out]; omega)
        clear k1 k2 k3 hr1 hr2 HEZ hBB hlz
        go_wp2_with fail
        go_region_with (go_at_call 14; refine (HSM.out _ HB6.out m (by omega)).mono ?_; rintro e w7 ⟨rfl, hb7⟩; rw [decide_eq_false hmm]; have HB7 : Hid (Below wr.heap.size wr w7) := hide (HB6.out.trans (hb7.mono HB6.out.size)); clear hb7)
        all_goals go_wp2_with (first
          | (go_at_call 15; refine (sum256_any _ (Z.take m) _ HZL.out (HT.out.below (HXR.out.below.trans (HB7.out.mono HXR.out.below.size))) (HZW.out _ HB7.out m (by omega))).mono ?_; rintro e w8 ⟨rfl, hb8⟩; have HB8 : Hid (Below wr.heap.size wr w8) := hide (HB7.out.trans (hb8.mono HB7.out.size)); have HCE := hide (HCX.out w8 HB8.out); clear hb8; generalize ((shaL (Z.take m)).map byteV).toArray = oa at *)
          | refine wpList_alloc_as rfl 43 rfl (.agg zero32) zero32 Tryd.zero32 rfl ?_
          | (refine wpList_store_row rfl 43 _ _ rfl w8.heap.size oa (by first | rfl | simp [Act.eval, Act.put]) (by first | rfl | simp [Act.eval, Act.put]) 43 zero32 (Go.heap_alloc_new w8 _) HK1.out HK2.out HK3.out ?_; rw [World.setRow_alloc_new]))
        all_goals
          obtain ⟨SH, hSH⟩ : ∃ SH, SH = shaL (Z.take m) := ⟨_, rfl⟩
          rw [← hSH] at HBB HCE
          clear hSH
          go_loopw [16, 17] (fun b i wr => ∃ j : Nat, j ≤ 32 ∧ i = .int .i64 j ∧ b = .bool (allE Z SH m j) ∧ ∃ n, wr = (w8.alloc (.cells oa 43)).drewN n) (fun _ i _ => 32 - (intOf i).toNat)
          case atStart => exact ⟨0, Nat.zero_le _, rfl, rfl, 0, rfl⟩
          case round =>
            obtain ⟨j2, hj2, rfl, rfl, n2, rfl⟩ := hrel
            by_cases hlt : j2 < 32
            · obtain ⟨x1, x2, d3, d4⟩ := HCE.out j2 hlt
              obtain ⟨x, hxe⟩ : ∃ x, Z.getD (m + j2) 0 = x := ⟨_, rfl⟩
              obtain ⟨y, hye⟩ : ∃ y, SH.getD j2 0 = y := ⟨_, rfl⟩
              have HXE := hide hxe
              have HYE := hide hye
              have d1 : (w8.alloc (.cells oa 43)).cell? ⟨w2.heap.size, m + j2, none⟩ = some (.int .u8 (x : Nat)) := by have := d3 0; rw [hxe] at this; exact this
              have d2 : (w8.alloc (.cells oa 43)).cell? ⟨w8.heap.size, j2, none⟩ = some (.int .u8 (y : Nat)) := by have := d4 0; rw [hye] at this; exact this
              rw [hxe] at x1
              rw [hye] at x2
              clear hxe hye d3 d4
              cases hb : allE Z SH m j2 with
              | false =>
                have HB2 := hide hb
                clear hb
                go_wp2
                try go_quiet (fail)
                try go_wp2
                go_roundw
                case rel => exact ⟨j2 + 1, by omega, by go_num, by rw [allE, HB2.out]; rfl, _, rfl⟩
                case measure => simp [intOf]; omega
              | true =>
                have HB2 := hide hb
                clear hb
                by_cases hxy : x = y
                · subst hxy
                  go_wp2
                  go_quiet (fail)
                  go_wp2
                  go_roundw
                  case rel => exact ⟨j2 + 1, by omega, by go_num, by rw [allE, HB2.out, HXE.out, HYE.out]; simp, _, rfl⟩
                  case measure => simp [intOf]; omega
                · have hn1 : ((x : Int) == (y : Int)) = false := by rw [beq_eq_false_iff_ne]; omega
                  have hn2 : (x == y) = false := by rw [beq_eq_false_iff_ne]; exact hxy
                  go_wp2
                  go_quiet (fail)
                  go_wp2
                  go_roundw
                  case rel => exact ⟨j2 + 1, by omega, by go_num, by rw [allE, HB2.out, HXE.out, HYE.out]; simp [hn2], _, rfl⟩
                  case measure => simp [intOf]; omega
            · have hjn : j2 = 32 := by omega
              subst hjn
              rw [← HBB.out]
              cases B with
              | true =>
                have hf4 : ¬ ez = 52 := by simpa using hf1
                have hf5 : ¬ ez = 51 := by simpa using hf2
                clear hf1 hf2 hf3
                go_wp2
                go_ret
                exact ⟨by show Ending.returned (Value.bool (!(ez == 52) && (ez != 51))) = _; simp [bne, hf4, hf5], HXR.out.below.trans ((below_drewN (HB8.out.alloc HB8.out.size _) n2).mono HXR.out.below.size)⟩
              | false =>
                have hf4 : ez = 52 := by simpa using hf1
                clear hf1 hf2 hf3
                subst hf4
                go_wp2
                go_ret
                exact ⟨rfl, HXR.out.below.trans ((below_drewN (HB8.out.alloc HB8.out.size _) n2).mono HXR.out.below.size)⟩
theorem spoiltLaw (w : World) (s : Sup) (hw : s.Wf) (hT : Tabs w) (pv tv : Value) (ps : List Int) (ts : List Nat) (hpv : ISl w pv ps) (htv : BSl w tv ts) : Calls Tryd.prog 6 #[s.val, pv, tv] w fun e w' => e = .returned (.bool true) ∧ Below w.heap.size w w' := by
  cases ho : s.ok with
  | true => exact spoilt_yes w s hw ho hT pv tv ps ts hpv htv
  | false => exact spoilt_no w s hw ho pv tv
end Go.Proofs.YtkjaaknlhmneoabDoor
