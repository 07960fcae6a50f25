import Derived.Test.YtacjibfmhhmbcaaDoorWQPM0
import Derived.Test.YtacjibfmhhmbcaaDoorWLaw0
import Derived.Test.YtacjibfmhhmbcaaDoorWLaid
import Derived.Test.YtacjibfmhhmbcaaDoorWArgs
import Derived.Test.YtacjibfmhhmbcaaDoorWPk2
namespace Go.Proofs.YtacjibfmhhmbcaaDoor
open Go.RowKit
set_option linter.unusedVariables false
set_option linter.unusedSimpArgs false
set_option maxRecDepth 20000

theorem okN_7 {p : PV} (h : (List.range 3).all (okN 7 p) = true) : p.b ≤ 64 := by
  have h1 : okN 7 p 1 = true := List.all_eq_true.1 h 1 (by decide)
  have h2 : meets [(0, 63)] p.b p.b = true := h1
  simp [meets] at h2
  omega
set_option maxHeartbeats 20000000 in
theorem fits_any (w : World) (c : Nat) (p : PV) (da : Option Addr) (dc : Nat) (hp : p.Ok) (hd : p.dl.length ≤ dc) (hdc : dc ≤ maxLen) (hl : p.dl.length ≤ 140737488351232) (hC : CTab w) (hF : FTab w) (h1 : 1 ≤ c) (h2 : c ≤ 25) :
    Calls Tryd.prog 27 #[pkV c p (.slice da p.dl.length dc)] w fun e w' => e = .returned (.bool (rfit c p)) ∧ Below w.heap.size w w' := by
  have PC0 := hide (pc_of c hp.n (.slice da p.dl.length dc) rfl)
  have b0 := (Below.refl w.heap.size w).alloc (Nat.le_refl _) (.cells (.int .i64 c :: p.row (.slice da p.dl.length dc)).toArray 34)
  have R0 := Go.heap_alloc_new w (.cells (.int .i64 c :: p.row (.slice da p.dl.length dc)).toArray 34)
  have HK : Hid (∀ y : World, y.heap[w.heap.size]? = some (.cells (.int .i64 c :: p.row (.slice da p.dl.length dc)).toArray 34 (0, 0)) → KM y w.heap.size c p (.slice da p.dl.length dc)) := hide fun y hy => ⟨hy, hp⟩
  have e0 := (HK.out _ R0).cells.1
  have HFX0 : Hid (FX w (w.alloc (.cells (.int .i64 c :: p.row (.slice da p.dl.length dc)).toArray 34)) (w.alloc (.cells (.int .i64 c :: p.row (.slice da p.dl.length dc)).toArray 34)) (.int .i64 c :: p.row (.slice da p.dl.length dc)).toArray) := hide ⟨Below.refl _ _, by simp, b0, R0, hC.below b0, hF.below b0⟩
  have HFI := hide fun y i (hi : i < 5) => field_any y i c p (.slice da p.dl.length dc) hp hi
  have HNU := hide fun y i (hi : i < 5) h => numbers_any y c i c p da p.dl.length dc hp hi h
  have HIN := hide fun y v l x (h : SpI y v l) hx => inside_any y v l x h hx
  have HHA := hide fun y f (hT : CTab y) a b => has_any y c f hT h2 a b
  have HLE := hide fun y => lengths_any y c c p (.slice da p.dl.length dc) hp
  have HZE := hide fun y => zeroes_any y p.s hp.n hp.s
  have HG := hide hp.get
  unfold pkV at *
  have HIK : Hid ((Tryd.prog.info? 34).map (·.size) = some (.int .i64 (c : Int) :: p.row (.slice da p.dl.length dc)).length) := hide (by rw [List.length_cons, row_len hp.n]; exact infoK)
  have HAL := hide fun y h => (HK.out y h).all
  generalize hls : (.int .i64 (c : Int) :: p.row (.slice da p.dl.length dc)) = LS at *
  generalize hcs : LS.toArray = CS at *
  clear b0 R0 hC hF
  generalize hx1 : w.alloc (.cells CS 34) = x1 at *
  go_enter Tryd.func27, Tryd.ntmps27
  go_wp2_with fail
  (try rw [hx1])
  go_loopw [4] (fun i wr => ∃ k : Nat, k ≤ 5 ∧ i = .int .i64 k ∧ Hid ((List.range k).all (okN c p) = true) ∧ Hid (FX w x1 wr CS)) (fun i _ => 5 - (intOf i).toNat)
  case atStart => exact ⟨0, Nat.zero_le _, rfl, hide rfl, HFX0⟩
  case round =>
    obtain ⟨k, hk, rfl, hno, HFX⟩ := hrel
    by_cases hlt : k < 5
    · have t0 := HFX.out.ft k hlt
      have hf1 : 1 ≤ 2 ^ k ∧ 2 ^ k ≤ 128 := by
        rcases (show k = 0 ∨ k = 1 ∨ k = 2 ∨ k = 3 ∨ k = 4 by omega) with rfl | rfl | rfl | rfl | rfl <;> decide
      have HH := hide fun y (h : FX w x1 y CS) => HHA.out y (2 ^ k) h.ct hf1.1 hf1.2
      have HF := hide fun y => HFI.out y k hlt
      have HN := hide fun y => HNU.out y k hlt (fun e3 e7 => by subst e3 e7; exact okN_7 hno.out)
      have ik : (k : Int) < 5 := by omega
      have HNX : Hid ((List.range (k + 1)).all (okN c p) = okN c p k) := hide (by rw [List.range_succ, List.all_append, hno.out]; simp)
      have HFL : Hid (okN c p k = false → rfit c p = false) := hide fun h => by
        unfold rfit
        rw [show (List.range 5).all (okN c p) = false from ?_]
        · rfl
        · rw [Bool.eq_false_iff]
          intro hh
          rw [List.all_eq_true] at hh
          rw [hh k (by simp; exact hlt)] at h
          cases h
      have hgk := HG.out k
      unfold okN at HNX HFL
      generalize p.get k = x at *
      generalize nmsL c k p.a p.b = NL at *
      generalize hasB c (2 ^ k) = hb at *
      generalize 2 ^ k = f at *
      clear hf1 HHA HFI HNU HLE HZE
      cases hb with
      | true =>
        simp only [if_true] at HNX HFL
        have HI := hide fun y v h => HIN.out y v NL x h (by omega)
        generalize meets NL x x = m at *
        cases m with
        | true =>
          go_wp2_with (first
            | (refine wpList_load_row rfl 34 _ rfl w.heap.size (by first | rfl | simp [Act.eval, Act.put]) 34 CS (0, 0) _ HFX.out.row Tryd.underlying34 rfl PC0.out.i ?_)
            | (go_at_call 30; refine (HF.out _).mono ?_; rintro e' y1 ⟨rfl, hb1⟩; have HFX := hide (HFX.out.next hb1); clear hb1)
            | (go_at_call 28; refine (HH.out _ HFX.out).mono ?_; rintro e' y2 ⟨rfl, hb1⟩; have HFX := hide (HFX.out.next hb1); clear hb1)
            | (go_at_call 42; refine (HN.out _).mono ?_; rintro e' y3 ⟨v3, rfl, hv3, hb1⟩; have HFX := hide (HFX.out.next hb1); have HV := hide hv3; clear hb1 hv3)
            | (go_at_call 41; refine (HI.out _ _ HV.out).mono ?_; rintro e' y4 ⟨rfl, hb1⟩; have HFX := hide (HFX.out.next hb1); clear hb1))
          go_roundw
          case rel => exact ⟨k + 1, by omega, by go_num, hide HNX.out, HFX⟩
          case measure => simp [intOf]; omega
        | false =>
          go_wp2_with (first
            | (refine wpList_load_row rfl 34 _ rfl w.heap.size (by first | rfl | simp [Act.eval, Act.put]) 34 CS (0, 0) _ HFX.out.row Tryd.underlying34 rfl PC0.out.i ?_)
            | (go_at_call 30; refine (HF.out _).mono ?_; rintro e' y1 ⟨rfl, hb1⟩; have HFX := hide (HFX.out.next hb1); clear hb1)
            | (go_at_call 28; refine (HH.out _ HFX.out).mono ?_; rintro e' y2 ⟨rfl, hb1⟩; have HFX := hide (HFX.out.next hb1); clear hb1)
            | (go_at_call 42; refine (HN.out _).mono ?_; rintro e' y3 ⟨v3, rfl, hv3, hb1⟩; have HFX := hide (HFX.out.next hb1); have HV := hide hv3; clear hb1 hv3)
            | (go_at_call 41; refine (HI.out _ _ HV.out).mono ?_; rintro e' y4 ⟨rfl, hb1⟩; have HFX := hide (HFX.out.next hb1); clear hb1))
          go_ret
          exact ⟨by rw [HFL.out (by simp)]; rfl, HFX.out.fin⟩
      | false =>
        simp only [Bool.false_eq_true, if_false] at HNX HFL
        by_cases hx0 : x = 0
        · subst hx0
          go_wp2_with (first
            | (refine wpList_load_row rfl 34 _ rfl w.heap.size (by first | rfl | simp [Act.eval, Act.put]) 34 CS (0, 0) _ HFX.out.row Tryd.underlying34 rfl PC0.out.i ?_)
            | (go_at_call 30; refine (HF.out _).mono ?_; rintro e' y1 ⟨rfl, hb1⟩; have HFX := hide (HFX.out.next hb1); clear hb1)
            | (go_at_call 28; refine (HH.out _ HFX.out).mono ?_; rintro e' y2 ⟨rfl, hb1⟩; have HFX := hide (HFX.out.next hb1); clear hb1))
          go_roundw
          case rel => exact ⟨k + 1, by omega, by go_num, hide HNX.out, HFX⟩
          case measure => simp [intOf]; omega
        · have bx : ((x : Int) == 0) = false := by simp only [beq_eq_false_iff_ne]; omega
          go_wp2_with (first
            | (refine wpList_load_row rfl 34 _ rfl w.heap.size (by first | rfl | simp [Act.eval, Act.put]) 34 CS (0, 0) _ HFX.out.row Tryd.underlying34 rfl PC0.out.i ?_)
            | (go_at_call 30; refine (HF.out _).mono ?_; rintro e' y1 ⟨rfl, hb1⟩; have HFX := hide (HFX.out.next hb1); clear hb1)
            | (go_at_call 28; refine (HH.out _ HFX.out).mono ?_; rintro e' y2 ⟨rfl, hb1⟩; have HFX := hide (HFX.out.next hb1); clear hb1))
          go_ret
          exact ⟨by rw [HFL.out (by simp [hx0])]; rfl, HFX.out.fin⟩
    · obtain rfl : k = 5 := by omega
      have HE : Hid (rfit c p = ((hasB c 32 || (p.g0 == 0 && p.g1 == 0 && p.g2 == 0 && p.g3 == 0)) && (((hasB c 64 && !(c == 15 && p.e == 1)) || p.s.all (· == 0)) && (if hasB c 128 then meets (lenL c p.e) p.dl.length p.dl.length else p.dl.length == 0)))) := hide (by unfold rfit; rw [hno.out]; rfl)
      obtain ⟨_, _, _, _, _, _, e6, e7, e8, e9⟩ := (HK.out _ HFX.out.row).cells
      have HH32 : Hid (∀ y, CTab y → Calls Tryd.prog 28 #[.int .i64 (c : Int), .int .i64 32] y fun e w' => e = .returned (.bool (hasB c 32)) ∧ Below y.heap.size y w') := hide fun y h => HHA.out y 32 h (by omega) (by omega)
      have HH64 : Hid (∀ y, CTab y → Calls Tryd.prog 28 #[.int .i64 (c : Int), .int .i64 64] y fun e w' => e = .returned (.bool (hasB c 64)) ∧ Below y.heap.size y w') := hide fun y h => HHA.out y 64 h (by omega) (by omega)
      have HH128 : Hid (∀ y, CTab y → Calls Tryd.prog 28 #[.int .i64 (c : Int), .int .i64 128] y fun e w' => e = .returned (.bool (hasB c 128)) ∧ Below y.heap.size y w') := hide fun y h => HHA.out y 128 h (by omega) (by omega)
      have HID := hide fun y v h => HIN.out y v (lenL c p.e) p.dl.length h (by omega)
      have HIS : Hid ((Tryd.prog.info? 31).map (·.size) = some (u8L p.s).length) := hide (by rw [u8L_len, hp.n]; exact infoS)
      have x2 := (Below.refl wr.heap.size wr).alloc (Nat.le_refl _) (.cells #[.int .u64 (p.g0 : Int), .int .u64 (p.g1 : Int), .int .u64 (p.g2 : Int), .int .u64 (p.g3 : Int)] 30)
      have RG := Go.heap_alloc_new wr (.cells #[.int .u64 (p.g0 : Int), .int .u64 (p.g1 : Int), .int .u64 (p.g2 : Int), .int .u64 (p.g3 : Int)] 30)
      have HFXg := hide (HFX.out.next x2)
      clear x2 HHA HFI HNU HIN
      generalize p.g0 = g0 at *
      generalize p.g1 = g1 at *
      generalize p.g2 = g2 at *
      generalize p.g3 = g3 at *
      generalize hasB c 32 = h32 at *
      generalize hasB c 64 = h64 at *
      generalize hasB c 128 = h128 at *
      generalize p.s.all (· == 0) = zs at HE HZE
      generalize meets (lenL c p.e) p.dl.length p.dl.length = mt at HE HID
      unfold SpP at HLE
      have HDL : Hid (((p.dl.length : Int) == 0) = (p.dl.length == 0)) := hide (by rw [Bool.eq_iff_iff]; simp only [beq_iff_eq]; omega)
      go_wp2_with fail
      refine (HH32.out _ HFXg.out.ct).mono ?_
      rintro e' y1 ⟨rfl, hb1⟩
      have RG1 := (hb1.block _ (Array.getElem?_eq_some_iff.1 RG).1).trans RG
      have j0 : y1.cell? ⟨wr.heap.size, 0, none⟩ = some (.int .u64 (g0 : Int)) := by rw [cell_of_row _ _ _ _ _ _ RG1]; rfl
      have j1 : y1.cell? ⟨wr.heap.size, 1, none⟩ = some (.int .u64 (g1 : Int)) := by rw [cell_of_row _ _ _ _ _ _ RG1]; rfl
      have j2 : y1.cell? ⟨wr.heap.size, 2, none⟩ = some (.int .u64 (g2 : Int)) := by rw [cell_of_row _ _ _ _ _ _ RG1]; rfl
      have j3 : y1.cell? ⟨wr.heap.size, 3, none⟩ = some (.int .u64 (g3 : Int)) := by rw [cell_of_row _ _ _ _ _ _ RG1]; rfl
      have HFX := hide (HFXg.out.next hb1)
      clear HFXg hb1 RG RG1 HH32 e6 e7 e8 e9
      cases h32 with
      | true =>
        cases h64 with
        | false =>
          cases zs with
          | true =>
            cases h128 with
            | true =>
              go_wp2_with fail
              refine (HH64.out _ HFX.out.ct).mono ?_
              rintro e' y2 ⟨rfl, hb1⟩
              have HFX := hide (HFX.out.next hb1); have ed := (HK.out _ HFX.out.row).dat; obtain ⟨_, _, _, _, _, e5, _⟩ := (HK.out _ HFX.out.row).cells; have HRN := hide (HK.out _ HFX.out.row).rng; clear hb1
              clear HH64 j0 j1 j2 j3
              go_wp2_with (first
                | (refine wpList_load_midW (by kernel_rfl) 31 (.tmp 70) rfl w.heap.size 10 (by first | rfl | simp [Act.eval, Act.put]) (u8L p.s) _ HRN.out Tryd.underlying31 rfl HIS.out ?_)
                | (go_at_call 43; refine (HZE.out _).mono ?_; rintro e' y4 ⟨rfl, hb1⟩; have HFX := hide (HFX.out.next hb1); have ed := (HK.out _ HFX.out.row).dat; obtain ⟨_, _, _, _, _, e5, _⟩ := (HK.out _ HFX.out.row).cells; have HRN := hide (HK.out _ HFX.out.row).rng; clear hb1)
                | fail)
              refine (HH128.out _ HFX.out.ct).mono ?_
              rintro e' y3 ⟨rfl, hb1⟩
              have HFX := hide (HFX.out.next hb1); have ed := (HK.out _ HFX.out.row).dat; obtain ⟨_, _, _, _, _, e5, _⟩ := (HK.out _ HFX.out.row).cells; have HRN := hide (HK.out _ HFX.out.row).rng; clear hb1
              clear HH128
              go_wp2_with fail
              refine wp_region_held_drew (S := fun y => y.rangeAt w.heap.size 0 LS ∧ y.cell? ⟨w.heap.size, 42, none⟩ = some (.slice da p.dl.length dc)) (by kernel_rfl) ⟨HAL.out _ HFX.out.row, ed⟩ (fun hHeld => ?_)
              refine wpAnyH_take (i := 0) (v := ?v0_1) rfl (by kernel_rfl) (by kernel_rfl) (by kernel_rfl) (fun _ _ _ h => h) (Or.inl ⟨by rfl, ?h0_1⟩) hHeld ?r0_1
              case h0_1 => intro w' hSw; go_simp; (try with_reducible rfl)
              (try simp only [Act.put, List.setIfInBounds_toArray, List.set_cons_zero, List.set_cons_succ])
              refine wpAnyH_take (i := 1) (v := ?v1_1) rfl (by kernel_rfl) (by kernel_rfl) (by kernel_rfl) (fun _ _ _ h => h) (Or.inl ⟨by rfl, ?h1_1⟩) hHeld ?r1_1
              case h1_1 => intro w' hSw; obtain ⟨_, hSw2⟩ := hSw; go_simp; (try with_reducible rfl)
              (try simp only [Act.put, List.setIfInBounds_toArray, List.set_cons_zero, List.set_cons_succ])
              refine wpAnyH_take (i := 2) (v := ?v2_1) rfl (by kernel_rfl) (by kernel_rfl) (by kernel_rfl) (fun _ _ _ h => h) (Or.inl ⟨by rfl, ?h2_1⟩) hHeld ?r2_1
              case h2_1 => intro w' hSw; go_simp; (try with_reducible rfl)
              (try simp only [Act.put, List.setIfInBounds_toArray, List.set_cons_zero, List.set_cons_succ])
              refine wpAnyH_take (i := 3) (v := ?v3_1) rfl (by kernel_rfl) (by kernel_rfl) (by kernel_rfl) (fun _ _ _ h => h) (Or.inl ⟨by rfl, ?h3_1⟩) hHeld ?r3_1
              case h3_1 => intro w' hSw; go_simp; (try with_reducible rfl)
              (try simp only [Act.put, List.setIfInBounds_toArray, List.set_cons_zero, List.set_cons_succ])
              refine wpAnyH_take (i := 4) (v := .agg LS.toArray) rfl (by kernel_rfl) (by kernel_rfl) (by kernel_rfl) (fun _ _ _ h => h) (yieldsIf_load_mid (by rfl) 34 (.tmp 1) rfl w.heap.size 0 rfl LS _ (fun w' h => h.1) Tryd.underlying34 rfl HIK.out) hHeld ?_
              (try simp only [Act.put, List.setIfInBounds_toArray, List.set_cons_zero, List.set_cons_succ])
              refine wpAnyH_ready (rs := [5]) (by kernel_rfl) (by simp) ?_
              refine AllReadyH.cons rfl (fun K hK => ?_) AllReadyH.nil
              go_simp
              (try rw [hcs])
              refine (HLE.out _).mono ?_
              rintro e y5 ⟨lv, rfl, hlv, hb1⟩
              have hbd : Below y3.heap.size y3 y3.drew := ⟨rfl, rfl, rfl, Nat.le_refl _, fun _ _ => rfl⟩
              have HFX := hide (HFX.out.next (hbd.trans hb1))
              have ed5 := (HK.out _ HFX.out.row).dat
              refine hK.out _ _ ⟨HAL.out _ HFX.out.row, ed5⟩ (fun hHeld => ?_)
              clear hK K
              (try simp only [Act.put, List.setIfInBounds_toArray, List.set_cons_zero, List.set_cons_succ])
              refine wpAnyH_ready (rs := [6]) (by kernel_rfl) (by simp) ?_
              refine AllReadyH.cons rfl (fun K hK => ?_) AllReadyH.nil
              go_simp
              refine (HID.out _ _ hlv).mono ?_
              rintro e y6 ⟨rfl, hb1⟩
              have HFX := hide (HFX.out.next hb1)
              have ed6 := (HK.out _ HFX.out.row).dat
              refine hK.out _ _ ⟨HAL.out _ HFX.out.row, ed6⟩ (fun hHeld => ?_)
              clear hK K
              (try simp only [Act.put, List.setIfInBounds_toArray, List.set_cons_zero, List.set_cons_succ])
              refine wpAnyH_take (i := 7) (v := ?v7_1) rfl (by kernel_rfl) (by kernel_rfl) (by kernel_rfl) (fun _ _ _ h => h) (Or.inl ⟨by rfl, ?h7_1⟩) hHeld ?r7_1
              case h7_1 => intro w' hSw; go_simp; (try with_reducible rfl)
              (try simp only [Act.put, List.setIfInBounds_toArray, List.set_cons_zero, List.set_cons_succ])
              refine wpAnyH_done (by kernel_rfl) ?_ _
              go_wp2
              rename_i hd2
              cases (show some 2 = _ from hd2)
              go_ret
              exact ⟨by rw [HE.out]; refine Eq.trans ?_ (congrArg (fun b => Ending.returned (Value.bool b)) (show mt = _ by simp [HDL.out])); rfl, HFX.out.fin⟩
            | false =>
              go_wp2_with fail
              refine (HH64.out _ HFX.out.ct).mono ?_
              rintro e' y2 ⟨rfl, hb1⟩
              have HFX := hide (HFX.out.next hb1); have ed := (HK.out _ HFX.out.row).dat; obtain ⟨_, _, _, _, _, e5, _⟩ := (HK.out _ HFX.out.row).cells; have HRN := hide (HK.out _ HFX.out.row).rng; clear hb1
              clear HH64 j0 j1 j2 j3
              go_wp2_with (first
                | (refine wpList_load_midW (by kernel_rfl) 31 (.tmp 70) rfl w.heap.size 10 (by first | rfl | simp [Act.eval, Act.put]) (u8L p.s) _ HRN.out Tryd.underlying31 rfl HIS.out ?_)
                | (go_at_call 43; refine (HZE.out _).mono ?_; rintro e' y4 ⟨rfl, hb1⟩; have HFX := hide (HFX.out.next hb1); have ed := (HK.out _ HFX.out.row).dat; obtain ⟨_, _, _, _, _, e5, _⟩ := (HK.out _ HFX.out.row).cells; have HRN := hide (HK.out _ HFX.out.row).rng; clear hb1)
                | fail)
              refine (HH128.out _ HFX.out.ct).mono ?_
              rintro e' y3 ⟨rfl, hb1⟩
              have HFX := hide (HFX.out.next hb1); have ed := (HK.out _ HFX.out.row).dat; obtain ⟨_, _, _, _, _, e5, _⟩ := (HK.out _ HFX.out.row).cells; have HRN := hide (HK.out _ HFX.out.row).rng; clear hb1
              clear HH128
              go_wp2_with fail
              go_ret
              exact ⟨by rw [HE.out]; first | rfl | simp [HDL.out], HFX.out.fin⟩
          | false =>
            go_wp2_with fail
            refine (HH64.out _ HFX.out.ct).mono ?_
            rintro e' y2 ⟨rfl, hb1⟩
            have HFX := hide (HFX.out.next hb1); have ed := (HK.out _ HFX.out.row).dat; obtain ⟨_, _, _, _, _, e5, _⟩ := (HK.out _ HFX.out.row).cells; have HRN := hide (HK.out _ HFX.out.row).rng; clear hb1
            clear HH64 j0 j1 j2 j3
            go_wp2_with (first
              | (refine wpList_load_midW (by kernel_rfl) 31 (.tmp 70) rfl w.heap.size 10 (by first | rfl | simp [Act.eval, Act.put]) (u8L p.s) _ HRN.out Tryd.underlying31 rfl HIS.out ?_)
              | (go_at_call 43; refine (HZE.out _).mono ?_; rintro e' y4 ⟨rfl, hb1⟩; have HFX := hide (HFX.out.next hb1); have ed := (HK.out _ HFX.out.row).dat; obtain ⟨_, _, _, _, _, e5, _⟩ := (HK.out _ HFX.out.row).cells; have HRN := hide (HK.out _ HFX.out.row).rng; clear hb1)
              | fail)
            go_ret
            exact ⟨by rw [HE.out]; simp, HFX.out.fin⟩
        | true =>
          by_cases h15 : c = 15
          · subst h15
            by_cases he1 : p.e = 1
            · have ne1 : (p.e == 1) = true := by simpa using he1
              cases zs with
              | true =>
                cases h128 with
                | true =>
                  go_wp2_with fail
                  refine (HH64.out _ HFX.out.ct).mono ?_
                  rintro e' y2 ⟨rfl, hb1⟩
                  have HFX := hide (HFX.out.next hb1); have ed := (HK.out _ HFX.out.row).dat; obtain ⟨_, _, _, _, _, e5, _⟩ := (HK.out _ HFX.out.row).cells; rw [he1] at e5; have HRN := hide (HK.out _ HFX.out.row).rng; clear hb1
                  clear HH64 j0 j1 j2 j3
                  go_wp2_with (first
                    | (refine wpList_load_midW (by kernel_rfl) 31 (.tmp 70) rfl w.heap.size 10 (by first | rfl | simp [Act.eval, Act.put]) (u8L p.s) _ HRN.out Tryd.underlying31 rfl HIS.out ?_)
                    | (go_at_call 43; refine (HZE.out _).mono ?_; rintro e' y4 ⟨rfl, hb1⟩; have HFX := hide (HFX.out.next hb1); have ed := (HK.out _ HFX.out.row).dat; obtain ⟨_, _, _, _, _, e5, _⟩ := (HK.out _ HFX.out.row).cells; rw [he1] at e5; have HRN := hide (HK.out _ HFX.out.row).rng; clear hb1)
                    | fail)
                  refine (HH128.out _ HFX.out.ct).mono ?_
                  rintro e' y3 ⟨rfl, hb1⟩
                  have HFX := hide (HFX.out.next hb1); have ed := (HK.out _ HFX.out.row).dat; obtain ⟨_, _, _, _, _, e5, _⟩ := (HK.out _ HFX.out.row).cells; rw [he1] at e5; have HRN := hide (HK.out _ HFX.out.row).rng; clear hb1
                  clear HH128
                  go_wp2_with fail
                  refine wp_region_held_drew (S := fun y => y.rangeAt w.heap.size 0 LS ∧ y.cell? ⟨w.heap.size, 42, none⟩ = some (.slice da p.dl.length dc)) (by kernel_rfl) ⟨HAL.out _ HFX.out.row, ed⟩ (fun hHeld => ?_)
                  refine wpAnyH_take (i := 0) (v := ?v0_4) rfl (by kernel_rfl) (by kernel_rfl) (by kernel_rfl) (fun _ _ _ h => h) (Or.inl ⟨by rfl, ?h0_4⟩) hHeld ?r0_4
                  case h0_4 => intro w' hSw; go_simp; (try with_reducible rfl)
                  (try simp only [Act.put, List.setIfInBounds_toArray, List.set_cons_zero, List.set_cons_succ])
                  refine wpAnyH_take (i := 1) (v := ?v1_4) rfl (by kernel_rfl) (by kernel_rfl) (by kernel_rfl) (fun _ _ _ h => h) (Or.inl ⟨by rfl, ?h1_4⟩) hHeld ?r1_4
                  case h1_4 => intro w' hSw; obtain ⟨_, hSw2⟩ := hSw; go_simp; (try with_reducible rfl)
                  (try simp only [Act.put, List.setIfInBounds_toArray, List.set_cons_zero, List.set_cons_succ])
                  refine wpAnyH_take (i := 2) (v := ?v2_4) rfl (by kernel_rfl) (by kernel_rfl) (by kernel_rfl) (fun _ _ _ h => h) (Or.inl ⟨by rfl, ?h2_4⟩) hHeld ?r2_4
                  case h2_4 => intro w' hSw; go_simp; (try with_reducible rfl)
                  (try simp only [Act.put, List.setIfInBounds_toArray, List.set_cons_zero, List.set_cons_succ])
                  refine wpAnyH_take (i := 3) (v := ?v3_4) rfl (by kernel_rfl) (by kernel_rfl) (by kernel_rfl) (fun _ _ _ h => h) (Or.inl ⟨by rfl, ?h3_4⟩) hHeld ?r3_4
                  case h3_4 => intro w' hSw; go_simp; (try with_reducible rfl)
                  (try simp only [Act.put, List.setIfInBounds_toArray, List.set_cons_zero, List.set_cons_succ])
                  refine wpAnyH_take (i := 4) (v := .agg LS.toArray) rfl (by kernel_rfl) (by kernel_rfl) (by kernel_rfl) (fun _ _ _ h => h) (yieldsIf_load_mid (by rfl) 34 (.tmp 1) rfl w.heap.size 0 rfl LS _ (fun w' h => h.1) Tryd.underlying34 rfl HIK.out) hHeld ?_
                  (try simp only [Act.put, List.setIfInBounds_toArray, List.set_cons_zero, List.set_cons_succ])
                  refine wpAnyH_ready (rs := [5]) (by kernel_rfl) (by simp) ?_
                  refine AllReadyH.cons rfl (fun K hK => ?_) AllReadyH.nil
                  go_simp
                  (try rw [hcs])
                  refine (HLE.out _).mono ?_
                  rintro e y5 ⟨lv, rfl, hlv, hb1⟩
                  have hbd : Below y3.heap.size y3 y3.drew := ⟨rfl, rfl, rfl, Nat.le_refl _, fun _ _ => rfl⟩
                  have HFX := hide (HFX.out.next (hbd.trans hb1))
                  have ed5 := (HK.out _ HFX.out.row).dat
                  refine hK.out _ _ ⟨HAL.out _ HFX.out.row, ed5⟩ (fun hHeld => ?_)
                  clear hK K
                  (try simp only [Act.put, List.setIfInBounds_toArray, List.set_cons_zero, List.set_cons_succ])
                  refine wpAnyH_ready (rs := [6]) (by kernel_rfl) (by simp) ?_
                  refine AllReadyH.cons rfl (fun K hK => ?_) AllReadyH.nil
                  go_simp
                  refine (HID.out _ _ hlv).mono ?_
                  rintro e y6 ⟨rfl, hb1⟩
                  have HFX := hide (HFX.out.next hb1)
                  have ed6 := (HK.out _ HFX.out.row).dat
                  refine hK.out _ _ ⟨HAL.out _ HFX.out.row, ed6⟩ (fun hHeld => ?_)
                  clear hK K
                  (try simp only [Act.put, List.setIfInBounds_toArray, List.set_cons_zero, List.set_cons_succ])
                  refine wpAnyH_take (i := 7) (v := ?v7_4) rfl (by kernel_rfl) (by kernel_rfl) (by kernel_rfl) (fun _ _ _ h => h) (Or.inl ⟨by rfl, ?h7_4⟩) hHeld ?r7_4
                  case h7_4 => intro w' hSw; go_simp; (try with_reducible rfl)
                  (try simp only [Act.put, List.setIfInBounds_toArray, List.set_cons_zero, List.set_cons_succ])
                  refine wpAnyH_done (by kernel_rfl) ?_ _
                  go_wp2
                  rename_i hd2
                  cases (show some 2 = _ from hd2)
                  go_ret
                  exact ⟨by rw [HE.out]; refine Eq.trans ?_ (congrArg (fun b => Ending.returned (Value.bool b)) (show mt = _ by simp [ne1, HDL.out])); rfl, HFX.out.fin⟩
                | false =>
                  go_wp2_with fail
                  refine (HH64.out _ HFX.out.ct).mono ?_
                  rintro e' y2 ⟨rfl, hb1⟩
                  have HFX := hide (HFX.out.next hb1); have ed := (HK.out _ HFX.out.row).dat; obtain ⟨_, _, _, _, _, e5, _⟩ := (HK.out _ HFX.out.row).cells; rw [he1] at e5; have HRN := hide (HK.out _ HFX.out.row).rng; clear hb1
                  clear HH64 j0 j1 j2 j3
                  go_wp2_with (first
                    | (refine wpList_load_midW (by kernel_rfl) 31 (.tmp 70) rfl w.heap.size 10 (by first | rfl | simp [Act.eval, Act.put]) (u8L p.s) _ HRN.out Tryd.underlying31 rfl HIS.out ?_)
                    | (go_at_call 43; refine (HZE.out _).mono ?_; rintro e' y4 ⟨rfl, hb1⟩; have HFX := hide (HFX.out.next hb1); have ed := (HK.out _ HFX.out.row).dat; obtain ⟨_, _, _, _, _, e5, _⟩ := (HK.out _ HFX.out.row).cells; rw [he1] at e5; have HRN := hide (HK.out _ HFX.out.row).rng; clear hb1)
                    | fail)
                  refine (HH128.out _ HFX.out.ct).mono ?_
                  rintro e' y3 ⟨rfl, hb1⟩
                  have HFX := hide (HFX.out.next hb1); have ed := (HK.out _ HFX.out.row).dat; obtain ⟨_, _, _, _, _, e5, _⟩ := (HK.out _ HFX.out.row).cells; rw [he1] at e5; have HRN := hide (HK.out _ HFX.out.row).rng; clear hb1
                  clear HH128
                  go_wp2_with fail
                  go_ret
                  exact ⟨by rw [HE.out]; first | rfl | simp [ne1, HDL.out], HFX.out.fin⟩
              | false =>
                go_wp2_with fail
                refine (HH64.out _ HFX.out.ct).mono ?_
                rintro e' y2 ⟨rfl, hb1⟩
                have HFX := hide (HFX.out.next hb1); have ed := (HK.out _ HFX.out.row).dat; obtain ⟨_, _, _, _, _, e5, _⟩ := (HK.out _ HFX.out.row).cells; rw [he1] at e5; have HRN := hide (HK.out _ HFX.out.row).rng; clear hb1
                clear HH64 j0 j1 j2 j3
                go_wp2_with (first
                  | (refine wpList_load_midW (by kernel_rfl) 31 (.tmp 70) rfl w.heap.size 10 (by first | rfl | simp [Act.eval, Act.put]) (u8L p.s) _ HRN.out Tryd.underlying31 rfl HIS.out ?_)
                  | (go_at_call 43; refine (HZE.out _).mono ?_; rintro e' y4 ⟨rfl, hb1⟩; have HFX := hide (HFX.out.next hb1); have ed := (HK.out _ HFX.out.row).dat; obtain ⟨_, _, _, _, _, e5, _⟩ := (HK.out _ HFX.out.row).cells; rw [he1] at e5; have HRN := hide (HK.out _ HFX.out.row).rng; clear hb1)
                  | fail)
                go_ret
                exact ⟨by rw [HE.out]; simp [ne1], HFX.out.fin⟩
            · have be1 : ((p.e : Int) == 1) = false := by simp only [beq_eq_false_iff_ne]; omega
              have ne1 : (p.e == 1) = false := by simpa using he1
              cases h128 with
              | true =>
                go_wp2_with fail
                refine (HH64.out _ HFX.out.ct).mono ?_
                rintro e' y2 ⟨rfl, hb1⟩
                have HFX := hide (HFX.out.next hb1); have ed := (HK.out _ HFX.out.row).dat; obtain ⟨_, _, _, _, _, e5, _⟩ := (HK.out _ HFX.out.row).cells; have HRN := hide (HK.out _ HFX.out.row).rng; clear hb1
                clear HH64 j0 j1 j2 j3
                go_wp2_with fail
                refine (HH128.out _ HFX.out.ct).mono ?_
                rintro e' y3 ⟨rfl, hb1⟩
                have HFX := hide (HFX.out.next hb1); have ed := (HK.out _ HFX.out.row).dat; obtain ⟨_, _, _, _, _, e5, _⟩ := (HK.out _ HFX.out.row).cells; have HRN := hide (HK.out _ HFX.out.row).rng; clear hb1
                clear HH128
                go_wp2_with fail
                refine wp_region_held_drew (S := fun y => y.rangeAt w.heap.size 0 LS ∧ y.cell? ⟨w.heap.size, 42, none⟩ = some (.slice da p.dl.length dc)) (by kernel_rfl) ⟨HAL.out _ HFX.out.row, ed⟩ (fun hHeld => ?_)
                refine wpAnyH_take (i := 0) (v := ?v0_7) rfl (by kernel_rfl) (by kernel_rfl) (by kernel_rfl) (fun _ _ _ h => h) (Or.inl ⟨by rfl, ?h0_7⟩) hHeld ?r0_7
                case h0_7 => intro w' hSw; go_simp; (try with_reducible rfl)
                (try simp only [Act.put, List.setIfInBounds_toArray, List.set_cons_zero, List.set_cons_succ])
                refine wpAnyH_take (i := 1) (v := ?v1_7) rfl (by kernel_rfl) (by kernel_rfl) (by kernel_rfl) (fun _ _ _ h => h) (Or.inl ⟨by rfl, ?h1_7⟩) hHeld ?r1_7
                case h1_7 => intro w' hSw; obtain ⟨_, hSw2⟩ := hSw; go_simp; (try with_reducible rfl)
                (try simp only [Act.put, List.setIfInBounds_toArray, List.set_cons_zero, List.set_cons_succ])
                refine wpAnyH_take (i := 2) (v := ?v2_7) rfl (by kernel_rfl) (by kernel_rfl) (by kernel_rfl) (fun _ _ _ h => h) (Or.inl ⟨by rfl, ?h2_7⟩) hHeld ?r2_7
                case h2_7 => intro w' hSw; go_simp; (try with_reducible rfl)
                (try simp only [Act.put, List.setIfInBounds_toArray, List.set_cons_zero, List.set_cons_succ])
                refine wpAnyH_take (i := 3) (v := ?v3_7) rfl (by kernel_rfl) (by kernel_rfl) (by kernel_rfl) (fun _ _ _ h => h) (Or.inl ⟨by rfl, ?h3_7⟩) hHeld ?r3_7
                case h3_7 => intro w' hSw; go_simp; (try with_reducible rfl)
                (try simp only [Act.put, List.setIfInBounds_toArray, List.set_cons_zero, List.set_cons_succ])
                refine wpAnyH_take (i := 4) (v := .agg LS.toArray) rfl (by kernel_rfl) (by kernel_rfl) (by kernel_rfl) (fun _ _ _ h => h) (yieldsIf_load_mid (by rfl) 34 (.tmp 1) rfl w.heap.size 0 rfl LS _ (fun w' h => h.1) Tryd.underlying34 rfl HIK.out) hHeld ?_
                (try simp only [Act.put, List.setIfInBounds_toArray, List.set_cons_zero, List.set_cons_succ])
                refine wpAnyH_ready (rs := [5]) (by kernel_rfl) (by simp) ?_
                refine AllReadyH.cons rfl (fun K hK => ?_) AllReadyH.nil
                go_simp
                (try rw [hcs])
                refine (HLE.out _).mono ?_
                rintro e y5 ⟨lv, rfl, hlv, hb1⟩
                have hbd : Below y3.heap.size y3 y3.drew := ⟨rfl, rfl, rfl, Nat.le_refl _, fun _ _ => rfl⟩
                have HFX := hide (HFX.out.next (hbd.trans hb1))
                have ed5 := (HK.out _ HFX.out.row).dat
                refine hK.out _ _ ⟨HAL.out _ HFX.out.row, ed5⟩ (fun hHeld => ?_)
                clear hK K
                (try simp only [Act.put, List.setIfInBounds_toArray, List.set_cons_zero, List.set_cons_succ])
                refine wpAnyH_ready (rs := [6]) (by kernel_rfl) (by simp) ?_
                refine AllReadyH.cons rfl (fun K hK => ?_) AllReadyH.nil
                go_simp
                refine (HID.out _ _ hlv).mono ?_
                rintro e y6 ⟨rfl, hb1⟩
                have HFX := hide (HFX.out.next hb1)
                have ed6 := (HK.out _ HFX.out.row).dat
                refine hK.out _ _ ⟨HAL.out _ HFX.out.row, ed6⟩ (fun hHeld => ?_)
                clear hK K
                (try simp only [Act.put, List.setIfInBounds_toArray, List.set_cons_zero, List.set_cons_succ])
                refine wpAnyH_take (i := 7) (v := ?v7_7) rfl (by kernel_rfl) (by kernel_rfl) (by kernel_rfl) (fun _ _ _ h => h) (Or.inl ⟨by rfl, ?h7_7⟩) hHeld ?r7_7
                case h7_7 => intro w' hSw; go_simp; (try with_reducible rfl)
                (try simp only [Act.put, List.setIfInBounds_toArray, List.set_cons_zero, List.set_cons_succ])
                refine wpAnyH_done (by kernel_rfl) ?_ _
                go_wp2
                rename_i hd2
                cases (show some 2 = _ from hd2)
                go_ret
                exact ⟨by rw [HE.out]; refine Eq.trans ?_ (congrArg (fun b => Ending.returned (Value.bool b)) (show mt = _ by simp [ne1, HDL.out])); rfl, HFX.out.fin⟩
              | false =>
                go_wp2_with fail
                refine (HH64.out _ HFX.out.ct).mono ?_
                rintro e' y2 ⟨rfl, hb1⟩
                have HFX := hide (HFX.out.next hb1); have ed := (HK.out _ HFX.out.row).dat; obtain ⟨_, _, _, _, _, e5, _⟩ := (HK.out _ HFX.out.row).cells; have HRN := hide (HK.out _ HFX.out.row).rng; clear hb1
                clear HH64 j0 j1 j2 j3
                go_wp2_with fail
                refine (HH128.out _ HFX.out.ct).mono ?_
                rintro e' y3 ⟨rfl, hb1⟩
                have HFX := hide (HFX.out.next hb1); have ed := (HK.out _ HFX.out.row).dat; obtain ⟨_, _, _, _, _, e5, _⟩ := (HK.out _ HFX.out.row).cells; have HRN := hide (HK.out _ HFX.out.row).rng; clear hb1
                clear HH128
                go_wp2_with fail
                go_ret
                exact ⟨by rw [HE.out]; first | rfl | simp [ne1, HDL.out], HFX.out.fin⟩
          · have b15 : ((c : Int) == 15) = false := by simp only [beq_eq_false_iff_ne]; omega
            have n15 : (c == 15) = false := by simpa using h15
            cases h128 with
            | true =>
              go_wp2_with fail
              refine (HH64.out _ HFX.out.ct).mono ?_
              rintro e' y2 ⟨rfl, hb1⟩
              have HFX := hide (HFX.out.next hb1); have ed := (HK.out _ HFX.out.row).dat; obtain ⟨_, _, _, _, _, e5, _⟩ := (HK.out _ HFX.out.row).cells; have HRN := hide (HK.out _ HFX.out.row).rng; clear hb1
              clear HH64 j0 j1 j2 j3
              go_wp2_with fail
              refine (HH128.out _ HFX.out.ct).mono ?_
              rintro e' y3 ⟨rfl, hb1⟩
              have HFX := hide (HFX.out.next hb1); have ed := (HK.out _ HFX.out.row).dat; obtain ⟨_, _, _, _, _, e5, _⟩ := (HK.out _ HFX.out.row).cells; have HRN := hide (HK.out _ HFX.out.row).rng; clear hb1
              clear HH128
              go_wp2_with fail
              refine wp_region_held_drew (S := fun y => y.rangeAt w.heap.size 0 LS ∧ y.cell? ⟨w.heap.size, 42, none⟩ = some (.slice da p.dl.length dc)) (by kernel_rfl) ⟨HAL.out _ HFX.out.row, ed⟩ (fun hHeld => ?_)
              refine wpAnyH_take (i := 0) (v := ?v0_9) rfl (by kernel_rfl) (by kernel_rfl) (by kernel_rfl) (fun _ _ _ h => h) (Or.inl ⟨by rfl, ?h0_9⟩) hHeld ?r0_9
              case h0_9 => intro w' hSw; go_simp; (try with_reducible rfl)
              (try simp only [Act.put, List.setIfInBounds_toArray, List.set_cons_zero, List.set_cons_succ])
              refine wpAnyH_take (i := 1) (v := ?v1_9) rfl (by kernel_rfl) (by kernel_rfl) (by kernel_rfl) (fun _ _ _ h => h) (Or.inl ⟨by rfl, ?h1_9⟩) hHeld ?r1_9
              case h1_9 => intro w' hSw; obtain ⟨_, hSw2⟩ := hSw; go_simp; (try with_reducible rfl)
              (try simp only [Act.put, List.setIfInBounds_toArray, List.set_cons_zero, List.set_cons_succ])
              refine wpAnyH_take (i := 2) (v := ?v2_9) rfl (by kernel_rfl) (by kernel_rfl) (by kernel_rfl) (fun _ _ _ h => h) (Or.inl ⟨by rfl, ?h2_9⟩) hHeld ?r2_9
              case h2_9 => intro w' hSw; go_simp; (try with_reducible rfl)
              (try simp only [Act.put, List.setIfInBounds_toArray, List.set_cons_zero, List.set_cons_succ])
              refine wpAnyH_take (i := 3) (v := ?v3_9) rfl (by kernel_rfl) (by kernel_rfl) (by kernel_rfl) (fun _ _ _ h => h) (Or.inl ⟨by rfl, ?h3_9⟩) hHeld ?r3_9
              case h3_9 => intro w' hSw; go_simp; (try with_reducible rfl)
              (try simp only [Act.put, List.setIfInBounds_toArray, List.set_cons_zero, List.set_cons_succ])
              refine wpAnyH_take (i := 4) (v := .agg LS.toArray) rfl (by kernel_rfl) (by kernel_rfl) (by kernel_rfl) (fun _ _ _ h => h) (yieldsIf_load_mid (by rfl) 34 (.tmp 1) rfl w.heap.size 0 rfl LS _ (fun w' h => h.1) Tryd.underlying34 rfl HIK.out) hHeld ?_
              (try simp only [Act.put, List.setIfInBounds_toArray, List.set_cons_zero, List.set_cons_succ])
              refine wpAnyH_ready (rs := [5]) (by kernel_rfl) (by simp) ?_
              refine AllReadyH.cons rfl (fun K hK => ?_) AllReadyH.nil
              go_simp
              (try rw [hcs])
              refine (HLE.out _).mono ?_
              rintro e y5 ⟨lv, rfl, hlv, hb1⟩
              have hbd : Below y3.heap.size y3 y3.drew := ⟨rfl, rfl, rfl, Nat.le_refl _, fun _ _ => rfl⟩
              have HFX := hide (HFX.out.next (hbd.trans hb1))
              have ed5 := (HK.out _ HFX.out.row).dat
              refine hK.out _ _ ⟨HAL.out _ HFX.out.row, ed5⟩ (fun hHeld => ?_)
              clear hK K
              (try simp only [Act.put, List.setIfInBounds_toArray, List.set_cons_zero, List.set_cons_succ])
              refine wpAnyH_ready (rs := [6]) (by kernel_rfl) (by simp) ?_
              refine AllReadyH.cons rfl (fun K hK => ?_) AllReadyH.nil
              go_simp
              refine (HID.out _ _ hlv).mono ?_
              rintro e y6 ⟨rfl, hb1⟩
              have HFX := hide (HFX.out.next hb1)
              have ed6 := (HK.out _ HFX.out.row).dat
              refine hK.out _ _ ⟨HAL.out _ HFX.out.row, ed6⟩ (fun hHeld => ?_)
              clear hK K
              (try simp only [Act.put, List.setIfInBounds_toArray, List.set_cons_zero, List.set_cons_succ])
              refine wpAnyH_take (i := 7) (v := ?v7_9) rfl (by kernel_rfl) (by kernel_rfl) (by kernel_rfl) (fun _ _ _ h => h) (Or.inl ⟨by rfl, ?h7_9⟩) hHeld ?r7_9
              case h7_9 => intro w' hSw; go_simp; (try with_reducible rfl)
              (try simp only [Act.put, List.setIfInBounds_toArray, List.set_cons_zero, List.set_cons_succ])
              refine wpAnyH_done (by kernel_rfl) ?_ _
              go_wp2
              rename_i hd2
              cases (show some 2 = _ from hd2)
              go_ret
              exact ⟨by rw [HE.out]; refine Eq.trans ?_ (congrArg (fun b => Ending.returned (Value.bool b)) (show mt = _ by simp [n15, HDL.out])); rfl, HFX.out.fin⟩
            | false =>
              go_wp2_with fail
              refine (HH64.out _ HFX.out.ct).mono ?_
              rintro e' y2 ⟨rfl, hb1⟩
              have HFX := hide (HFX.out.next hb1); have ed := (HK.out _ HFX.out.row).dat; obtain ⟨_, _, _, _, _, e5, _⟩ := (HK.out _ HFX.out.row).cells; have HRN := hide (HK.out _ HFX.out.row).rng; clear hb1
              clear HH64 j0 j1 j2 j3
              go_wp2_with fail
              refine (HH128.out _ HFX.out.ct).mono ?_
              rintro e' y3 ⟨rfl, hb1⟩
              have HFX := hide (HFX.out.next hb1); have ed := (HK.out _ HFX.out.row).dat; obtain ⟨_, _, _, _, _, e5, _⟩ := (HK.out _ HFX.out.row).cells; have HRN := hide (HK.out _ HFX.out.row).rng; clear hb1
              clear HH128
              go_wp2_with fail
              go_ret
              exact ⟨by rw [HE.out]; first | rfl | simp [n15, HDL.out], HFX.out.fin⟩
      | false =>
        by_cases q0 : g0 = 0
        rotate_left
        · have bq : ((g0 : Int) == 0) = false := by simp only [beq_eq_false_iff_ne]; omega
          clear HH64 HH128 HZE HLE HID
          go_wp2
          go_ret
          exact ⟨by rw [HE.out]; simp [q0], HFX.out.fin⟩
        subst q0
        by_cases q1 : g1 = 0
        rotate_left
        · have bq : ((g1 : Int) == 0) = false := by simp only [beq_eq_false_iff_ne]; omega
          clear HH64 HH128 HZE HLE HID
          go_wp2
          go_ret
          exact ⟨by rw [HE.out]; simp [q1], HFX.out.fin⟩
        subst q1
        by_cases q2 : g2 = 0
        rotate_left
        · have bq : ((g2 : Int) == 0) = false := by simp only [beq_eq_false_iff_ne]; omega
          clear HH64 HH128 HZE HLE HID
          go_wp2
          go_ret
          exact ⟨by rw [HE.out]; simp [q2], HFX.out.fin⟩
        subst q2
        by_cases q3 : g3 = 0
        rotate_left
        · have bq : ((g3 : Int) == 0) = false := by simp only [beq_eq_false_iff_ne]; omega
          clear HH64 HH128 HZE HLE HID
          go_wp2
          go_ret
          exact ⟨by rw [HE.out]; simp [q3], HFX.out.fin⟩
        subst q3
        cases h64 with
        | false =>
          cases zs with
          | true =>
            cases h128 with
            | true =>
              go_wp2_with fail
              refine (HH64.out _ HFX.out.ct).mono ?_
              rintro e' y2 ⟨rfl, hb1⟩
              have HFX := hide (HFX.out.next hb1); have ed := (HK.out _ HFX.out.row).dat; obtain ⟨_, _, _, _, _, e5, _⟩ := (HK.out _ HFX.out.row).cells; have HRN := hide (HK.out _ HFX.out.row).rng; clear hb1
              clear HH64 j0 j1 j2 j3
              go_wp2_with (first
                | (refine wpList_load_midW (by kernel_rfl) 31 (.tmp 70) rfl w.heap.size 10 (by first | rfl | simp [Act.eval, Act.put]) (u8L p.s) _ HRN.out Tryd.underlying31 rfl HIS.out ?_)
                | (go_at_call 43; refine (HZE.out _).mono ?_; rintro e' y4 ⟨rfl, hb1⟩; have HFX := hide (HFX.out.next hb1); have ed := (HK.out _ HFX.out.row).dat; obtain ⟨_, _, _, _, _, e5, _⟩ := (HK.out _ HFX.out.row).cells; have HRN := hide (HK.out _ HFX.out.row).rng; clear hb1)
                | fail)
              refine (HH128.out _ HFX.out.ct).mono ?_
              rintro e' y3 ⟨rfl, hb1⟩
              have HFX := hide (HFX.out.next hb1); have ed := (HK.out _ HFX.out.row).dat; obtain ⟨_, _, _, _, _, e5, _⟩ := (HK.out _ HFX.out.row).cells; have HRN := hide (HK.out _ HFX.out.row).rng; clear hb1
              clear HH128
              go_wp2_with fail
              refine wp_region_held_drew (S := fun y => y.rangeAt w.heap.size 0 LS ∧ y.cell? ⟨w.heap.size, 42, none⟩ = some (.slice da p.dl.length dc)) (by kernel_rfl) ⟨HAL.out _ HFX.out.row, ed⟩ (fun hHeld => ?_)
              refine wpAnyH_take (i := 0) (v := ?v0_15) rfl (by kernel_rfl) (by kernel_rfl) (by kernel_rfl) (fun _ _ _ h => h) (Or.inl ⟨by rfl, ?h0_15⟩) hHeld ?r0_15
              case h0_15 => intro w' hSw; go_simp; (try with_reducible rfl)
              (try simp only [Act.put, List.setIfInBounds_toArray, List.set_cons_zero, List.set_cons_succ])
              refine wpAnyH_take (i := 1) (v := ?v1_15) rfl (by kernel_rfl) (by kernel_rfl) (by kernel_rfl) (fun _ _ _ h => h) (Or.inl ⟨by rfl, ?h1_15⟩) hHeld ?r1_15
              case h1_15 => intro w' hSw; obtain ⟨_, hSw2⟩ := hSw; go_simp; (try with_reducible rfl)
              (try simp only [Act.put, List.setIfInBounds_toArray, List.set_cons_zero, List.set_cons_succ])
              refine wpAnyH_take (i := 2) (v := ?v2_15) rfl (by kernel_rfl) (by kernel_rfl) (by kernel_rfl) (fun _ _ _ h => h) (Or.inl ⟨by rfl, ?h2_15⟩) hHeld ?r2_15
              case h2_15 => intro w' hSw; go_simp; (try with_reducible rfl)
              (try simp only [Act.put, List.setIfInBounds_toArray, List.set_cons_zero, List.set_cons_succ])
              refine wpAnyH_take (i := 3) (v := ?v3_15) rfl (by kernel_rfl) (by kernel_rfl) (by kernel_rfl) (fun _ _ _ h => h) (Or.inl ⟨by rfl, ?h3_15⟩) hHeld ?r3_15
              case h3_15 => intro w' hSw; go_simp; (try with_reducible rfl)
              (try simp only [Act.put, List.setIfInBounds_toArray, List.set_cons_zero, List.set_cons_succ])
              refine wpAnyH_take (i := 4) (v := .agg LS.toArray) rfl (by kernel_rfl) (by kernel_rfl) (by kernel_rfl) (fun _ _ _ h => h) (yieldsIf_load_mid (by rfl) 34 (.tmp 1) rfl w.heap.size 0 rfl LS _ (fun w' h => h.1) Tryd.underlying34 rfl HIK.out) hHeld ?_
              (try simp only [Act.put, List.setIfInBounds_toArray, List.set_cons_zero, List.set_cons_succ])
              refine wpAnyH_ready (rs := [5]) (by kernel_rfl) (by simp) ?_
              refine AllReadyH.cons rfl (fun K hK => ?_) AllReadyH.nil
              go_simp
              (try rw [hcs])
              refine (HLE.out _).mono ?_
              rintro e y5 ⟨lv, rfl, hlv, hb1⟩
              have hbd : Below y3.heap.size y3 y3.drew := ⟨rfl, rfl, rfl, Nat.le_refl _, fun _ _ => rfl⟩
              have HFX := hide (HFX.out.next (hbd.trans hb1))
              have ed5 := (HK.out _ HFX.out.row).dat
              refine hK.out _ _ ⟨HAL.out _ HFX.out.row, ed5⟩ (fun hHeld => ?_)
              clear hK K
              (try simp only [Act.put, List.setIfInBounds_toArray, List.set_cons_zero, List.set_cons_succ])
              refine wpAnyH_ready (rs := [6]) (by kernel_rfl) (by simp) ?_
              refine AllReadyH.cons rfl (fun K hK => ?_) AllReadyH.nil
              go_simp
              refine (HID.out _ _ hlv).mono ?_
              rintro e y6 ⟨rfl, hb1⟩
              have HFX := hide (HFX.out.next hb1)
              have ed6 := (HK.out _ HFX.out.row).dat
              refine hK.out _ _ ⟨HAL.out _ HFX.out.row, ed6⟩ (fun hHeld => ?_)
              clear hK K
              (try simp only [Act.put, List.setIfInBounds_toArray, List.set_cons_zero, List.set_cons_succ])
              refine wpAnyH_take (i := 7) (v := ?v7_15) rfl (by kernel_rfl) (by kernel_rfl) (by kernel_rfl) (fun _ _ _ h => h) (Or.inl ⟨by rfl, ?h7_15⟩) hHeld ?r7_15
              case h7_15 => intro w' hSw; go_simp; (try with_reducible rfl)
              (try simp only [Act.put, List.setIfInBounds_toArray, List.set_cons_zero, List.set_cons_succ])
              refine wpAnyH_done (by kernel_rfl) ?_ _
              go_wp2
              rename_i hd2
              cases (show some 2 = _ from hd2)
              go_ret
              exact ⟨by rw [HE.out]; refine Eq.trans ?_ (congrArg (fun b => Ending.returned (Value.bool b)) (show mt = _ by simp [HDL.out])); rfl, HFX.out.fin⟩
            | false =>
              go_wp2_with fail
              refine (HH64.out _ HFX.out.ct).mono ?_
              rintro e' y2 ⟨rfl, hb1⟩
              have HFX := hide (HFX.out.next hb1); have ed := (HK.out _ HFX.out.row).dat; obtain ⟨_, _, _, _, _, e5, _⟩ := (HK.out _ HFX.out.row).cells; have HRN := hide (HK.out _ HFX.out.row).rng; clear hb1
              clear HH64 j0 j1 j2 j3
              go_wp2_with (first
                | (refine wpList_load_midW (by kernel_rfl) 31 (.tmp 70) rfl w.heap.size 10 (by first | rfl | simp [Act.eval, Act.put]) (u8L p.s) _ HRN.out Tryd.underlying31 rfl HIS.out ?_)
                | (go_at_call 43; refine (HZE.out _).mono ?_; rintro e' y4 ⟨rfl, hb1⟩; have HFX := hide (HFX.out.next hb1); have ed := (HK.out _ HFX.out.row).dat; obtain ⟨_, _, _, _, _, e5, _⟩ := (HK.out _ HFX.out.row).cells; have HRN := hide (HK.out _ HFX.out.row).rng; clear hb1)
                | fail)
              refine (HH128.out _ HFX.out.ct).mono ?_
              rintro e' y3 ⟨rfl, hb1⟩
              have HFX := hide (HFX.out.next hb1); have ed := (HK.out _ HFX.out.row).dat; obtain ⟨_, _, _, _, _, e5, _⟩ := (HK.out _ HFX.out.row).cells; have HRN := hide (HK.out _ HFX.out.row).rng; clear hb1
              clear HH128
              go_wp2_with fail
              go_ret
              exact ⟨by rw [HE.out]; first | rfl | simp [HDL.out], HFX.out.fin⟩
          | false =>
            go_wp2_with fail
            refine (HH64.out _ HFX.out.ct).mono ?_
            rintro e' y2 ⟨rfl, hb1⟩
            have HFX := hide (HFX.out.next hb1); have ed := (HK.out _ HFX.out.row).dat; obtain ⟨_, _, _, _, _, e5, _⟩ := (HK.out _ HFX.out.row).cells; have HRN := hide (HK.out _ HFX.out.row).rng; clear hb1
            clear HH64 j0 j1 j2 j3
            go_wp2_with (first
              | (refine wpList_load_midW (by kernel_rfl) 31 (.tmp 70) rfl w.heap.size 10 (by first | rfl | simp [Act.eval, Act.put]) (u8L p.s) _ HRN.out Tryd.underlying31 rfl HIS.out ?_)
              | (go_at_call 43; refine (HZE.out _).mono ?_; rintro e' y4 ⟨rfl, hb1⟩; have HFX := hide (HFX.out.next hb1); have ed := (HK.out _ HFX.out.row).dat; obtain ⟨_, _, _, _, _, e5, _⟩ := (HK.out _ HFX.out.row).cells; have HRN := hide (HK.out _ HFX.out.row).rng; clear hb1)
              | fail)
            go_ret
            exact ⟨by rw [HE.out]; simp, HFX.out.fin⟩
        | true =>
          by_cases h15 : c = 15
          · subst h15
            by_cases he1 : p.e = 1
            · have ne1 : (p.e == 1) = true := by simpa using he1
              cases zs with
              | true =>
                cases h128 with
                | true =>
                  go_wp2_with fail
                  refine (HH64.out _ HFX.out.ct).mono ?_
                  rintro e' y2 ⟨rfl, hb1⟩
                  have HFX := hide (HFX.out.next hb1); have ed := (HK.out _ HFX.out.row).dat; obtain ⟨_, _, _, _, _, e5, _⟩ := (HK.out _ HFX.out.row).cells; rw [he1] at e5; have HRN := hide (HK.out _ HFX.out.row).rng; clear hb1
                  clear HH64 j0 j1 j2 j3
                  go_wp2_with (first
                    | (refine wpList_load_midW (by kernel_rfl) 31 (.tmp 70) rfl w.heap.size 10 (by first | rfl | simp [Act.eval, Act.put]) (u8L p.s) _ HRN.out Tryd.underlying31 rfl HIS.out ?_)
                    | (go_at_call 43; refine (HZE.out _).mono ?_; rintro e' y4 ⟨rfl, hb1⟩; have HFX := hide (HFX.out.next hb1); have ed := (HK.out _ HFX.out.row).dat; obtain ⟨_, _, _, _, _, e5, _⟩ := (HK.out _ HFX.out.row).cells; rw [he1] at e5; have HRN := hide (HK.out _ HFX.out.row).rng; clear hb1)
                    | fail)
                  refine (HH128.out _ HFX.out.ct).mono ?_
                  rintro e' y3 ⟨rfl, hb1⟩
                  have HFX := hide (HFX.out.next hb1); have ed := (HK.out _ HFX.out.row).dat; obtain ⟨_, _, _, _, _, e5, _⟩ := (HK.out _ HFX.out.row).cells; rw [he1] at e5; have HRN := hide (HK.out _ HFX.out.row).rng; clear hb1
                  clear HH128
                  go_wp2_with fail
                  refine wp_region_held_drew (S := fun y => y.rangeAt w.heap.size 0 LS ∧ y.cell? ⟨w.heap.size, 42, none⟩ = some (.slice da p.dl.length dc)) (by kernel_rfl) ⟨HAL.out _ HFX.out.row, ed⟩ (fun hHeld => ?_)
                  refine wpAnyH_take (i := 0) (v := ?v0_18) rfl (by kernel_rfl) (by kernel_rfl) (by kernel_rfl) (fun _ _ _ h => h) (Or.inl ⟨by rfl, ?h0_18⟩) hHeld ?r0_18
                  case h0_18 => intro w' hSw; go_simp; (try with_reducible rfl)
                  (try simp only [Act.put, List.setIfInBounds_toArray, List.set_cons_zero, List.set_cons_succ])
                  refine wpAnyH_take (i := 1) (v := ?v1_18) rfl (by kernel_rfl) (by kernel_rfl) (by kernel_rfl) (fun _ _ _ h => h) (Or.inl ⟨by rfl, ?h1_18⟩) hHeld ?r1_18
                  case h1_18 => intro w' hSw; obtain ⟨_, hSw2⟩ := hSw; go_simp; (try with_reducible rfl)
                  (try simp only [Act.put, List.setIfInBounds_toArray, List.set_cons_zero, List.set_cons_succ])
                  refine wpAnyH_take (i := 2) (v := ?v2_18) rfl (by kernel_rfl) (by kernel_rfl) (by kernel_rfl) (fun _ _ _ h => h) (Or.inl ⟨by rfl, ?h2_18⟩) hHeld ?r2_18
                  case h2_18 => intro w' hSw; go_simp; (try with_reducible rfl)
                  (try simp only [Act.put, List.setIfInBounds_toArray, List.set_cons_zero, List.set_cons_succ])
                  refine wpAnyH_take (i := 3) (v := ?v3_18) rfl (by kernel_rfl) (by kernel_rfl) (by kernel_rfl) (fun _ _ _ h => h) (Or.inl ⟨by rfl, ?h3_18⟩) hHeld ?r3_18
                  case h3_18 => intro w' hSw; go_simp; (try with_reducible rfl)
                  (try simp only [Act.put, List.setIfInBounds_toArray, List.set_cons_zero, List.set_cons_succ])
                  refine wpAnyH_take (i := 4) (v := .agg LS.toArray) rfl (by kernel_rfl) (by kernel_rfl) (by kernel_rfl) (fun _ _ _ h => h) (yieldsIf_load_mid (by rfl) 34 (.tmp 1) rfl w.heap.size 0 rfl LS _ (fun w' h => h.1) Tryd.underlying34 rfl HIK.out) hHeld ?_
                  (try simp only [Act.put, List.setIfInBounds_toArray, List.set_cons_zero, List.set_cons_succ])
                  refine wpAnyH_ready (rs := [5]) (by kernel_rfl) (by simp) ?_
                  refine AllReadyH.cons rfl (fun K hK => ?_) AllReadyH.nil
                  go_simp
                  (try rw [hcs])
                  refine (HLE.out _).mono ?_
                  rintro e y5 ⟨lv, rfl, hlv, hb1⟩
                  have hbd : Below y3.heap.size y3 y3.drew := ⟨rfl, rfl, rfl, Nat.le_refl _, fun _ _ => rfl⟩
                  have HFX := hide (HFX.out.next (hbd.trans hb1))
                  have ed5 := (HK.out _ HFX.out.row).dat
                  refine hK.out _ _ ⟨HAL.out _ HFX.out.row, ed5⟩ (fun hHeld => ?_)
                  clear hK K
                  (try simp only [Act.put, List.setIfInBounds_toArray, List.set_cons_zero, List.set_cons_succ])
                  refine wpAnyH_ready (rs := [6]) (by kernel_rfl) (by simp) ?_
                  refine AllReadyH.cons rfl (fun K hK => ?_) AllReadyH.nil
                  go_simp
                  refine (HID.out _ _ hlv).mono ?_
                  rintro e y6 ⟨rfl, hb1⟩
                  have HFX := hide (HFX.out.next hb1)
                  have ed6 := (HK.out _ HFX.out.row).dat
                  refine hK.out _ _ ⟨HAL.out _ HFX.out.row, ed6⟩ (fun hHeld => ?_)
                  clear hK K
                  (try simp only [Act.put, List.setIfInBounds_toArray, List.set_cons_zero, List.set_cons_succ])
                  refine wpAnyH_take (i := 7) (v := ?v7_18) rfl (by kernel_rfl) (by kernel_rfl) (by kernel_rfl) (fun _ _ _ h => h) (Or.inl ⟨by rfl, ?h7_18⟩) hHeld ?r7_18
                  case h7_18 => intro w' hSw; go_simp; (try with_reducible rfl)
                  (try simp only [Act.put, List.setIfInBounds_toArray, List.set_cons_zero, List.set_cons_succ])
                  refine wpAnyH_done (by kernel_rfl) ?_ _
                  go_wp2
                  rename_i hd2
                  cases (show some 2 = _ from hd2)
                  go_ret
                  exact ⟨by rw [HE.out]; refine Eq.trans ?_ (congrArg (fun b => Ending.returned (Value.bool b)) (show mt = _ by simp [ne1, HDL.out])); rfl, HFX.out.fin⟩
                | false =>
                  go_wp2_with fail
                  refine (HH64.out _ HFX.out.ct).mono ?_
                  rintro e' y2 ⟨rfl, hb1⟩
                  have HFX := hide (HFX.out.next hb1); have ed := (HK.out _ HFX.out.row).dat; obtain ⟨_, _, _, _, _, e5, _⟩ := (HK.out _ HFX.out.row).cells; rw [he1] at e5; have HRN := hide (HK.out _ HFX.out.row).rng; clear hb1
                  clear HH64 j0 j1 j2 j3
                  go_wp2_with (first
                    | (refine wpList_load_midW (by kernel_rfl) 31 (.tmp 70) rfl w.heap.size 10 (by first | rfl | simp [Act.eval, Act.put]) (u8L p.s) _ HRN.out Tryd.underlying31 rfl HIS.out ?_)
                    | (go_at_call 43; refine (HZE.out _).mono ?_; rintro e' y4 ⟨rfl, hb1⟩; have HFX := hide (HFX.out.next hb1); have ed := (HK.out _ HFX.out.row).dat; obtain ⟨_, _, _, _, _, e5, _⟩ := (HK.out _ HFX.out.row).cells; rw [he1] at e5; have HRN := hide (HK.out _ HFX.out.row).rng; clear hb1)
                    | fail)
                  refine (HH128.out _ HFX.out.ct).mono ?_
                  rintro e' y3 ⟨rfl, hb1⟩
                  have HFX := hide (HFX.out.next hb1); have ed := (HK.out _ HFX.out.row).dat; obtain ⟨_, _, _, _, _, e5, _⟩ := (HK.out _ HFX.out.row).cells; rw [he1] at e5; have HRN := hide (HK.out _ HFX.out.row).rng; clear hb1
                  clear HH128
                  go_wp2_with fail
                  go_ret
                  exact ⟨by rw [HE.out]; first | rfl | simp [ne1, HDL.out], HFX.out.fin⟩
              | false =>
                go_wp2_with fail
                refine (HH64.out _ HFX.out.ct).mono ?_
                rintro e' y2 ⟨rfl, hb1⟩
                have HFX := hide (HFX.out.next hb1); have ed := (HK.out _ HFX.out.row).dat; obtain ⟨_, _, _, _, _, e5, _⟩ := (HK.out _ HFX.out.row).cells; rw [he1] at e5; have HRN := hide (HK.out _ HFX.out.row).rng; clear hb1
                clear HH64 j0 j1 j2 j3
                go_wp2_with (first
                  | (refine wpList_load_midW (by kernel_rfl) 31 (.tmp 70) rfl w.heap.size 10 (by first | rfl | simp [Act.eval, Act.put]) (u8L p.s) _ HRN.out Tryd.underlying31 rfl HIS.out ?_)
                  | (go_at_call 43; refine (HZE.out _).mono ?_; rintro e' y4 ⟨rfl, hb1⟩; have HFX := hide (HFX.out.next hb1); have ed := (HK.out _ HFX.out.row).dat; obtain ⟨_, _, _, _, _, e5, _⟩ := (HK.out _ HFX.out.row).cells; rw [he1] at e5; have HRN := hide (HK.out _ HFX.out.row).rng; clear hb1)
                  | fail)
                go_ret
                exact ⟨by rw [HE.out]; simp [ne1], HFX.out.fin⟩
            · have be1 : ((p.e : Int) == 1) = false := by simp only [beq_eq_false_iff_ne]; omega
              have ne1 : (p.e == 1) = false := by simpa using he1
              cases h128 with
              | true =>
                go_wp2_with fail
                refine (HH64.out _ HFX.out.ct).mono ?_
                rintro e' y2 ⟨rfl, hb1⟩
                have HFX := hide (HFX.out.next hb1); have ed := (HK.out _ HFX.out.row).dat; obtain ⟨_, _, _, _, _, e5, _⟩ := (HK.out _ HFX.out.row).cells; have HRN := hide (HK.out _ HFX.out.row).rng; clear hb1
                clear HH64 j0 j1 j2 j3
                go_wp2_with fail
                refine (HH128.out _ HFX.out.ct).mono ?_
                rintro e' y3 ⟨rfl, hb1⟩
                have HFX := hide (HFX.out.next hb1); have ed := (HK.out _ HFX.out.row).dat; obtain ⟨_, _, _, _, _, e5, _⟩ := (HK.out _ HFX.out.row).cells; have HRN := hide (HK.out _ HFX.out.row).rng; clear hb1
                clear HH128
                go_wp2_with fail
                refine wp_region_held_drew (S := fun y => y.rangeAt w.heap.size 0 LS ∧ y.cell? ⟨w.heap.size, 42, none⟩ = some (.slice da p.dl.length dc)) (by kernel_rfl) ⟨HAL.out _ HFX.out.row, ed⟩ (fun hHeld => ?_)
                refine wpAnyH_take (i := 0) (v := ?v0_21) rfl (by kernel_rfl) (by kernel_rfl) (by kernel_rfl) (fun _ _ _ h => h) (Or.inl ⟨by rfl, ?h0_21⟩) hHeld ?r0_21
                case h0_21 => intro w' hSw; go_simp; (try with_reducible rfl)
                (try simp only [Act.put, List.setIfInBounds_toArray, List.set_cons_zero, List.set_cons_succ])
                refine wpAnyH_take (i := 1) (v := ?v1_21) rfl (by kernel_rfl) (by kernel_rfl) (by kernel_rfl) (fun _ _ _ h => h) (Or.inl ⟨by rfl, ?h1_21⟩) hHeld ?r1_21
                case h1_21 => intro w' hSw; obtain ⟨_, hSw2⟩ := hSw; go_simp; (try with_reducible rfl)
                (try simp only [Act.put, List.setIfInBounds_toArray, List.set_cons_zero, List.set_cons_succ])
                refine wpAnyH_take (i := 2) (v := ?v2_21) rfl (by kernel_rfl) (by kernel_rfl) (by kernel_rfl) (fun _ _ _ h => h) (Or.inl ⟨by rfl, ?h2_21⟩) hHeld ?r2_21
                case h2_21 => intro w' hSw; go_simp; (try with_reducible rfl)
                (try simp only [Act.put, List.setIfInBounds_toArray, List.set_cons_zero, List.set_cons_succ])
                refine wpAnyH_take (i := 3) (v := ?v3_21) rfl (by kernel_rfl) (by kernel_rfl) (by kernel_rfl) (fun _ _ _ h => h) (Or.inl ⟨by rfl, ?h3_21⟩) hHeld ?r3_21
                case h3_21 => intro w' hSw; go_simp; (try with_reducible rfl)
                (try simp only [Act.put, List.setIfInBounds_toArray, List.set_cons_zero, List.set_cons_succ])
                refine wpAnyH_take (i := 4) (v := .agg LS.toArray) rfl (by kernel_rfl) (by kernel_rfl) (by kernel_rfl) (fun _ _ _ h => h) (yieldsIf_load_mid (by rfl) 34 (.tmp 1) rfl w.heap.size 0 rfl LS _ (fun w' h => h.1) Tryd.underlying34 rfl HIK.out) hHeld ?_
                (try simp only [Act.put, List.setIfInBounds_toArray, List.set_cons_zero, List.set_cons_succ])
                refine wpAnyH_ready (rs := [5]) (by kernel_rfl) (by simp) ?_
                refine AllReadyH.cons rfl (fun K hK => ?_) AllReadyH.nil
                go_simp
                (try rw [hcs])
                refine (HLE.out _).mono ?_
                rintro e y5 ⟨lv, rfl, hlv, hb1⟩
                have hbd : Below y3.heap.size y3 y3.drew := ⟨rfl, rfl, rfl, Nat.le_refl _, fun _ _ => rfl⟩
                have HFX := hide (HFX.out.next (hbd.trans hb1))
                have ed5 := (HK.out _ HFX.out.row).dat
                refine hK.out _ _ ⟨HAL.out _ HFX.out.row, ed5⟩ (fun hHeld => ?_)
                clear hK K
                (try simp only [Act.put, List.setIfInBounds_toArray, List.set_cons_zero, List.set_cons_succ])
                refine wpAnyH_ready (rs := [6]) (by kernel_rfl) (by simp) ?_
                refine AllReadyH.cons rfl (fun K hK => ?_) AllReadyH.nil
                go_simp
                refine (HID.out _ _ hlv).mono ?_
                rintro e y6 ⟨rfl, hb1⟩
                have HFX := hide (HFX.out.next hb1)
                have ed6 := (HK.out _ HFX.out.row).dat
                refine hK.out _ _ ⟨HAL.out _ HFX.out.row, ed6⟩ (fun hHeld => ?_)
                clear hK K
                (try simp only [Act.put, List.setIfInBounds_toArray, List.set_cons_zero, List.set_cons_succ])
                refine wpAnyH_take (i := 7) (v := ?v7_21) rfl (by kernel_rfl) (by kernel_rfl) (by kernel_rfl) (fun _ _ _ h => h) (Or.inl ⟨by rfl, ?h7_21⟩) hHeld ?r7_21
                case h7_21 => intro w' hSw; go_simp; (try with_reducible rfl)
                (try simp only [Act.put, List.setIfInBounds_toArray, List.set_cons_zero, List.set_cons_succ])
                refine wpAnyH_done (by kernel_rfl) ?_ _
                go_wp2
                rename_i hd2
                cases (show some 2 = _ from hd2)
                go_ret
                exact ⟨by rw [HE.out]; refine Eq.trans ?_ (congrArg (fun b => Ending.returned (Value.bool b)) (show mt = _ by simp [ne1, HDL.out])); rfl, HFX.out.fin⟩
              | false =>
                go_wp2_with fail
                refine (HH64.out _ HFX.out.ct).mono ?_
                rintro e' y2 ⟨rfl, hb1⟩
                have HFX := hide (HFX.out.next hb1); have ed := (HK.out _ HFX.out.row).dat; obtain ⟨_, _, _, _, _, e5, _⟩ := (HK.out _ HFX.out.row).cells; have HRN := hide (HK.out _ HFX.out.row).rng; clear hb1
                clear HH64 j0 j1 j2 j3
                go_wp2_with fail
                refine (HH128.out _ HFX.out.ct).mono ?_
                rintro e' y3 ⟨rfl, hb1⟩
                have HFX := hide (HFX.out.next hb1); have ed := (HK.out _ HFX.out.row).dat; obtain ⟨_, _, _, _, _, e5, _⟩ := (HK.out _ HFX.out.row).cells; have HRN := hide (HK.out _ HFX.out.row).rng; clear hb1
                clear HH128
                go_wp2_with fail
                go_ret
                exact ⟨by rw [HE.out]; first | rfl | simp [ne1, HDL.out], HFX.out.fin⟩
          · have b15 : ((c : Int) == 15) = false := by simp only [beq_eq_false_iff_ne]; omega
            have n15 : (c == 15) = false := by simpa using h15
            cases h128 with
            | true =>
              go_wp2_with fail
              refine (HH64.out _ HFX.out.ct).mono ?_
              rintro e' y2 ⟨rfl, hb1⟩
              have HFX := hide (HFX.out.next hb1); have ed := (HK.out _ HFX.out.row).dat; obtain ⟨_, _, _, _, _, e5, _⟩ := (HK.out _ HFX.out.row).cells; have HRN := hide (HK.out _ HFX.out.row).rng; clear hb1
              clear HH64 j0 j1 j2 j3
              go_wp2_with fail
              refine (HH128.out _ HFX.out.ct).mono ?_
              rintro e' y3 ⟨rfl, hb1⟩
              have HFX := hide (HFX.out.next hb1); have ed := (HK.out _ HFX.out.row).dat; obtain ⟨_, _, _, _, _, e5, _⟩ := (HK.out _ HFX.out.row).cells; have HRN := hide (HK.out _ HFX.out.row).rng; clear hb1
              clear HH128
              go_wp2_with fail
              refine wp_region_held_drew (S := fun y => y.rangeAt w.heap.size 0 LS ∧ y.cell? ⟨w.heap.size, 42, none⟩ = some (.slice da p.dl.length dc)) (by kernel_rfl) ⟨HAL.out _ HFX.out.row, ed⟩ (fun hHeld => ?_)
              refine wpAnyH_take (i := 0) (v := ?v0_23) rfl (by kernel_rfl) (by kernel_rfl) (by kernel_rfl) (fun _ _ _ h => h) (Or.inl ⟨by rfl, ?h0_23⟩) hHeld ?r0_23
              case h0_23 => intro w' hSw; go_simp; (try with_reducible rfl)
              (try simp only [Act.put, List.setIfInBounds_toArray, List.set_cons_zero, List.set_cons_succ])
              refine wpAnyH_take (i := 1) (v := ?v1_23) rfl (by kernel_rfl) (by kernel_rfl) (by kernel_rfl) (fun _ _ _ h => h) (Or.inl ⟨by rfl, ?h1_23⟩) hHeld ?r1_23
              case h1_23 => intro w' hSw; obtain ⟨_, hSw2⟩ := hSw; go_simp; (try with_reducible rfl)
              (try simp only [Act.put, List.setIfInBounds_toArray, List.set_cons_zero, List.set_cons_succ])
              refine wpAnyH_take (i := 2) (v := ?v2_23) rfl (by kernel_rfl) (by kernel_rfl) (by kernel_rfl) (fun _ _ _ h => h) (Or.inl ⟨by rfl, ?h2_23⟩) hHeld ?r2_23
              case h2_23 => intro w' hSw; go_simp; (try with_reducible rfl)
              (try simp only [Act.put, List.setIfInBounds_toArray, List.set_cons_zero, List.set_cons_succ])
              refine wpAnyH_take (i := 3) (v := ?v3_23) rfl (by kernel_rfl) (by kernel_rfl) (by kernel_rfl) (fun _ _ _ h => h) (Or.inl ⟨by rfl, ?h3_23⟩) hHeld ?r3_23
              case h3_23 => intro w' hSw; go_simp; (try with_reducible rfl)
              (try simp only [Act.put, List.setIfInBounds_toArray, List.set_cons_zero, List.set_cons_succ])
              refine wpAnyH_take (i := 4) (v := .agg LS.toArray) rfl (by kernel_rfl) (by kernel_rfl) (by kernel_rfl) (fun _ _ _ h => h) (yieldsIf_load_mid (by rfl) 34 (.tmp 1) rfl w.heap.size 0 rfl LS _ (fun w' h => h.1) Tryd.underlying34 rfl HIK.out) hHeld ?_
              (try simp only [Act.put, List.setIfInBounds_toArray, List.set_cons_zero, List.set_cons_succ])
              refine wpAnyH_ready (rs := [5]) (by kernel_rfl) (by simp) ?_
              refine AllReadyH.cons rfl (fun K hK => ?_) AllReadyH.nil
              go_simp
              (try rw [hcs])
              refine (HLE.out _).mono ?_
              rintro e y5 ⟨lv, rfl, hlv, hb1⟩
              have hbd : Below y3.heap.size y3 y3.drew := ⟨rfl, rfl, rfl, Nat.le_refl _, fun _ _ => rfl⟩
              have HFX := hide (HFX.out.next (hbd.trans hb1))
              have ed5 := (HK.out _ HFX.out.row).dat
              refine hK.out _ _ ⟨HAL.out _ HFX.out.row, ed5⟩ (fun hHeld => ?_)
              clear hK K
              (try simp only [Act.put, List.setIfInBounds_toArray, List.set_cons_zero, List.set_cons_succ])
              refine wpAnyH_ready (rs := [6]) (by kernel_rfl) (by simp) ?_
              refine AllReadyH.cons rfl (fun K hK => ?_) AllReadyH.nil
              go_simp
              refine (HID.out _ _ hlv).mono ?_
              rintro e y6 ⟨rfl, hb1⟩
              have HFX := hide (HFX.out.next hb1)
              have ed6 := (HK.out _ HFX.out.row).dat
              refine hK.out _ _ ⟨HAL.out _ HFX.out.row, ed6⟩ (fun hHeld => ?_)
              clear hK K
              (try simp only [Act.put, List.setIfInBounds_toArray, List.set_cons_zero, List.set_cons_succ])
              refine wpAnyH_take (i := 7) (v := ?v7_23) rfl (by kernel_rfl) (by kernel_rfl) (by kernel_rfl) (fun _ _ _ h => h) (Or.inl ⟨by rfl, ?h7_23⟩) hHeld ?r7_23
              case h7_23 => intro w' hSw; go_simp; (try with_reducible rfl)
              (try simp only [Act.put, List.setIfInBounds_toArray, List.set_cons_zero, List.set_cons_succ])
              refine wpAnyH_done (by kernel_rfl) ?_ _
              go_wp2
              rename_i hd2
              cases (show some 2 = _ from hd2)
              go_ret
              exact ⟨by rw [HE.out]; refine Eq.trans ?_ (congrArg (fun b => Ending.returned (Value.bool b)) (show mt = _ by simp [n15, HDL.out])); rfl, HFX.out.fin⟩
            | false =>
              go_wp2_with fail
              refine (HH64.out _ HFX.out.ct).mono ?_
              rintro e' y2 ⟨rfl, hb1⟩
              have HFX := hide (HFX.out.next hb1); have ed := (HK.out _ HFX.out.row).dat; obtain ⟨_, _, _, _, _, e5, _⟩ := (HK.out _ HFX.out.row).cells; have HRN := hide (HK.out _ HFX.out.row).rng; clear hb1
              clear HH64 j0 j1 j2 j3
              go_wp2_with fail
              refine (HH128.out _ HFX.out.ct).mono ?_
              rintro e' y3 ⟨rfl, hb1⟩
              have HFX := hide (HFX.out.next hb1); have ed := (HK.out _ HFX.out.row).dat; obtain ⟨_, _, _, _, _, e5, _⟩ := (HK.out _ HFX.out.row).cells; have HRN := hide (HK.out _ HFX.out.row).rng; clear hb1
              clear HH128
              go_wp2_with fail
              go_ret
              exact ⟨by rw [HE.out]; first | rfl | simp [n15, HDL.out], HFX.out.fin⟩
end Go.Proofs.YtacjibfmhhmbcaaDoor
namespace Go.Proofs.YtacjibfmhhmbcaaDoor
set_option linter.unusedVariables false
set_option linter.unusedSimpArgs false
set_option maxRecDepth 20000

theorem all_zero_meets (s : List Nat) : (s.all fun x => meets [(0, 0)] x x) = s.all (· == 0) := by
  congr 1; funext x; simp [meets]; rw [Bool.eq_iff_iff]; simp
theorem all_bytes {s : List Nat} (h : ∀ x ∈ s, x < 256) : (s.all fun x => meets [(0, 255)] x x) = true := by
  rw [List.all_eq_true]; intro x hx; have := h x hx; simp [meets]; omega
set_option maxHeartbeats 4000000 in
/-- the document's table and the program's say the same -/
theorem rfit_fitAll (c : Nat) (p : PV) (hp : p.Ok) (h1 : 1 ≤ c) (h2 : c ≤ 25) : rfit c p = fitAll p (fdL c) := by
  have ha := hp.a
  have hb := hp.b
  have hc := hp.c
  have hd := hp.d
  have he := hp.e
  have hs : ∀ (x : Nat), x ∈ p.s → x ≤ 255 := fun x hx => by have := hp.s x hx; omega
  rcases (show c = 1 ∨ c = 2 ∨ c = 3 ∨ c = 4 ∨ c = 5 ∨ c = 6 ∨ c = 7 ∨ c = 8 ∨ c = 9 ∨ c = 10 ∨ c = 11 ∨ c = 12 ∨ c = 13 ∨ c = 14 ∨ c = 15 ∨ c = 16 ∨ c = 17 ∨ c = 18 ∨ c = 19 ∨ c = 20 ∨ c = 21 ∨ c = 22 ∨ c = 23 ∨ c = 24 ∨ c = 25 by omega) with rfl | rfl | rfl | rfl | rfl | rfl | rfl | rfl | rfl | rfl | rfl | rfl | rfl | rfl | rfl | rfl | rfl | rfl | rfl | rfl | rfl | rfl | rfl | rfl | rfl
  all_goals
    rw [Bool.eq_iff_iff]
    by_cases he0 : p.e = 0 <;>
    simp [rfit, fitAll, fdL, okN, hasB, car, carL, nmsL, cntL, flgL, lenL, fitF, blankF, PV.get, five, bnd, bndL, mayL, smayL, dmayL, meets, PV.set, PV.empty, List.range, List.range.loop, he0]
  all_goals
    first
    | done
    | (try rw [iff_true_intro hs]
       generalize (∀ (x : Nat), x ∈ p.s → x = 0) = Z at *
       have hn : p.dl = [] ↔ p.dl.length = 0 := by cases p.dl <;> simp
       (try rw [hn])
       clear hn
       generalize p.dl.length = n at *
       by_cases hZ : Z <;> simp only [hZ, true_and, and_true, false_and, and_false, or_true, or_false, iff_self] <;> (try split) <;> first | omega | (rw [iff_false]; omega))
end Go.Proofs.YtacjibfmhhmbcaaDoor
namespace Go.Proofs.YtacjibfmhhmbcaaDoor
open Go.RowKit
set_option linter.unusedVariables false
set_option linter.unusedSimpArgs false
set_option maxRecDepth 20000

/-- the document's bytes: the first k numbers -/
def rnums (c : Nat) (p : PV) (k : Nat) : List Nat := (List.range k).flatMap fun i => if hasB c (2 ^ i) then be (p.get i) 4 else []
theorem rnums_succ (c : Nat) (p : PV) (k : Nat) : rnums c p (k + 1) = rnums c p k ++ (if hasB c (2 ^ k) then be (p.get k) 4 else []) := by
  unfold rnums
  rw [List.range_succ, List.flatMap_append]
  simp
theorem rnums_len (c : Nat) (p : PV) (k : Nat) : (rnums c p k).length ≤ 4 * k := by
  induction k with
  | zero => simp [rnums]
  | succ k ih =>
    rw [rnums_succ, List.length_append]
    split
    · rw [be_len]; omega
    · simp; omega
def rgens (c : Nat) (p : PV) : List Nat := if hasB c 32 then be p.g0 8 ++ be p.g1 8 ++ be p.g2 8 ++ be p.g3 8 else []
def rsum (c : Nat) (p : PV) : List Nat := if hasB c 64 then p.s else []
def rdat (c : Nat) (p : PV) : List Nat := if hasB c 128 then be p.dl.length 2 ++ p.dl else []
theorem renc_encAll (c : Nat) (p : PV) (h1 : 1 ≤ c) (h2 : c ≤ 25) : rnums c p 5 ++ rgens c p ++ rsum c p ++ rdat c p = encAll p (fdL c) := by
  rcases (show c = 1 ∨ c = 2 ∨ c = 3 ∨ c = 4 ∨ c = 5 ∨ c = 6 ∨ c = 7 ∨ c = 8 ∨ c = 9 ∨ c = 10 ∨ c = 11 ∨ c = 12 ∨ c = 13 ∨ c = 14 ∨ c = 15 ∨ c = 16 ∨ c = 17 ∨ c = 18 ∨ c = 19 ∨ c = 20 ∨ c = 21 ∨ c = 22 ∨ c = 23 ∨ c = 24 ∨ c = 25 by omega) with rfl | rfl | rfl | rfl | rfl | rfl | rfl | rfl | rfl | rfl | rfl | rfl | rfl | rfl | rfl | rfl | rfl | rfl | rfl | rfl | rfl | rfl | rfl | rfl | rfl
  all_goals simp [rnums, rgens, rsum, rdat, encAll, fdL, hasB, car, carL, encF, PV.get, five, bnd, bndL, List.range, List.range.loop]
end Go.Proofs.YtacjibfmhhmbcaaDoor
namespace Go.Proofs.YtacjibfmhhmbcaaDoor
open Go.RowKit
set_option linter.unusedVariables false
set_option linter.unusedSimpArgs false
set_option maxRecDepth 20000

/-- while the document writes a packet: base, where its list of bytes begins; yb, the world at that time -/
structure EB (w yb : World) (base : Nat) (CS : Array Value) (dv : Value) (dl : List Nat) : Prop where
  low : w.heap.size < base
  hi : base ≤ yb.heap.size
  fin : Below w.heap.size w yb
  row : yb.heap[w.heap.size]? = some (.cells CS 34 (0, 0))
  ct : CTab w
  ft : FTab w
  dat : BSl w dv dl
structure EY (yb : World) (base : Nat) (y : World) (v : Value) (l : List Nat) : Prop where
  bel : Below base yb y
  sz : base ≤ y.heap.size
  own : Own y base v l
theorem EB.fy {w yb y : World} {base : Nat} {CS : Array Value} {dv : Value} {dl : List Nat} (h : EB w yb base CS dv dl) (hb : Below base yb y) : Below w.heap.size w y := h.fin.trans (hb.mono (Nat.le_of_lt h.low))
theorem EB.ry {w yb y : World} {base : Nat} {CS : Array Value} {dv : Value} {dl : List Nat} (h : EB w yb base CS dv dl) (hb : Below base yb y) : y.heap[w.heap.size]? = some (.cells CS 34 (0, 0)) := (hb.block _ h.low).trans h.row
theorem EY.next {yb : World} {base : Nat} {y z : World} {v : Value} {l : List Nat} (h : EY yb base y v l) (hb : Below y.heap.size y z) : EY yb base z v l :=
  ⟨h.bel.trans (hb.mono h.sz), Nat.le_trans h.sz hb.size, h.own.kept hb⟩
theorem EY.put {yb : World} {base : Nat} {y z : World} {v v' : Value} {l l' : List Nat} (h : EY yb base y v l) (hb : Below base y z) (hs : base ≤ z.heap.size) (ho : Own z base v' l') : EY yb base z v' l' :=
  ⟨h.bel.trans hb, hs, ho⟩

set_option maxHeartbeats 4000000 in
theorem rencP_yes (w : World) (c : Nat) (p : PV) (da : Option Addr) (dc : Nat) (hp : p.Ok) (hd : BSl w (.slice da p.dl.length dc) p.dl) (hl : p.dl.length ≤ 140737488351232) (hC : CTab w) (hF : FTab w) (h1 : 1 ≤ c) (h2 : c ≤ 25)
    (hfit : ∀ y, CTab y → FTab y → Calls Tryd.prog 27 #[pkV c p (.slice da p.dl.length dc)] y fun e w' => e = .returned (.bool (rfit c p)) ∧ Below y.heap.size y w') :
    Calls Tryd.prog 13 #[pkV c p (.slice da p.dl.length dc)] w fun e w' => ∃ v', e = .returned (.tuple #[v', .int .i64 ((if rfit c p then 0 else 75 : Nat) : Int)]) ∧ Own w' w.heap.size v' (if rfit c p then c :: (rnums c p 5 ++ rgens c p ++ rsum c p ++ rdat c p) else []) ∧ Below w.heap.size w w' := by
  have PC0 := hide (pc_of c hp.n (.slice da p.dl.length dc) rfl)
  have b0 := (Below.refl w.heap.size w).alloc (Nat.le_refl _) (.cells (.int .i64 c :: p.row (.slice da p.dl.length dc)).toArray 34)
  have R0 := Go.heap_alloc_new w (.cells (.int .i64 c :: p.row (.slice da p.dl.length dc)).toArray 34)
  have HK : Hid (∀ y : World, y.heap[w.heap.size]? = some (.cells (.int .i64 c :: p.row (.slice da p.dl.length dc)).toArray 34 (0, 0)) → KM y w.heap.size c p (.slice da p.dl.length dc)) := hide fun y hy => ⟨hy, hp⟩
  have e0 := (HK.out _ R0).cells.1
  have HFT := hide (hfit _ (hC.below b0) (hF.below b0))
  have HFI := hide fun y i (hi : i < 5) => field_any y i c p (.slice da p.dl.length dc) hp hi
  have HHA := hide fun y f (hT : CTab y) a b => has_any y c f hT h2 a b
  have HG := hide hp.get
  have HB0 := hide b0
  have HR0 := hide R0
  have HCT := hide hC
  have HFTT := hide hF
  have HDT := hide hd
  unfold pkV at *
  have HIK : Hid ((Tryd.prog.info? 34).map (·.size) = some (.int .i64 (c : Int) :: p.row (.slice da p.dl.length dc)).length) := hide (by rw [List.length_cons, row_len hp.n]; exact infoK)
  have HAL := hide fun y h => (HK.out y h).all
  generalize hls : (.int .i64 (c : Int) :: p.row (.slice da p.dl.length dc)) = LS at *
  generalize hcs : LS.toArray = CS at *
  clear b0 R0 hC hF hfit hd
  generalize hx1 : w.alloc (.cells CS 34) = x1 at *
  have HX1 : Hid (x1.heap.size = w.heap.size + 1) := hide (by rw [← hx1]; simp)
  have i1 : ¬ ((c : Int) < 1) := by omega
  have i2 : ¬ (25 < (c : Int)) := by omega
  cases hr : rfit c p with
  | false =>
    rw [hr] at HFT
    go_enter Tryd.func13, Tryd.ntmps13
    go_wp2_with (first
      | (refine wpList_load_row rfl 34 (.tmp 1) rfl w.heap.size (by first | rfl | simp [Act.eval, Act.put]) 34 CS (0, 0) _ (by first | exact HR0.out | (rw [hx1]; exact HR0.out)) Tryd.underlying34 rfl PC0.out.i ?_)
      | (go_at_call 27; refine HFT.out.mono ?_; rintro e' y1 ⟨rfl, hb1⟩; have HB1 := hide (HB0.out.trans (hb1.mono HB0.out.size)); clear hb1)
      | fail)
    go_ret2
    exact ⟨_, rfl, own_nil _ _, HB1.out⟩
  | true =>
    rw [hr] at HFT
    go_enter Tryd.func13, Tryd.ntmps13
    go_wp2_with (first
      | (refine wpList_load_row rfl 34 (.tmp 1) rfl w.heap.size (by first | rfl | simp [Act.eval, Act.put]) 34 CS (0, 0) _ (by first | exact HR0.out | (rw [hx1]; exact HR0.out)) Tryd.underlying34 rfl PC0.out.i ?_)
      | (go_at_call 27; refine HFT.out.mono ?_; rintro e' y1 ⟨rfl, hb1⟩; have HB1 := hide (HB0.out.trans (hb1.mono HB0.out.size)); have HS1 := hide hb1.size; have HR1 := hide ((hb1.block _ (Array.getElem?_eq_some_iff.1 HR0.out).1).trans HR0.out); have e1 := (HK.out _ HR1.out).cells.1; clear hb1)
      | fail)
    have HEB : Hid (EB w (y1.alloc (.cells #[.int .u8 (c : Int)] 5)) y1.heap.size CS (.slice da p.dl.length dc) p.dl) := hide ⟨by have := HS1.out; rw [HX1.out] at this; omega, by simp, HB1.out.trans (((Below.refl y1.heap.size y1).alloc (Nat.le_refl _) _).mono HB1.out.size), (((Below.refl y1.heap.size y1).alloc (Nat.le_refl _) _).block _ (Array.getElem?_eq_some_iff.1 HR1.out).1).trans HR1.out, HCT.out, HFTT.out, HDT.out⟩
    have HEY0 : Hid (EY (y1.alloc (.cells #[.int .u8 (c : Int)] 5)) y1.heap.size (y1.alloc (.cells #[.int .u8 (c : Int)] 5)) (.slice (some ⟨y1.heap.size, 0, none⟩) 1 1) (c :: rnums c p 0)) := hide ⟨Below.refl _ _, by simp, Own.lone c (by omega)⟩
    generalize hyb : y1.alloc (.cells #[.int .u8 (c : Int)] 5) = yb at *
    generalize hbase : y1.heap.size = base at *
    clear HCT HFTT HDT HB0 HR0 HB1 HR1 HS1
    go_loopw [4, 5] (fun v i wr => ∃ k : Nat, k ≤ 5 ∧ i = .int .i64 k ∧ Hid (EY yb base wr v (c :: rnums c p k))) (fun _ i _ => 5 - (intOf i).toNat)
    case atStart => exact ⟨0, Nat.zero_le _, rfl, HEY0⟩
    case round =>
      obtain ⟨k, hk, rfl, HEY⟩ := hrel
      have HBW := hide (HEB.out.fy HEY.out.bel)
      have HRW := hide (HEB.out.ry HEY.out.bel)
      have HCW := hide (HEB.out.ct.below HBW.out)
      have HFW := hide (HEB.out.ft.below HBW.out)
      have e2 := (HK.out _ HRW.out).cells.1
      by_cases hlt : k < 5
      · have t0 := HFW.out k hlt
        have hf1 : 1 ≤ 2 ^ k ∧ 2 ^ k ≤ 128 := by
          rcases (show k = 0 ∨ k = 1 ∨ k = 2 ∨ k = 3 ∨ k = 4 by omega) with rfl | rfl | rfl | rfl | rfl <;> decide
        have HH := hide fun n => HHA.out (wr.drewN n) (2 ^ k) HCW.out hf1.1 hf1.2
        have HF := hide fun y => HFI.out y k hlt
        have ik : (k : Int) < 5 := by omega
        have HNX := hide (rnums_succ c p k)
        have HLN := hide (rnums_len c p k)
        have hgk := HG.out k
        have HFV0 := hide fun (y : World) (hy : Below w.heap.size w y) => (HEB.out.ft.below hy) k hlt
        generalize p.get k = x at *
        generalize hasB c (2 ^ k) = hb at *
        generalize 2 ^ k = f at *
        clear hf1 HHA HFI
        cases hb with
        | false =>
          simp only [Bool.false_eq_true, if_false, List.append_nil] at HNX
          go_wp2_with fail
          go_region_held3 (fun y => y.cell? ⟨w.heap.size, 0, none⟩ = some (.int .i64 (c : Int)) ∧ y.cell? ⟨2, k, none⟩ = some (.int .i64 (f : Int))) (first | exact ⟨e2, t0⟩ | exact HSY.out)
            ((go_at_call 28; refine (HH.out _).mono ?_; rintro e' z ⟨rfl, hb1⟩; have HBZ := hide ((bel_drewN (Below.refl wr.heap.size wr) _).trans hb1); have HEY := hide (HEY.out.next HBZ.out); have HSY : Hid (z.cell? ⟨w.heap.size, 0, none⟩ = some (.int .i64 (c : Int)) ∧ z.cell? ⟨2, k, none⟩ = some (.int .i64 (f : Int))) := hide ⟨(HBZ.out.cell (p := ⟨w.heap.size, 0, none⟩) (World.block_lt_of_cell? wr _ e2)).trans e2, (HBZ.out.cell (p := ⟨2, k, none⟩) (World.block_lt_of_cell? wr _ t0)).trans t0⟩; clear hb1))
          all_goals
            go_wp2_with fail
            go_roundw
            case rel => exact ⟨k + 1, by omega, by go_num, by rw [HNX.out]; exact HEY⟩
            case measure => simp [intOf]; omega
        | true =>
          simp only [if_true] at HNX
          have hwx : IntKind.u64.wrap (x : Int) = (x : Int) := wrap_u64 (by omega)
          have HFV : Hid (∀ y, Below w.heap.size w y → y.cell? ⟨2, k, none⟩ = some (.int .i64 (f : Int))) := HFV0
          go_wp2_with fail
          go_region_held3 (fun y => y.cell? ⟨w.heap.size, 0, none⟩ = some (.int .i64 (c : Int)) ∧ y.cell? ⟨2, k, none⟩ = some (.int .i64 (f : Int))) (first | exact ⟨e2, t0⟩ | exact HSY.out)
            ((go_at_call 28; refine (HH.out _).mono ?_; rintro e' z ⟨rfl, hb1⟩; have HBZ := hide ((bel_drewN (Below.refl wr.heap.size wr) _).trans hb1); have HEY := hide (HEY.out.next HBZ.out); have HSY : Hid (z.cell? ⟨w.heap.size, 0, none⟩ = some (.int .i64 (c : Int)) ∧ z.cell? ⟨2, k, none⟩ = some (.int .i64 (f : Int))) := hide ⟨(HBZ.out.cell (p := ⟨w.heap.size, 0, none⟩) (World.block_lt_of_cell? wr _ e2)).trans e2, (HBZ.out.cell (p := ⟨2, k, none⟩) (World.block_lt_of_cell? wr _ t0)).trans t0⟩; clear hb1))
          go_wp2_with fail
          have HSV : Hid (∀ y, Below base yb y → y.rangeAt w.heap.size 0 LS ∧ y.cell? ⟨2, k, none⟩ = some (.int .i64 (f : Int))) := hide fun y hy => ⟨HAL.out y (HEB.out.ry hy), by have h3 := HFV.out y (HEB.out.fy hy); exact h3⟩
          refine wp_region_held_drew (S := fun y => y.rangeAt w.heap.size 0 LS ∧ y.cell? ⟨2, k, none⟩ = some (.int .i64 (f : Int))) (by kernel_rfl) (HSV.out z HEY.out.bel) (fun hHeld => ?_)
          refine wpAnyH_take (i := 0) (v := ?v0) rfl (by kernel_rfl) (by kernel_rfl) (by kernel_rfl) (fun _ _ _ h => h) (Or.inl ⟨by rfl, ?h0⟩) hHeld ?r0
          case h0 => intro w' hSw; go_simp; (try with_reducible rfl)
          (try simp only [Act.put, List.setIfInBounds_toArray, List.set_cons_zero, List.set_cons_succ])
          refine wpAnyH_take (i := 1) (v := .agg LS.toArray) rfl (by kernel_rfl) (by kernel_rfl) (by kernel_rfl) (fun _ _ _ h => h) (yieldsIf_load_mid (by rfl) 34 (.tmp 1) rfl w.heap.size 0 rfl LS _ (fun w' h => h.1) Tryd.underlying34 rfl HIK.out) hHeld ?_
          (try simp only [Act.put, List.setIfInBounds_toArray, List.set_cons_zero, List.set_cons_succ])
          refine wpAnyH_take (i := 2) (v := ?v2) rfl (by kernel_rfl) (by kernel_rfl) (by kernel_rfl) (fun _ _ _ h => h) (Or.inl ⟨by rfl, ?h2⟩) hHeld ?r2
          case h2 => intro w' hSw; go_simp; (try with_reducible rfl)
          (try simp only [Act.put, List.setIfInBounds_toArray, List.set_cons_zero, List.set_cons_succ])
          refine wpAnyH_take (i := 3) (v := ?v3) rfl (by kernel_rfl) (by kernel_rfl) (by kernel_rfl) (fun _ _ _ h => h) (Or.inl ⟨by rfl, ?h3⟩) hHeld ?r3
          case h3 => intro w' hSw; go_simp; (try with_reducible rfl)
          (try simp only [Act.put, List.setIfInBounds_toArray, List.set_cons_zero, List.set_cons_succ])
          refine wpAnyH_take (i := 4) (v := ?v4) rfl (by kernel_rfl) (by kernel_rfl) (by kernel_rfl) (fun _ _ _ h => h) (Or.inl ⟨by rfl, ?h4⟩) hHeld ?r4
          case h4 => intro w' hSw; obtain ⟨_, hSw2⟩ := hSw; go_simp; (try with_reducible rfl)
          (try simp only [Act.put, List.setIfInBounds_toArray, List.set_cons_zero, List.set_cons_succ])
          refine wpAnyH_ready (rs := [5]) (by kernel_rfl) (by simp) ?_
          refine AllReadyH.cons rfl (fun K hK => ?_) AllReadyH.nil
          go_simp
          (try rw [hcs])
          refine (HF.out _).mono ?_
          rintro e y5 ⟨rfl, hb1⟩
          have hbd : Below z.heap.size z z.drew := ⟨rfl, rfl, rfl, Nat.le_refl _, fun _ _ => rfl⟩
          have HEY := hide (HEY.out.next (hbd.trans hb1))
          refine hK.out _ _ (HSV.out _ HEY.out.bel) (fun hHeld => ?_)
          clear hK K
          (try simp only [Act.put, List.setIfInBounds_toArray, List.set_cons_zero, List.set_cons_succ])
          refine wpAnyH_take (i := 6) (v := .int .u64 (x : Int)) rfl (by kernel_rfl) (by kernel_rfl) (by kernel_rfl) (fun _ _ _ h => h) (Or.inl ⟨by rfl, ?h6⟩) hHeld ?r6
          case h6 => intro w' hSw; go_simp; (try rw [hwx]); (try with_reducible rfl)
          (try simp only [Act.put, List.setIfInBounds_toArray, List.set_cons_zero, List.set_cons_succ])
          refine wpAnyH_ready (rs := [7]) (by kernel_rfl) (by simp) ?_
          refine AllReadyH.cons rfl (fun K hK => ?_) AllReadyH.nil
          go_simp
          refine (put_any _ base _ _ x 4 (by omega) (by omega) HEY.out.own HEY.out.sz (by have := HLN.out; simp; omega)).mono ?_
          rintro e y6 ⟨v6, rfl, ho6, hb6, hs6⟩
          have HEY := hide (HEY.out.put hb6 hs6 ho6)
          refine hK.out _ _ (HSV.out _ HEY.out.bel) (fun hHeld => ?_)
          clear hK K
          (try simp only [Act.put, List.setIfInBounds_toArray, List.set_cons_zero, List.set_cons_succ])
          refine wpAnyH_take (i := 8) (v := ?v8) rfl (by kernel_rfl) (by kernel_rfl) (by kernel_rfl) (fun _ _ _ h => h) (Or.inl ⟨by rfl, ?h8⟩) hHeld ?r8
          case h8 => intro w' hSw; go_simp; (try with_reducible rfl)
          (try simp only [Act.put, List.setIfInBounds_toArray, List.set_cons_zero, List.set_cons_succ])
          refine wpAnyH_done (by kernel_rfl) ?_ _
          go_wp2
          (try (rename_i hd2; cases (show some 4 = _ from hd2)))
          go_roundw
          case rel => exact ⟨k + 1, by omega, by go_num, by rw [HNX.out]; exact HEY⟩
          case measure => simp [intOf]; omega
      · obtain rfl : k = 5 := by omega
        have HH32 : Hid (∀ y, CTab y → Calls Tryd.prog 28 #[.int .i64 (c : Int), .int .i64 32] y fun e w' => e = .returned (.bool (hasB c 32)) ∧ Below y.heap.size y w') := hide fun y h => HHA.out y 32 h (by omega) (by omega)
        have HH64 : Hid (∀ y, CTab y → Calls Tryd.prog 28 #[.int .i64 (c : Int), .int .i64 64] y fun e w' => e = .returned (.bool (hasB c 64)) ∧ Below y.heap.size y w') := hide fun y h => HHA.out y 64 h (by omega) (by omega)
        have HH128 : Hid (∀ y, CTab y → Calls Tryd.prog 28 #[.int .i64 (c : Int), .int .i64 128] y fun e w' => e = .returned (.bool (hasB c 128)) ∧ Below y.heap.size y w') := hide fun y h => HHA.out y 128 h (by omega) (by omega)
        have HL5 := hide (rnums_len c p 5)
        have HSL := hide hp.n
        have HSB := hide hp.s
        have hwl : IntKind.u64.wrap (p.dl.length : Int) = (p.dl.length : Int) := wrap_u64 (by omega)
        clear HHA HFI
        cases h32 : hasB c 32 with
        | true =>
          rw [h32] at HH32
          go_wp2_with fail
          refine (HH32.out _ (HEB.out.ct.below (HEB.out.fy HEY.out.bel))).mono ?_
          rintro e' zh32 ⟨rfl, hb1⟩
          have HEY := hide (HEY.out.next hb1)
          obtain ⟨d0, _, _, _, _, _, d6, d7, d8, d9⟩ := (HK.out _ (HEB.out.ry HEY.out.bel)).cells
          have dd := (HK.out _ (HEB.out.ry HEY.out.bel)).dat
          clear hb1 HH32
          go_wp2_with fail
          refine (put_any _ base _ _ p.g0 8 (by first | exact hp.g0 | omega) (by omega) HEY.out.own HEY.out.sz (by have := HL5.out; simp [be_len]; omega)).mono ?_
          rintro e' zg0 ⟨vg0, rfl, hor, hbr, hsr⟩
          have HEY := hide (HEY.out.put hbr hsr hor)
          clear hor hbr hsr
          obtain ⟨d0, _, _, _, _, _, d6, d7, d8, d9⟩ := (HK.out _ (HEB.out.ry HEY.out.bel)).cells
          have dd := (HK.out _ (HEB.out.ry HEY.out.bel)).dat
          go_wp2_with fail
          refine (put_any _ base _ _ p.g1 8 (by first | exact hp.g1 | omega) (by omega) HEY.out.own HEY.out.sz (by have := HL5.out; simp [be_len]; omega)).mono ?_
          rintro e' zg1 ⟨vg1, rfl, hor, hbr, hsr⟩
          have HEY := hide (HEY.out.put hbr hsr hor)
          clear hor hbr hsr
          obtain ⟨d0, _, _, _, _, _, d6, d7, d8, d9⟩ := (HK.out _ (HEB.out.ry HEY.out.bel)).cells
          have dd := (HK.out _ (HEB.out.ry HEY.out.bel)).dat
          go_wp2_with fail
          refine (put_any _ base _ _ p.g2 8 (by first | exact hp.g2 | omega) (by omega) HEY.out.own HEY.out.sz (by have := HL5.out; simp [be_len]; omega)).mono ?_
          rintro e' zg2 ⟨vg2, rfl, hor, hbr, hsr⟩
          have HEY := hide (HEY.out.put hbr hsr hor)
          clear hor hbr hsr
          obtain ⟨d0, _, _, _, _, _, d6, d7, d8, d9⟩ := (HK.out _ (HEB.out.ry HEY.out.bel)).cells
          have dd := (HK.out _ (HEB.out.ry HEY.out.bel)).dat
          go_wp2_with fail
          refine (put_any _ base _ _ p.g3 8 (by first | exact hp.g3 | omega) (by omega) HEY.out.own HEY.out.sz (by have := HL5.out; simp [be_len]; omega)).mono ?_
          rintro e' zg3 ⟨vg3, rfl, hor, hbr, hsr⟩
          have HEY := hide (HEY.out.put hbr hsr hor)
          clear hor hbr hsr
          obtain ⟨d0, _, _, _, _, _, d6, d7, d8, d9⟩ := (HK.out _ (HEB.out.ry HEY.out.bel)).cells
          have dd := (HK.out _ (HEB.out.ry HEY.out.bel)).dat
          have HEY : Hid (EY yb base zg3 vg3 (c :: (rnums c p 5 ++ rgens c p))) := hide (by have := HEY.out; simpa [rgens, h32] using this)
          have HLL : Hid ((c :: (rnums c p 5 ++ rgens c p)).length ≤ 60) := hide (by have := HL5.out; simp [rgens, h32, be_len]; omega)
          generalize hLX : c :: (rnums c p 5 ++ rgens c p) = LX at *
          have HLX := hide hLX
          clear hLX
          cases h64 : hasB c 64 with
          | false =>
            rw [h64] at HH64
            go_wp2_with fail
            refine (HH64.out _ (HEB.out.ct.below (HEB.out.fy HEY.out.bel))).mono ?_
            rintro e' zh64 ⟨rfl, hb1⟩
            have HEY := hide (HEY.out.next hb1)
            obtain ⟨d0, _, _, _, _, _, d6, d7, d8, d9⟩ := (HK.out _ (HEB.out.ry HEY.out.bel)).cells
            have dd := (HK.out _ (HEB.out.ry HEY.out.bel)).dat
            clear hb1 HH64
            cases h128 : hasB c 128 with
            | true =>
              rw [h128] at HH128
              go_wp2_with fail
              refine (HH128.out _ (HEB.out.ct.below (HEB.out.fy HEY.out.bel))).mono ?_
              rintro e' zh128 ⟨rfl, hb1⟩
              have HEY := hide (HEY.out.next hb1)
              obtain ⟨d0, _, _, _, _, _, d6, d7, d8, d9⟩ := (HK.out _ (HEB.out.ry HEY.out.bel)).cells
              have dd := (HK.out _ (HEB.out.ry HEY.out.bel)).dat
              clear hb1 HH128
              go_wp2_with fail
              refine (put_any _ base _ _ p.dl.length 2 (by omega) (by omega) HEY.out.own HEY.out.sz (by have := HLL.out; simp [HSL.out]; omega)).mono ?_
              rintro e' zr ⟨vr, rfl, hor, hbr, hsr⟩
              have HEY := hide (HEY.out.put hbr hsr hor)
              clear hor hbr hsr
              obtain ⟨d0, _, _, _, _, _, d6, d7, d8, d9⟩ := (HK.out _ (HEB.out.ry HEY.out.bel)).cells
              have dd := (HK.out _ (HEB.out.ry HEY.out.bel)).dat
              have HBD := hide (HEB.out.dat.below (HEB.out.fy HEY.out.bel))
              go_wp2_with (at_builtin; refine wpList_app rfl (.tmp 86) (.tmp 88) rfl base _ _ _ p.dl rfl rfl HEY.out.own HBD.out (by have := HLL.out; simp [HSL.out, be_len]; omega) HEY.out.sz ?_)
              intro v7 w7 o7 b7 s7 _
              have HEY := hide (HEY.out.put b7 s7 o7)
              clear o7 b7 s7
              go_wp2
              go_ret2
              exact ⟨_, rfl, by have := HEY.out.own.low (Nat.le_of_lt HEB.out.low); rw [← HLX.out] at this; simpa [rsum, rdat, h64, h128] using this, HEB.out.fy HEY.out.bel⟩
            | false =>
              rw [h128] at HH128
              go_wp2_with fail
              refine (HH128.out _ (HEB.out.ct.below (HEB.out.fy HEY.out.bel))).mono ?_
              rintro e' zh128 ⟨rfl, hb1⟩
              have HEY := hide (HEY.out.next hb1)
              obtain ⟨d0, _, _, _, _, _, d6, d7, d8, d9⟩ := (HK.out _ (HEB.out.ry HEY.out.bel)).cells
              have dd := (HK.out _ (HEB.out.ry HEY.out.bel)).dat
              clear hb1 HH128
              go_wp2
              go_ret2
              exact ⟨_, rfl, by have := HEY.out.own.low (Nat.le_of_lt HEB.out.low); rw [← HLX.out] at this; simpa [rsum, rdat, h64, h128] using this, HEB.out.fy HEY.out.bel⟩
          | true =>
            rw [h64] at HH64
            go_wp2_with fail
            refine (HH64.out _ (HEB.out.ct.below (HEB.out.fy HEY.out.bel))).mono ?_
            rintro e' zh64 ⟨rfl, hb1⟩
            have HEY := hide (HEY.out.next hb1)
            obtain ⟨d0, _, _, _, _, _, d6, d7, d8, d9⟩ := (HK.out _ (HEB.out.ry HEY.out.bel)).cells
            have dd := (HK.out _ (HEB.out.ry HEY.out.bel)).dat
            clear hb1 HH64
            go_wp2_with fail
            go_loopw [4, 6] (fun v i wr => ∃ k : Nat, k ≤ 32 ∧ i = .int .i64 k ∧ Hid (EY yb base wr v (LX ++ p.s.take k))) (fun _ i _ => 32 - (intOf i).toNat)
            case atStart => exact ⟨0, Nat.zero_le _, rfl, by simpa using HEY⟩
            case round =>
              obtain ⟨k2, hk2, rfl, HEY⟩ := hrel
              by_cases hlt2 : k2 < 32
              · have HRW := hide (HEB.out.ry HEY.out.bel)
                have g1 : wr.cell? ⟨w.heap.size, 10 + k2, none⟩ = some (.int .u8 ((p.s.getD k2 0 : Nat) : Int)) := (HK.out _ HRW.out).rng k2 _ (u8L_get (by rw [HSL.out]; exact hlt2))
                have HTK : Hid (p.s.take (k2 + 1) = p.s.take k2 ++ [p.s.getD k2 0]) := hide (by
                  have hlt3 : k2 < p.s.length := by rw [HSL.out]; exact hlt2
                  rw [List.take_succ_eq_append_getElem hlt3]; simp [List.getD, hlt3])
                have HBX : Hid (p.s.getD k2 0 < 256) := hide (HSB.out _ (by
                  have hlt3 : k2 < p.s.length := by rw [HSL.out]; exact hlt2
                  simp [List.getD, hlt3]))
                have ik2 : (k2 : Int) < 32 := by omega
                have HW := hide HEY.out.own
                have HLT : Hid ((LX ++ p.s.take k2).length ≤ 200) := hide (by have := HLL.out; simp [HSL.out]; omega)
                generalize p.s.getD k2 0 = x2 at *
                go_wp2_with (at_builtin; refine wpList_app rfl (.tmp 70) (.tmp 75) rfl base _ _ _ [x2] rfl rfl ⟨HW.out.1.alloc _, HW.out.2⟩ (BSl.one _ HBX.out _) (by have := HLT.out; simp only [List.length_cons, List.length_nil]; omega) (by have := HEY.out.sz; simp; omega) ?_)
                intro v8 w8 o8 b8 s8 _
                have HEY : Hid (EY yb base w8 v8 (LX ++ p.s.take (k2 + 1))) := hide ⟨(HEY.out.bel.alloc HEY.out.sz _).trans b8, s8, by rw [HTK.out]; first | exact o8 | simpa using o8⟩
                clear o8 b8 s8
                go_wp2
                go_roundw
                case rel => exact ⟨k2 + 1, by omega, by go_num, HEY⟩
                case measure => simp [intOf]; omega
              · obtain rfl : k2 = 32 := by omega
                have HEY : Hid (EY yb base wr _ (LX ++ p.s)) := hide (by have := HEY.out; rwa [List.take_of_length_le (by rw [HSL.out]; exact Nat.le_refl _)] at this)
                obtain ⟨d0, _, _, _, _, _, d6, d7, d8, d9⟩ := (HK.out _ (HEB.out.ry HEY.out.bel)).cells
                have dd := (HK.out _ (HEB.out.ry HEY.out.bel)).dat
                cases h128 : hasB c 128 with
                | true =>
                  rw [h128] at HH128
                  go_wp2_with fail
                  refine (HH128.out _ (HEB.out.ct.below (HEB.out.fy HEY.out.bel))).mono ?_
                  rintro e' zh128 ⟨rfl, hb1⟩
                  have HEY := hide (HEY.out.next hb1)
                  obtain ⟨d0, _, _, _, _, _, d6, d7, d8, d9⟩ := (HK.out _ (HEB.out.ry HEY.out.bel)).cells
                  have dd := (HK.out _ (HEB.out.ry HEY.out.bel)).dat
                  clear hb1 HH128
                  go_wp2_with fail
                  refine (put_any _ base _ _ p.dl.length 2 (by omega) (by omega) HEY.out.own HEY.out.sz (by have := HLL.out; simp [HSL.out]; omega)).mono ?_
                  rintro e' zr ⟨vr, rfl, hor, hbr, hsr⟩
                  have HEY := hide (HEY.out.put hbr hsr hor)
                  clear hor hbr hsr
                  obtain ⟨d0, _, _, _, _, _, d6, d7, d8, d9⟩ := (HK.out _ (HEB.out.ry HEY.out.bel)).cells
                  have dd := (HK.out _ (HEB.out.ry HEY.out.bel)).dat
                  have HBD := hide (HEB.out.dat.below (HEB.out.fy HEY.out.bel))
                  go_wp2_with (at_builtin; refine wpList_app rfl (.tmp 86) (.tmp 88) rfl base _ _ _ p.dl rfl rfl HEY.out.own HBD.out (by have := HLL.out; simp [HSL.out, be_len]; omega) HEY.out.sz ?_)
                  intro v7 w7 o7 b7 s7 _
                  have HEY := hide (HEY.out.put b7 s7 o7)
                  clear o7 b7 s7
                  go_wp2
                  go_ret2
                  exact ⟨_, rfl, by have := HEY.out.own.low (Nat.le_of_lt HEB.out.low); rw [← HLX.out] at this; simpa [rsum, rdat, h64, h128] using this, HEB.out.fy HEY.out.bel⟩
                | false =>
                  rw [h128] at HH128
                  go_wp2_with fail
                  refine (HH128.out _ (HEB.out.ct.below (HEB.out.fy HEY.out.bel))).mono ?_
                  rintro e' zh128 ⟨rfl, hb1⟩
                  have HEY := hide (HEY.out.next hb1)
                  obtain ⟨d0, _, _, _, _, _, d6, d7, d8, d9⟩ := (HK.out _ (HEB.out.ry HEY.out.bel)).cells
                  have dd := (HK.out _ (HEB.out.ry HEY.out.bel)).dat
                  clear hb1 HH128
                  go_wp2
                  go_ret2
                  exact ⟨_, rfl, by have := HEY.out.own.low (Nat.le_of_lt HEB.out.low); rw [← HLX.out] at this; simpa [rsum, rdat, h64, h128] using this, HEB.out.fy HEY.out.bel⟩
        | false =>
          rw [h32] at HH32
          go_wp2_with fail
          refine (HH32.out _ (HEB.out.ct.below (HEB.out.fy HEY.out.bel))).mono ?_
          rintro e' zh32 ⟨rfl, hb1⟩
          have HEY := hide (HEY.out.next hb1)
          obtain ⟨d0, _, _, _, _, _, d6, d7, d8, d9⟩ := (HK.out _ (HEB.out.ry HEY.out.bel)).cells
          have dd := (HK.out _ (HEB.out.ry HEY.out.bel)).dat
          clear hb1 HH32
          have HEY : Hid (EY yb base zh32 _ (c :: (rnums c p 5 ++ rgens c p))) := hide (by have := HEY.out; simpa [rgens, h32] using this)
          have HLL : Hid ((c :: (rnums c p 5 ++ rgens c p)).length ≤ 60) := hide (by have := HL5.out; simp [rgens, h32, be_len]; omega)
          generalize hLX : c :: (rnums c p 5 ++ rgens c p) = LX at *
          have HLX := hide hLX
          clear hLX
          cases h64 : hasB c 64 with
          | false =>
            rw [h64] at HH64
            go_wp2_with fail
            refine (HH64.out _ (HEB.out.ct.below (HEB.out.fy HEY.out.bel))).mono ?_
            rintro e' zh64 ⟨rfl, hb1⟩
            have HEY := hide (HEY.out.next hb1)
            obtain ⟨d0, _, _, _, _, _, d6, d7, d8, d9⟩ := (HK.out _ (HEB.out.ry HEY.out.bel)).cells
            have dd := (HK.out _ (HEB.out.ry HEY.out.bel)).dat
            clear hb1 HH64
            cases h128 : hasB c 128 with
            | true =>
              rw [h128] at HH128
              go_wp2_with fail
              refine (HH128.out _ (HEB.out.ct.below (HEB.out.fy HEY.out.bel))).mono ?_
              rintro e' zh128 ⟨rfl, hb1⟩
              have HEY := hide (HEY.out.next hb1)
              obtain ⟨d0, _, _, _, _, _, d6, d7, d8, d9⟩ := (HK.out _ (HEB.out.ry HEY.out.bel)).cells
              have dd := (HK.out _ (HEB.out.ry HEY.out.bel)).dat
              clear hb1 HH128
              go_wp2_with fail
              refine (put_any _ base _ _ p.dl.length 2 (by omega) (by omega) HEY.out.own HEY.out.sz (by have := HLL.out; simp [HSL.out]; omega)).mono ?_
              rintro e' zr ⟨vr, rfl, hor, hbr, hsr⟩
              have HEY := hide (HEY.out.put hbr hsr hor)
              clear hor hbr hsr
              obtain ⟨d0, _, _, _, _, _, d6, d7, d8, d9⟩ := (HK.out _ (HEB.out.ry HEY.out.bel)).cells
              have dd := (HK.out _ (HEB.out.ry HEY.out.bel)).dat
              have HBD := hide (HEB.out.dat.below (HEB.out.fy HEY.out.bel))
              go_wp2_with (at_builtin; refine wpList_app rfl (.tmp 86) (.tmp 88) rfl base _ _ _ p.dl rfl rfl HEY.out.own HBD.out (by have := HLL.out; simp [HSL.out, be_len]; omega) HEY.out.sz ?_)
              intro v7 w7 o7 b7 s7 _
              have HEY := hide (HEY.out.put b7 s7 o7)
              clear o7 b7 s7
              go_wp2
              go_ret2
              exact ⟨_, rfl, by have := HEY.out.own.low (Nat.le_of_lt HEB.out.low); rw [← HLX.out] at this; simpa [rsum, rdat, h64, h128] using this, HEB.out.fy HEY.out.bel⟩
            | false =>
              rw [h128] at HH128
              go_wp2_with fail
              refine (HH128.out _ (HEB.out.ct.below (HEB.out.fy HEY.out.bel))).mono ?_
              rintro e' zh128 ⟨rfl, hb1⟩
              have HEY := hide (HEY.out.next hb1)
              obtain ⟨d0, _, _, _, _, _, d6, d7, d8, d9⟩ := (HK.out _ (HEB.out.ry HEY.out.bel)).cells
              have dd := (HK.out _ (HEB.out.ry HEY.out.bel)).dat
              clear hb1 HH128
              go_wp2
              go_ret2
              exact ⟨_, rfl, by have := HEY.out.own.low (Nat.le_of_lt HEB.out.low); rw [← HLX.out] at this; simpa [rsum, rdat, h64, h128] using this, HEB.out.fy HEY.out.bel⟩
          | true =>
            rw [h64] at HH64
            go_wp2_with fail
            refine (HH64.out _ (HEB.out.ct.below (HEB.out.fy HEY.out.bel))).mono ?_
            rintro e' zh64 ⟨rfl, hb1⟩
            have HEY := hide (HEY.out.next hb1)
            obtain ⟨d0, _, _, _, _, _, d6, d7, d8, d9⟩ := (HK.out _ (HEB.out.ry HEY.out.bel)).cells
            have dd := (HK.out _ (HEB.out.ry HEY.out.bel)).dat
            clear hb1 HH64
            go_wp2_with fail
            go_loopw [4, 6] (fun v i wr => ∃ k : Nat, k ≤ 32 ∧ i = .int .i64 k ∧ Hid (EY yb base wr v (LX ++ p.s.take k))) (fun _ i _ => 32 - (intOf i).toNat)
            case atStart => exact ⟨0, Nat.zero_le _, rfl, by simpa using HEY⟩
            case round =>
              obtain ⟨k2, hk2, rfl, HEY⟩ := hrel
              by_cases hlt2 : k2 < 32
              · have HRW := hide (HEB.out.ry HEY.out.bel)
                have g1 : wr.cell? ⟨w.heap.size, 10 + k2, none⟩ = some (.int .u8 ((p.s.getD k2 0 : Nat) : Int)) := (HK.out _ HRW.out).rng k2 _ (u8L_get (by rw [HSL.out]; exact hlt2))
                have HTK : Hid (p.s.take (k2 + 1) = p.s.take k2 ++ [p.s.getD k2 0]) := hide (by
                  have hlt3 : k2 < p.s.length := by rw [HSL.out]; exact hlt2
                  rw [List.take_succ_eq_append_getElem hlt3]; simp [List.getD, hlt3])
                have HBX : Hid (p.s.getD k2 0 < 256) := hide (HSB.out _ (by
                  have hlt3 : k2 < p.s.length := by rw [HSL.out]; exact hlt2
                  simp [List.getD, hlt3]))
                have ik2 : (k2 : Int) < 32 := by omega
                have HW := hide HEY.out.own
                have HLT : Hid ((LX ++ p.s.take k2).length ≤ 200) := hide (by have := HLL.out; simp [HSL.out]; omega)
                generalize p.s.getD k2 0 = x2 at *
                go_wp2_with (at_builtin; refine wpList_app rfl (.tmp 70) (.tmp 75) rfl base _ _ _ [x2] rfl rfl ⟨HW.out.1.alloc _, HW.out.2⟩ (BSl.one _ HBX.out _) (by have := HLT.out; simp only [List.length_cons, List.length_nil]; omega) (by have := HEY.out.sz; simp; omega) ?_)
                intro v8 w8 o8 b8 s8 _
                have HEY : Hid (EY yb base w8 v8 (LX ++ p.s.take (k2 + 1))) := hide ⟨(HEY.out.bel.alloc HEY.out.sz _).trans b8, s8, by rw [HTK.out]; first | exact o8 | simpa using o8⟩
                clear o8 b8 s8
                go_wp2
                go_roundw
                case rel => exact ⟨k2 + 1, by omega, by go_num, HEY⟩
                case measure => simp [intOf]; omega
              · obtain rfl : k2 = 32 := by omega
                have HEY : Hid (EY yb base wr _ (LX ++ p.s)) := hide (by have := HEY.out; rwa [List.take_of_length_le (by rw [HSL.out]; exact Nat.le_refl _)] at this)
                obtain ⟨d0, _, _, _, _, _, d6, d7, d8, d9⟩ := (HK.out _ (HEB.out.ry HEY.out.bel)).cells
                have dd := (HK.out _ (HEB.out.ry HEY.out.bel)).dat
                cases h128 : hasB c 128 with
                | true =>
                  rw [h128] at HH128
                  go_wp2_with fail
                  refine (HH128.out _ (HEB.out.ct.below (HEB.out.fy HEY.out.bel))).mono ?_
                  rintro e' zh128 ⟨rfl, hb1⟩
                  have HEY := hide (HEY.out.next hb1)
                  obtain ⟨d0, _, _, _, _, _, d6, d7, d8, d9⟩ := (HK.out _ (HEB.out.ry HEY.out.bel)).cells
                  have dd := (HK.out _ (HEB.out.ry HEY.out.bel)).dat
                  clear hb1 HH128
                  go_wp2_with fail
                  refine (put_any _ base _ _ p.dl.length 2 (by omega) (by omega) HEY.out.own HEY.out.sz (by have := HLL.out; simp [HSL.out]; omega)).mono ?_
                  rintro e' zr ⟨vr, rfl, hor, hbr, hsr⟩
                  have HEY := hide (HEY.out.put hbr hsr hor)
                  clear hor hbr hsr
                  obtain ⟨d0, _, _, _, _, _, d6, d7, d8, d9⟩ := (HK.out _ (HEB.out.ry HEY.out.bel)).cells
                  have dd := (HK.out _ (HEB.out.ry HEY.out.bel)).dat
                  have HBD := hide (HEB.out.dat.below (HEB.out.fy HEY.out.bel))
                  go_wp2_with (at_builtin; refine wpList_app rfl (.tmp 86) (.tmp 88) rfl base _ _ _ p.dl rfl rfl HEY.out.own HBD.out (by have := HLL.out; simp [HSL.out, be_len]; omega) HEY.out.sz ?_)
                  intro v7 w7 o7 b7 s7 _
                  have HEY := hide (HEY.out.put b7 s7 o7)
                  clear o7 b7 s7
                  go_wp2
                  go_ret2
                  exact ⟨_, rfl, by have := HEY.out.own.low (Nat.le_of_lt HEB.out.low); rw [← HLX.out] at this; simpa [rsum, rdat, h64, h128] using this, HEB.out.fy HEY.out.bel⟩
                | false =>
                  rw [h128] at HH128
                  go_wp2_with fail
                  refine (HH128.out _ (HEB.out.ct.below (HEB.out.fy HEY.out.bel))).mono ?_
                  rintro e' zh128 ⟨rfl, hb1⟩
                  have HEY := hide (HEY.out.next hb1)
                  obtain ⟨d0, _, _, _, _, _, d6, d7, d8, d9⟩ := (HK.out _ (HEB.out.ry HEY.out.bel)).cells
                  have dd := (HK.out _ (HEB.out.ry HEY.out.bel)).dat
                  clear hb1 HH128
                  go_wp2
                  go_ret2
                  exact ⟨_, rfl, by have := HEY.out.own.low (Nat.le_of_lt HEB.out.low); rw [← HLX.out] at this; simpa [rsum, rdat, h64, h128] using this, HEB.out.fy HEY.out.bel⟩
end Go.Proofs.YtacjibfmhhmbcaaDoor
namespace Go.Proofs.YtacjibfmhhmbcaaDoor
open Go.RowKit
set_option linter.unusedVariables false
set_option linter.unusedSimpArgs false
set_option maxRecDepth 20000

set_option maxHeartbeats 2000000 in
theorem rencP_no (w : World) (c : Int) (p : PV) (v : Value) (hp : p.Ok) (h : c < 1 ∨ 25 < c) :
    Calls Tryd.prog 13 #[pkV c p v] w fun e w' => EncPost w c p e w' := by
  have HK : KM (w.alloc (.cells (.int .i64 c :: p.row v).toArray 34)) w.heap.size c p v := ⟨Go.heap_alloc_new w _, hp⟩
  have HB := hide ((Below.refl w.heap.size w).alloc (Nat.le_refl _) (.cells (.int .i64 c :: p.row v).toArray 34))
  have e0 := HK.cells.1
  have HP : Hid (perr c p = 74 ∧ pbytes c p = []) := hide (by
    have e : perr c p = 74 := by unfold perr; rw [if_pos h]
    exact ⟨e, by unfold pbytes; rw [if_neg (by omega)]⟩)
  clear HK
  unfold pkV EncPost
  generalize (.int .i64 c :: p.row v) = LS at *
  rw [HP.out.1, HP.out.2]
  by_cases h1 : c < 1
  · go_enter Tryd.func13, Tryd.ntmps13
    go_wp2_with fail
    go_ret2
    exact ⟨_, rfl, own_nil _ _, HB.out⟩
  · have h2 : 25 < c := by omega
    go_enter Tryd.func13, Tryd.ntmps13
    go_wp2_with fail
    go_ret2
    exact ⟨_, rfl, own_nil _ _, HB.out⟩

/-- the document's EncodePacket says what the program's says -/
theorem rEncodePacket_any (w : World) (c : Int) (p : PV) (v : Value) (hp : p.Ok) (hd : BSl w v p.dl) (hl : p.dl.length ≤ 140737488351232) (hC : CTab w) (hF : FTab w) :
    Calls Tryd.prog 13 #[pkV c p v] w fun e w' => EncPost w c p e w' := by
  obtain ⟨da, dc, rfl, hd1, hd2, _⟩ := id hd
  by_cases h : c < 1 ∨ 25 < c
  · exact rencP_no w c p _ hp h
  · obtain ⟨n, rfl⟩ : ∃ n : Nat, c = (n : Int) := ⟨c.toNat, by omega⟩
    have h1 : 1 ≤ n := by omega
    have h2 : n ≤ 25 := by omega
    refine (rencP_yes w n p da dc hp hd hl hC hF h1 h2 (fun y hy1 hy2 => fits_any y n p da dc hp hd1 hd2 hl hy1 hy2 h1 h2)).mono ?_
    rintro e w' ⟨v', rfl, ho, hb⟩
    rw [renc_encAll n p h1 h2, rfit_fitAll n p hp h1 h2] at *
    cases hf : fitAll p (fdL n) with
    | true =>
      obtain ⟨e1, e2⟩ := perr_yes h1 h2 hf
      rw [hf] at ho
      exact ⟨v', by rw [e1]; simp, by rw [e2]; simpa using ho, hb⟩
    | false =>
      obtain ⟨e1, e2⟩ := perr_no h1 h2 hf
      rw [hf] at ho
      exact ⟨v', by rw [e1]; simp, by rw [e2]; simpa using ho, hb⟩
end Go.Proofs.YtacjibfmhhmbcaaDoor
namespace Go.Proofs.YtacjibfmhhmbcaaDoor
open Go.RowKit
set_option linter.unusedVariables false
set_option linter.unusedSimpArgs false
set_option maxRecDepth 20000

theorem row_set (c : Int) {p : PV} (hn : p.s.length = 32) (v v' : Value) : (.int .i64 c :: p.row v).toArray.set! 42 v' = (.int .i64 c :: p.row v').toArray := by
  unfold PV.row
  apply Array.ext'
  simp only [Array.set!_eq_setIfInBounds, List.setIfInBounds_toArray, List.cons_append, List.nil_append]
  simp only [List.set_cons_succ]
  rw [List.set_append_right _ _ (by simp [hn])]
  simp [hn]
/-- two boxes of packets: the one that was handed in, and one's own -/
structure TPx (w x : World) (c : Int) (p : PV) (vp vo : Value) : Prop where
  f : x.heap[w.heap.size]? = some (.cells (.int .i64 c :: p.row vp).toArray 34 (0, 0))
  o : x.heap[w.heap.size + 1]? = some (.cells (.int .i64 c :: p.row vo).toArray 34 (0, 0))
  bel : Below w.heap.size w x
  sz : w.heap.size + 2 ≤ x.heap.size
theorem TPx.on {w x y : World} {c : Int} {p : PV} {vp vo : Value} (h : TPx w x c p vp vo) {N : Nat} (hb : Below N x y) (hN : w.heap.size + 2 ≤ N) : TPx w y c p vp vo :=
  ⟨by rw [hb.block _ (by omega)]; exact h.f, by rw [hb.block _ (by omega)]; exact h.o, h.bel.trans (hb.mono (by omega)), Nat.le_trans h.sz hb.size⟩
theorem TPx.next {w x y : World} {c : Int} {p : PV} {vp vo : Value} (h : TPx w x c p vp vo) (hb : Below x.heap.size x y) : TPx w y c p vp vo := h.on hb h.sz
theorem TPx.set {w x : World} {c : Int} {p : PV} {vp vo : Value} (hn : p.s.length = 32) (h : TPx w x c p vp vo) (v : Value) : TPx w (x.setCell ⟨w.heap.size + 1, 42, none⟩ v) c p vp v :=
  ⟨by rw [Go.heap_setCell_other _ _ _ _ (by show w.heap.size ≠ w.heap.size + 1; omega)]; exact h.f, by rw [Go.heap_setCell_same x (w.heap.size + 1) 42 _ 34 _ h.o]; rw [← row_set c hn vo v]; rfl, h.bel.setCell (by show w.heap.size ≤ w.heap.size + 1; omega) _, by simpa using h.sz⟩

theorem given_in (g cap n : Nat) (base : Nat) (v : Value) (l m : List Nat) (w : World) (h : BSl w v l) (hn : n = (l ++ m).length) (ho : Own w base (.slice (some ⟨g, 0, none⟩) n cap) (l ++ m)) :
    Calls Tryd.prog 11 #[.slice (some ⟨g, 0, none⟩) n cap, v] w fun e w' => ∃ ao co, e = .returned (.slice ao l.length co) ∧ w' = w ∧ (∀ b, (Value.slice ao l.length co).ownBlock = some b → b = g) ∧ ∀ y, Own y base (.slice (some ⟨g, 0, none⟩) n cap) (l ++ m) → BSl y (.slice ao l.length co) l := by
  subst hn
  have hs : (l ++ m).length ≤ cap ∧ cap ≤ maxLen := by
    rcases ho.1.2 with ⟨h0, _⟩ | ⟨g', cap', cur, h0, hb, hg, hn, hmm, _⟩
    · simp at h0
    · simp only [Value.slice.injEq, Option.some.injEq, Addr.mk.injEq, and_true, true_and] at h0
      obtain ⟨rfl, rfl⟩ := h0
      exact ⟨hn, hmm⟩
  have hle : l.length ≤ (l ++ m).length := by simp
  refine (given_any g cap _ v l w h hle hs.1 hs.2).mono ?_
  rintro e w' ⟨⟨rfl, rfl⟩ | rfl, rfl⟩
  · exact ⟨none, 0, rfl, rfl, fun b hb => (by simp [Value.ownBlock] at hb), fun y _ => ⟨none, 0, rfl, Nat.le_refl _, by unfold maxLen; omega, fun _ => rfl, by simp, by simp⟩⟩
  · refine ⟨_, _, rfl, rfl, fun b hb => ?_, fun y hy => ?_⟩
    · simp [Value.ownBlock] at hb
      exact hb.symm
    · have := hy.part l.length hle
      rw [List.take_left] at this
      exact this

set_option maxHeartbeats 1000000 in
theorem wirePacket_law (w : World) (c : Int) (p : PV) (v : Value) (hT : BTab w) (hC : CTab w) (hF : FTab w) (hp : p.Ok) (h : BSl w v p.dl) (hl : p.dl.length ≤ 140737488351232) :
    Calls Tryd.prog 4 #[pkV c p v] w fun e w' => e = .returned (.bool true) ∧ Below w.heap.size w w' := by
  have HP := hide h
  have hby := h.bytes
  obtain ⟨pa, cap, rfl, hl1, hl2, _⟩ := id h
  unfold maxLen at hl2
  have PC0 := hide (pc_of c hp.n (.slice pa p.dl.length cap) rfl)
  have PCs := hide fun (va : Option Addr) (n vc : Nat) => pc_of c hp.n (.slice va n vc) rfl
  have R0 := hide (Go.heap_alloc_new w (.cells (.int .i64 c :: p.row (.slice pa p.dl.length cap)).toArray 34))
  have HNN := hide hp.n
  have hpbl : (pbytes c p).length ≤ 140737488355328 := by
    by_cases h0 : perr c p = 0
    · have hf : fitAll p (fdL c.toNat) = true := by
        unfold perr at h0
        split at h0
        · cases h0
        · split at h0
          · assumption
          · cases h0
      have h4 := encT_len hp.n (fdL_ok c.toNat) hf 4
      have h5 : encT p (fdL c.toNat) 4 = encAll p (fdL c.toNat) := by unfold encT encAll; rw [List.take_of_length_le (fdL_len _)]
      rw [h5] at h4
      unfold pbytes
      rw [if_pos h0, List.length_cons]
      omega
    · unfold pbytes; rw [if_neg h0]; simp
  have T0 : TPx w ((w.alloc (.cells (.int .i64 c :: p.row (.slice pa p.dl.length cap)).toArray 34)).alloc (.cells (.int .i64 c :: p.row (.slice pa p.dl.length cap)).toArray 34)) c p (.slice pa p.dl.length cap) (.slice pa p.dl.length cap) := by
    refine ⟨?_, ?_, ((Below.refl _ _).alloc (Nat.le_refl _) _).alloc (by simp) _, by simp⟩
    · rw [RowKit.Below.heap_alloc _ _ _ (by simp)]; exact Go.heap_alloc_new w _
    · have := Go.heap_alloc_new (w.alloc (.cells (.int .i64 c :: p.row (.slice pa p.dl.length cap)).toArray 34)) (.cells (.int .i64 c :: p.row (.slice pa p.dl.length cap)).toArray 34)
      simpa using this
  have HKM : Hid (∀ y v g, y.heap[g]? = some (.cells (.int .i64 c :: p.row v).toArray 34 (0, 0)) → KM y g c p v) := hide fun y v g hy => ⟨hy, hp⟩
  have HT0 := hide T0
  have HRM := hide (roomy_any _ p.dl _ (HP.out.below T0.bel) (by omega))
  have HE1 := hide fun y v1 (hv : BSl y v1 p.dl) hlt (hy : BTab y) => encodePacket_any y c p v1 hp hv hlt hy
  have HE2 := hide fun y (hv : BSl y (.slice pa p.dl.length cap) p.dl) (hc : CTab y) (hf : FTab y) => rEncodePacket_any y c p _ hp hv hl hc hf
  unfold EncPost at HE1 HE2
  have HSP := hide fun y v1 v2 (h1 : BSl y v1 p.dl) (h2 : BSl y v2 p.dl) => samePacket_eq y c p p v1 v2 hp h1 h2 rfl rfl
  have HBT := hide hT
  have HCT := hide hC
  have HFT := hide hF
  have HZ0 := hide (show ((w.alloc (.cells (.int .i64 c :: p.row (.slice pa p.dl.length cap)).toArray 34)).alloc (.cells zPk 34)).heap[w.heap.size + 1]? = some (.cells zPk 34 (0, 0)) by
    have := Go.heap_alloc_new (w.alloc (.cells (.int .i64 c :: p.row (.slice pa p.dl.length cap)).toArray 34)) (.cells zPk 34); simpa using this)
  have HLEN := hide (show p.dl.length + 40 = (p.dl ++ marks 40).length by simp [marks_len])
  have HUT := hide fun (x : World) (g cp base : Nat) (h : BSl x (.slice pa p.dl.length cap) p.dl) (ho : Own x base (.slice (some ⟨g, 0, none⟩) (p.dl.length + 40) cp) (p.dl ++ marks 40)) => untouched_any g cp _ p.dl x base h (by omega) (by rw [← HLEN.out]; exact ho)
  have HSR := hide (show ((w.alloc (.cells (.int .i64 c :: p.row (.slice pa p.dl.length cap)).toArray 34)).alloc (.cells zPk 34)).setRow (w.heap.size + 1) (.int .i64 c :: p.row (.slice pa p.dl.length cap)).toArray = (w.alloc (.cells (.int .i64 c :: p.row (.slice pa p.dl.length cap)).toArray 34)).alloc (.cells (.int .i64 c :: p.row (.slice pa p.dl.length cap)).toArray 34) by
    have := World.setRow_alloc_new (w.alloc (.cells (.int .i64 c :: p.row (.slice pa p.dl.length cap)).toArray 34)) zPk (.int .i64 c :: p.row (.slice pa p.dl.length cap)).toArray 34
    simpa using this)
  unfold pkV at *
  have ed := (HKM.out _ _ _ HT0.out.f).dat
  have HSZ := hide (show ((w.alloc (.cells (.int .i64 c :: p.row (.slice pa p.dl.length cap)).toArray 34)).alloc (.cells (.int .i64 c :: p.row (.slice pa p.dl.length cap)).toArray 34)).heap.size = w.heap.size + 2 by simp)
  clear T0 h hT hC hF
  generalize hcs : (.int .i64 c :: p.row (.slice pa p.dl.length cap)).toArray = CS at *
  go_enter Tryd.func4, Tryd.ntmps4
  go_wp2_with (first
    | (refine wpList_load_row rfl 34 (.tmp 1) rfl w.heap.size (by first | rfl | simp [Act.eval, Act.put]) 34 CS (0, 0) _ R0.out Tryd.underlying34 rfl PC0.out.i ?_)
    | (refine wpList_store_row rfl 34 (.tmp 3) (.tmp 11) rfl (w.heap.size + 1) CS (by first | rfl | simp [Act.eval, Act.put]) (by first | rfl | simp [Act.eval, Act.put]) 34 zPk HZ0.out PC0.out.i PC0.out.z PC0.out.o ?_; first | rw [HSR.out] | erw [HSR.out] | (rw [show w.heap.size + 1 = (w.alloc (.cells CS 34)).heap.size by simp, World.setRow_alloc_new]; simp only [World.size_alloc]))
    | (go_at_call 10; refine HRM.out.mono ?_; rintro e x1 ⟨vd, rfl, od, bd⟩; clear HRM
       obtain ⟨g, cp, rfl, hg, hgl, _, _⟩ := od.shape (by simp [marks_len])
       rw [HSZ.out] at hg od
       have HT1 := hide (HT0.out.next bd)
       have HOD : Hid (Own x1 (w.heap.size + 2) (.slice (some ⟨g, 0, none⟩) (p.dl.length + 40) cp) (p.dl ++ marks 40)) := hide (by rw [HLEN.out]; exact od)
       have HGL := hide hgl
       clear od bd HT0 hgl
       rw [← HLEN.out]
       have HGI := hide (given_in g cp (p.dl.length + 40) (w.heap.size + 2) _ p.dl (marks 40) x1 (HP.out.below HT1.out.bel) HLEN.out HOD.out)
       have ed1 := (HKM.out _ _ _ HT1.out.f).dat
       have eo1 := (HKM.out _ _ _ HT1.out.o).dat
       have fo1 : x1.frozen? ⟨w.heap.size + 1, 42, none⟩ = false := frozen_of_row _ _ _ _ _ HT1.out.o)
    | (go_at_call 11; refine HGI.out.mono ?_; rintro e x2 ⟨ao, co, rfl, hx2, hbl, hvo⟩; subst hx2; clear HGI
       have HT2 := hide (HT1.out.set HNN.out (.slice ao p.dl.length co))
       have HOD2 := hide (HOD.out.keptIf (fun j hj => (Go.heap_setCell_other _ _ _ _ (by simp only [Value.ownBlock, Option.some.injEq] at hj; show j ≠ w.heap.size + 1; omega) : (x2.setCell ⟨w.heap.size + 1, 42, none⟩ (.slice ao p.dl.length co)).heap[j]? = x2.heap[j]?)))
       have HVO := hide (hvo _ HOD2.out)
       have HBL := hide fun b hb => (show b < (x2.setCell ⟨w.heap.size + 1, 42, none⟩ (.slice ao p.dl.length co)).heap.size by rw [hbl b hb]; simpa using HGL.out)
       have HEN := hide (HE1.out _ _ HVO.out HBL.out (HBT.out.below HT2.out.bel))
       have PC2 := hide (PCs.out ao p.dl.length co)
       clear hvo hbl HOD)
    | (refine wpList_load_row rfl 34 (.tmp 3) rfl (w.heap.size + 1) (by first | rfl | simp [Act.eval, Act.put]) 34 (.int .i64 c :: p.row (.slice ao p.dl.length co)).toArray (0, 0) _ HT2.out.o Tryd.underlying34 rfl PC2.out.i ?_)
    | (go_at_call 12; refine HEN.out.mono ?_; rintro e x3 ⟨vb, rfl, ob, bb⟩; clear HEN
       have HT3 := hide (HT2.out.next bb)
       have HB23 := hide bb
       have HOB := hide ob
       have R3 : Hid (x3.heap[w.heap.size]? = some (.cells CS 34 (0, 0))) := hide (by rw [← hcs]; exact HT3.out.f)
       have HEN2 := hide (HE2.out _ (HP.out.below HT3.out.bel) (HCT.out.below HT3.out.bel) (HFT.out.below HT3.out.bel))
       clear ob bb)
    | (refine wpList_load_row rfl 34 (.tmp 1) rfl w.heap.size (by first | rfl | simp [Act.eval, Act.put]) 34 CS (0, 0) _ R3.out Tryd.underlying34 rfl PC0.out.i ?_)
    | (go_at_call 13; refine HEN2.out.mono ?_; rintro e x4 ⟨vc, rfl, oc, bc⟩; clear HEN2
       have HT4 := hide (HT3.out.next bc)
       have HOB4 := hide (HOB.out.kept bc)
       have HOC := hide oc
       have HSA := hide (same_eq vb vc _ x4 (HOB.out.kept bc).bsl oc.bsl)
       have HB24 := hide (HB23.out.trans (bc.mono HB23.out.size))
       have HOD4 := hide (HOD2.out.kept HB24.out)
       have HVO4 := hide (HVO.out.below HB24.out)
       have HS3 := hide bc.size
       clear bc oc)
    | (go_at_call 9; refine (num_any _ _).mono ?_; rintro e x ⟨rfl, hx⟩; rw [hx]; clear hx)
    | (go_at_call 14; refine HSA.out.mono ?_; rintro e y ⟨rfl, n, hy⟩; subst hy; clear HSA
       have hdn := bel_drewN (Below.refl x4.heap.size x4) n
       have HT5 := hide (HT4.out.next hdn)
       have R5 : Hid ((x4.drewN n).heap[w.heap.size]? = some (.cells CS 34 (0, 0))) := hide (by rw [← hcs]; exact HT5.out.f)
       have q5 := HSP.out (x4.drewN n) (.slice ao p.dl.length co) (.slice pa p.dl.length cap) (HVO4.out.below hdn) (HP.out.below HT5.out.bel)
       rw [hcs] at q5
       have HSP5 := hide q5
       clear q5
       have HDN := hide hdn
       clear hdn)
    | (refine wpList_load_rowW (by kernel_rfl) 34 (.tmp 3) rfl (w.heap.size + 1) (by first | rfl | simp [Act.eval, Act.put]) 34 (.int .i64 c :: p.row (.slice ao p.dl.length co)).toArray (0, 0) _ HT5.out.o Tryd.underlying34 rfl PC2.out.i ?_)
    | (refine wpList_load_rowW (by kernel_rfl) 34 (.tmp 1) rfl w.heap.size (by first | rfl | simp [Act.eval, Act.put]) 34 CS (0, 0) _ R5.out Tryd.underlying34 rfl PC0.out.i ?_)
    | (go_at_call 15; refine HSP5.out.mono ?_; rintro e x6 ⟨rfl, hb6⟩; clear HSP5
       have HB46 := hide (HDN.out.trans (hb6.mono (Nat.le_refl _)))
       have HT6 := hide (HT4.out.next HB46.out)
       have HOD6 := hide (HOD4.out.kept HB46.out)
       have HUT6 := hide (HUT.out x6 g cp (w.heap.size + 2) (HP.out.below HT6.out.bel) HOD6.out)
       have ed6 := (HKM.out _ _ _ HT6.out.f).dat
       clear hb6)
    | (go_at_call 16; refine HUT6.out.mono ?_; rintro e y ⟨rfl, n2, hy⟩; subst hy; clear HUT6
       have HB47 := hide (HB46.out.trans (bel_drewN (Below.refl x6.heap.size x6) n2 |>.mono HB46.out.size))
       have HOB7 := hide (HOB4.out.kept HB47.out)
       have HOC7 := hide (HOC.out.kept HB47.out)
       have HT7 := hide (HT4.out.next HB47.out)
       have HVO7 := hide (HB24.out.trans (HB47.out.mono HB24.out.size)))
    | (go_at_call 17; refine (spoil_own _ _ vb _ hpbl HOB7.out).mono ?_; rintro e x8 ⟨rfl, b8, s8, k8⟩
       have HT8 := hide (HT7.out.on b8 HT2.out.sz)
       have HV8 := hide (HVO.out.below (HVO7.out.trans b8))
       have HOC8 := hide (HOC7.out.keptIf fun j hj => k8 j (fun hh => by have h1 := HOC.out.block hj; have h2 := HOB.out.block hh; omega))
       have R8 : Hid (x8.heap[w.heap.size]? = some (.cells CS 34 (0, 0))) := hide (by rw [← hcs]; exact HT8.out.f)
       have q8 := HSP.out x8 (.slice ao p.dl.length co) (.slice pa p.dl.length cap) HV8.out (HP.out.below HT8.out.bel)
       rw [hcs] at q8
       have HSP8 := hide q8
       clear q8
       have HL8 := hide fun b hb => Nat.lt_of_lt_of_le (HBL.out b hb) (HVO7.out.trans b8).size
       clear b8 s8 k8)
    | (refine wpList_load_row rfl 34 (.tmp 3) rfl (w.heap.size + 1) (by first | rfl | simp [Act.eval, Act.put]) 34 (.int .i64 c :: p.row (.slice ao p.dl.length co)).toArray (0, 0) _ HT8.out.o Tryd.underlying34 rfl PC2.out.i ?_)
    | (refine wpList_load_row rfl 34 (.tmp 1) rfl w.heap.size (by first | rfl | simp [Act.eval, Act.put]) 34 CS (0, 0) _ R8.out Tryd.underlying34 rfl PC0.out.i ?_)
    | (go_at_call 15; refine HSP8.out.mono ?_; rintro e x9 ⟨rfl, hb9⟩; clear HSP8
       have HT9 := hide (HT8.out.next hb9)
       have HOC9 := hide (HOC8.out.kept hb9)
       have HEN9 := hide (HE1.out x9 _ (HV8.out.below hb9) (fun b hb => Nat.lt_of_lt_of_le (HL8.out b hb) hb9.size) (HBT.out.below HT9.out.bel))
       clear hb9)
    | (refine wpList_load_row rfl 34 (.tmp 3) rfl (w.heap.size + 1) (by first | rfl | simp [Act.eval, Act.put]) 34 (.int .i64 c :: p.row (.slice ao p.dl.length co)).toArray (0, 0) _ HT9.out.o Tryd.underlying34 rfl PC2.out.i ?_)
    | (go_at_call 12; refine HEN9.out.mono ?_; rintro e y1 ⟨vd, rfl, od, bd⟩; clear HEN9
       have HTa := hide (HT9.out.next bd)
       have HSAa := hide (same_eq vd vc _ y1 od.bsl (HOC9.out.kept bd).bsl)
       clear od bd)
    | (go_at_call 14; refine HSAa.out.mono ?_; rintro e y ⟨rfl, n3, hy⟩; subst hy; have HFIN := hide (HTa.out.next (bel_drewN (Below.refl y1.heap.size y1) n3)).bel; clear HSAa)
    | fail)
  go_ret
  exact ⟨by first | rfl | (simp; done), HFIN.out⟩
end Go.Proofs.YtacjibfmhhmbcaaDoor
namespace Go.Proofs.YtacjibfmhhmbcaaDoor
open Go.ChangeShapes Go.WideShapes Go.ChangeAt Go.RowKit
set_option linter.unusedVariables false
set_option linter.unusedSimpArgs false
set_option maxRecDepth 20000

theorem gC : Tryd.prog.globalNamed "replica/replicaref07.carries" = some 4 := by kernel_rfl
theorem gCty : (Tryd.prog.globals[4]?).map (·.type) = some 102 := by kernel_rfl
theorem gV : Tryd.prog.globalNamed "replica/replicaref07.five" = some 2 := by kernel_rfl
theorem gVty : (Tryd.prog.globals[2]?).map (·.type) = some 57 := by kernel_rfl
theorem cellsCar : Tryd.prog.cellsOf 102 = 26 := by kernel_rfl
theorem cellsFive : Tryd.prog.cellsOf 57 = 5 := by kernel_rfl
namespace wirePacket
def listed : List (String × DataW Unit) := [("replica/replicaref07.carries", Rows.laid_replica_replicaref07_carries), ("replica/replicaref07.five", Rows.laid_replica_replicaref07_five), ("replica/wire.bounds", Rows.laid_replica_wire_bounds)]
def carZ : List Int := carL.map fun (x : Nat) => (x : Int)
def fiveZ : List Int := [1, 2, 4, 8, 16]
theorem stabs_of_laid {W : World} (h : laidMetH Tryd.prog listed W) : BTab W ∧ CTab W ∧ FTab W := by
  have h' : laidMet Tryd.prog [("replica/replicaref07.carries", (Lib.tabData .i64 carZ : DataW Unit)), ("replica/replicaref07.five", (Lib.tabData .i64 fiveZ : DataW Unit)), ("replica/wire.bounds", (.agg (bndL.map recD) : DataW Unit))] W := h
  obtain ⟨ps, ⟨g', t', cs, fuel, p, q, hg', ht', hvar, hd, ⟨g2, t2, cs2, fuel2, p2, q2, hg2, ht2, hvar2, hd2, ⟨g3, t3, cs3, fuel3, p3, q3, hg3, ht3, hvar3, hd3, _⟩, _⟩, _⟩, _⟩ := h'
  obtain rfl := Option.some.inj (gC.symm.trans hg')
  obtain rfl := Option.some.inj (gCty.symm.trans ht')
  obtain rfl := Option.some.inj (gV.symm.trans hg2)
  obtain rfl := Option.some.inj (gVty.symm.trans ht2)
  obtain rfl := Option.some.inj (gB.symm.trans hg3)
  obtain rfl := Option.some.inj (gBty.symm.trans ht3)
  refine ⟨?_, ?_, ?_⟩
  · have hc := cells_of_recs rfl hd3
    intro n hn
    obtain ⟨c0, c1, c2⟩ := hc n hn
    have k := fun j => World.var?_cell gB hvar3 j
    exact ⟨by rw [k, List.getElem?_toArray]; exact c0, by rw [k, List.getElem?_toArray]; exact c1, by rw [k, List.getElem?_toArray]; exact c2⟩
  · have hc := Lib.cells_of_tab Tryd.underlying102 Tryd.underlying3 cellsI cellsCar hd
    intro n hn
    have k := World.var?_cell gC hvar n
    rw [k, ← Array.getElem?_toList, hc]
    have hl : n < carL.length := hn
    simp [carZ, car, List.getD, hl]
  · have hc := Lib.cells_of_tab Tryd.underlying57 Tryd.underlying3 cellsI cellsFive hd2
    intro n hn
    have k := World.var?_cell gV hvar2 n
    rw [k, ← Array.getElem?_toList, hc]
    rcases (show n = 0 ∨ n = 1 ∨ n = 2 ∨ n = 3 ∨ n = 4 by omega) with rfl | rfl | rfl | rfl | rfl <;> rfl
def laidIn (w : World) : World := { w with heap := ((w.heap.modify 3 (relay (bndL.flatMap fun z => [.int .i64 (z.1 : Int), .int .u64 (z.2.1 : Int), .int .u64 (z.2.2 : Int)]))).modify 4 (relay (carZ.map fun z => .int .i64 z))).modify 2 (relay (fiveZ.map fun z => .int .i64 z)) }
end wirePacket
end Go.Proofs.YtacjibfmhhmbcaaDoor
namespace Go.Proofs.YtacjibfmhhmbcaaDoor
open Go.ChangeShapes Go.WideShapes Go.ChangeAt Go.RowKit
open Num
set_option linter.unusedVariables false
set_option linter.unusedSimpArgs false
set_option maxRecDepth 20000

theorem cellsPk : Tryd.prog.cellsOf 34 = 43 := by kernel_rfl
theorem cellsG : Tryd.prog.cellsOf 30 = 4 := by kernel_rfl
theorem cellsS : Tryd.prog.cellsOf 31 = 32 := by kernel_rfl
theorem cellsU8 : Tryd.prog.cellsOf 5 = 1 := by kernel_rfl
theorem cellsUk : Tryd.prog.cellsOf 28 = 1 := by kernel_rfl
def natOf : Value → Nat
  | .int _ n => n.toNat
  | _ => 0
theorem open_sum {H : Type} {enc : TypeId × Value → H} {W : World} {n : Nat} {cs : List Value} {y : DataW H × List MemPlace} (h : DataW.trod enc Tryd.prog W 0 (fun _ => true) true n 31 cs = some y) :
    ∃ s : List Nat, cs = s.map (fun (x : Nat) => Value.int .u8 (x : Int)) ∧ s.length = 32 ∧ ∀ x ∈ s, x < 256 := by
  obtain ⟨xs, m, hm, hxy, hcl, hxl, hfd⟩ := DataW.trod_array Tryd.underlying31 h
  rw [cellsS] at hcl
  have key : ∀ i, (hi : i < cs.length) → ∃ k : Nat, k < 256 ∧ cs[i] = .int .u8 (k : Int) := by
    intro i hi
    have g := hfd i (by omega)
    rw [cellsU8, Nat.mul_one] at g
    rw [List.getElem?_eq_getElem (by omega)] at g
    obtain ⟨a, e, _, f⟩ := DataW.trod_int Tryd.underlying5 g
    have f := bounds_u8 f
    rw [List.drop_eq_getElem_cons hi, List.take_succ_cons, List.take_zero] at e
    simp only [List.cons.injEq, and_true] at e
    exact ⟨a.toNat, by omega, by rw [e, Int.toNat_of_nonneg f.1]⟩
  refine ⟨cs.map natOf, ?_, by simp [hcl], fun x hx => ?_⟩
  · rw [List.map_map]
    refine List.ext_getElem (by simp) fun i h1 h2 => ?_
    obtain ⟨k, hk, e⟩ := key i h1
    simp [e, natOf]
  · obtain ⟨v, hv, rfl⟩ := List.mem_map.1 hx
    obtain ⟨i, hi, rfl⟩ := List.getElem_of_mem hv
    obtain ⟨k, hk, e⟩ := key i hi
    rw [e]; simpa [natOf] using hk
set_option maxHeartbeats 1000000 in
/-- a packet that came in -/
theorem open_packet {H : Type} {enc : TypeId × Value → H} {W : World} {base : Nat} {v : Value} {d : DataW H} {p : List MemPlace} {ts : List TypeId} {ds : List (DataW H)} (j : Nat) (hts : ts[j]? = some 34) (hds : ds[j]? = some d)
    (hsz : (DataW.weightsEach Tryd.prog ts ds).all (· ≤ reachBytes) = true) (hok : Value.okWide Tryd.prog W .any base 34 v) (h1 : DataW.Trod enc Tryd.prog W 0 (fun _ => true) true 34 v d p) :
    ∃ (c : Int) (q : PV) (x : Value), v = pkV c q x ∧ q.Ok ∧ BSl W x q.dl ∧ q.dl.length ≤ 140737488351232 ∧ (-9223372036854775808 ≤ c ∧ c ≤ 9223372036854775807) := by
  obtain ⟨cs, rfl, hcs⟩ := okWide_struct Tryd.underlying34 hok
  rw [cellsPk] at hcs
  obtain ⟨fuel, hf⟩ := h1
  obtain ⟨l⟩ := cs
  match l, hcs with
  | v0 :: v1 :: v2 :: v3 :: v4 :: v5 :: v6 :: v7 :: v8 :: v9 :: r, hr =>
    have hrl : r.length = 33 := by simp at hr; omega
    obtain ⟨xs, k, hk, hxy, _, hxl, hfd⟩ := DataW.trod_struct Tryd.underlying34 hf
    match xs, hxl with
    | [y0, y1, y2, y3, y4, y5, y6, y7, y8], _ =>
      have g0 := hfd 0 _ rfl
      have g1 := hfd 1 _ rfl
      have g2 := hfd 2 _ rfl
      have g3 := hfd 3 _ rfl
      have g4 := hfd 4 _ rfl
      have g5 := hfd 5 _ rfl
      have g6 := hfd 6 _ rfl
      have g7 := hfd 7 _ rfl
      have g8 := hfd 8 _ rfl
      simp [cellsI, cellsV, cellsB, cellsG, cellsS, Value.cells] at g0 g1 g2 g3 g4 g5 g6 g7 g8
      obtain ⟨xs2, k2, hk2, hxy2, _, hxl2, hfd2⟩ := DataW.trod_struct Tryd.underlying30 g6
      match xs2, hxl2 with
      | [u0, u1, u2, u3], _ =>
        have m0 := hfd2 0 _ rfl
        have m1 := hfd2 1 _ rfl
        have m2 := hfd2 2 _ rfl
        have m3 := hfd2 3 _ rfl
        simp [cellsUk] at m0 m1 m2 m3
        obtain ⟨a0, e0, _, f0⟩ := DataW.trod_int Tryd.underlying3 g0
        obtain ⟨a1, e1, _, f1⟩ := DataW.trod_int Tryd.underlying27 g1
        obtain ⟨a2, e2, _, f2⟩ := DataW.trod_int Tryd.underlying27 g2
        obtain ⟨a3, e3, _, f3⟩ := DataW.trod_int Tryd.underlying27 g3
        obtain ⟨a4, e4, _, f4⟩ := DataW.trod_int Tryd.underlying27 g4
        obtain ⟨a5, e5, _, f5⟩ := DataW.trod_int Tryd.underlying27 g5
        obtain ⟨b0, p0, _, q0⟩ := DataW.trod_int Tryd.underlying28 m0
        obtain ⟨b1, p1, _, q1⟩ := DataW.trod_int Tryd.underlying28 m1
        obtain ⟨b2, p2, _, q2⟩ := DataW.trod_int Tryd.underlying28 m2
        obtain ⟨b3, p3, _, q3⟩ := DataW.trod_int Tryd.underlying28 m3
        simp at e0 e1 e2 e3 e4 e5 p0 p1 p2 p3
        subst e0 e1 e2 e3 e4 e5 p0 p1 p2 p3
        have f0 := bounds_i64 f0
        have f1 := bounds_u32 f1
        have f2 := bounds_u32 f2
        have f3 := bounds_u32 f3
        have f4 := bounds_u32 f4
        have f5 := bounds_u32 f5
        have q0 := bounds_u64 q0
        have q1 := bounds_u64 q1
        have q2 := bounds_u64 q2
        have q3 := bounds_u64 q3
        obtain ⟨s, hs, hsl, hsb⟩ := open_sum g7
        obtain ⟨x, hx⟩ : ∃ x, r.drop 32 = [x] := by
          match hh : r.drop 32, (show (r.drop 32).length = 1 by simp [hrl]) with
          | [x], _ => exact ⟨x, rfl⟩
        have hrr : r = s.map (fun (x : Nat) => Value.int .u8 (x : Int)) ++ [x] := by rw [← hs, ← hx, List.take_append_drop]
        rw [show List.take 1 (r.drop 32) = [x] by rw [hx]; rfl] at g8
        simp only [Prod.mk.injEq] at hxy
        have hin := sized_struct hsz (j := j) hts (by rw [hds, hxy.1]) Tryd.underlying34
        obtain ⟨q, hq, hql⟩ := open_field 8 rfl rfl hin g8
        refine ⟨a0, ⟨a1.toNat, a2.toNat, a3.toNat, a4.toNat, a5.toNat, b0.toNat, b1.toNat, b2.toNat, b3.toNat, s, q⟩, x, ?_, ⟨by simp only; omega, by simp only; omega, by simp only; omega, by simp only; omega, by simp only; omega, by simp only; omega, by simp only; omega, by simp only; omega, by simp only; omega, hsl, hsb⟩, hq, hql, f0⟩
        unfold pkV PV.row
        simp only
        rw [Int.toNat_of_nonneg f1.1, Int.toNat_of_nonneg f2.1, Int.toNat_of_nonneg f3.1, Int.toNat_of_nonneg f4.1, Int.toNat_of_nonneg f5.1, Int.toNat_of_nonneg q0.1, Int.toNat_of_nonneg q1.1, Int.toNat_of_nonneg q2.1, Int.toNat_of_nonneg q3.1, hrr]
        rfl
theorem again_packet {H : Type} {enc : TypeId × Value → H} {W W' : World} {v : Value} {d : DataW H} {p : List MemPlace} (h1 : DataW.Trod enc Tryd.prog W 0 (fun _ => true) true 34 v d p) (bel : Below W.heap.size W W') :
    DataW.Trod enc Tryd.prog W' 0 (fun b => decide (b < W.heap.size)) true 34 v d p := Below.trod laidOut (by kernel_rfl) (of_decide_eq_true (by kernel_rfl)) h1 bel (trod_place_lt h1)
end Go.Proofs.YtacjibfmhhmbcaaDoor
