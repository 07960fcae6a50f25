import Derived.Test.YtkjaaknlhmneoabDoorMtWhole
namespace Go.Proofs.YtkjaaknlhmneoabDoor
open Go.RowKit Go.Lib
open Num
set_option linter.unusedVariables false
set_option linter.unusedSimpArgs false
set_option maxRecDepth 20000

set_option maxHeartbeats 1000000 in
theorem sealed_1 (w : World) (bv : Value) (L : List Nat) (hL : BSl w bv L) (s sj : Sup) (ej : Int) (hw : s.Wf) (hT : Tabs w) (ho : s.ok = true) (hu : uns L = (sj, 0))  : Calls Tryd.prog 5 #[bv, s.val] w fun e w' => e = .returned (.bool true) ∧ Below w.heap.size w w' := by
  have HX := hide (Bx.start w s)
  have HT := hide hT
  have HSE := hide (fun x hx => seal_yes x s hw ho hx)
  have HLA := hide fun x => lawful_any x s hw
  rw [ho] at HLA
  have HV := hide hL
  have HUN := hide fun x (hb : Below w.heap.size w x) => unseal_any x bv L (hL.below hb) (hT.below hb)
  have HOK : Hid s.Ok := hide ⟨ho, hw⟩
  have HEN := hide (Sup.enc_len (s := s) ⟨ho, hw⟩)
  obtain ⟨hoj, hLj⟩ := uns_only (by obtain ⟨_, _, _, _, _, _, h, _⟩ := hL; exact h) hu
  have HOJ := hide hoj
  have HVJ : Hid (BSl w bv sj.enc) := hide (by rw [← hLj]; exact hL)
  clear hoj hLj
  have HU := hide hu
  clear hw ho hT hL hu
  unfold SealPost at HSE
  generalize s.size.toNat = na at *
  unfold Sup.val Sup.row at *
  go_enter Tryd.func5, Tryd.ntmps5
  go_wp2_with (first
    | (go_at_call 8; refine (HSE.out _ (HT.out.below HX.out.below)).mono ?_; rintro e w2 ⟨g, rfl, hr2, hb2⟩; have HX2 : Hid (Bx w w2 s) := hide (HX.out.below' hb2); have HL2 : Hid (BSl w2 (.slice (some ⟨g, 0, none⟩) na na) s.enc) := hide (by have hx := hr2.own.bsl; rw [HEN.out] at hx; exact hx); unfold gsl; clear hr2 hb2; have c0 : w2.cell? ⟨w.heap.size, 0, none⟩ = some (.int .u64 (s.seq : Int)) := HX2.out.cell 0; have c1 : w2.cell? ⟨w.heap.size, 1, none⟩ = some (.int .i64 s.blocks) := HX2.out.cell 1; have c2 : w2.cell? ⟨w.heap.size, 2, none⟩ = some (.int .i64 s.size) := HX2.out.cell 2; have c3 : w2.cell? ⟨w.heap.size, 3, none⟩ = some (.int .i64 s.slots) := HX2.out.cell 3; have c4 : w2.cell? ⟨w.heap.size, 4, none⟩ = some (.int .u64 (s.g0 : Int)) := HX2.out.cell 4; have c5 : w2.cell? ⟨w.heap.size, 5, none⟩ = some (.int .u64 (s.g1 : Int)) := HX2.out.cell 5; have c6 : w2.cell? ⟨w.heap.size, 6, none⟩ = some (.int .u64 (s.g2 : Int)) := HX2.out.cell 6; have c7 : w2.cell? ⟨w.heap.size, 7, none⟩ = some (.int .u64 (s.g3 : Int)) := HX2.out.cell 7; have c8 : w2.cell? ⟨w.heap.size, 8, none⟩ = some (.int .u32 (s.flags : Int)) := HX2.out.cell 8; have c9 : w2.cell? ⟨w.heap.size, 9, none⟩ = some (.int .i64 s.mark) := HX2.out.cell 9)
    | (go_at_call 9; refine (HLA.out _).mono ?_; rintro e w3 ⟨rfl, hb3⟩; have HX3 : Hid (Bx w w3 s) := hide (HX2.out.below' hb3); have HL3 := hide (HL2.out.below hb3); clear hb3)
    | (go_at_call 12; first
        | ((with_reducible refine (whole_yes _ _ s HOK.out HL3.out (HT.out.below HX3.out.below)).mono ?_); rintro e w4 ⟨rfl, hb4⟩; have HX4 : Hid (Bx w w4 s) := hide (HX3.out.below' hb4); clear hb4)
        | ((with_reducible refine (whole_yes _ _ sj HOJ.out (HVJ.out.below (HX5.out _).below) (HT.out.below (HX5.out _).below)).mono ?_); rintro e w6 ⟨rfl, hb6⟩; have HX6 : Hid (Bx w w6 s) := hide ((HX5.out _).below' hb6); clear hb6))
    | (go_at_call 10; refine (HUN.out _ HX4.out.below).mono ?_; rintro e w5 ⟨he, hb5⟩; rw [HU.out] at he; dsimp only [Sup.val, Sup.row] at he; subst he; have HX5 : Hid (∀ o, Bx w (w5.alloc o) s) := hide fun o => (HX4.out.below' hb5).below' ((Below.refl _ _).alloc (Nat.le_refl _) o); clear hb5))
  go_ret
  exact ⟨rfl, HX6.out.below⟩
set_option maxHeartbeats 1000000 in
theorem sealed_2 (w : World) (bv : Value) (L : List Nat) (hL : BSl w bv L) (s sj : Sup) (ej : Int) (hw : s.Wf) (hT : Tabs w) (ho : s.ok = true) (hu : uns L = (sj, ej)) (h0 : ¬ ej = 0) : Calls Tryd.prog 5 #[bv, s.val] w fun e w' => e = .returned (.bool true) ∧ Below w.heap.size w w' := by
  have HX := hide (Bx.start w s)
  have HT := hide hT
  have HSE := hide (fun x hx => seal_yes x s hw ho hx)
  have HLA := hide fun x => lawful_any x s hw
  rw [ho] at HLA
  have HV := hide hL
  have HUN := hide fun x (hb : Below w.heap.size w x) => unseal_any x bv L (hL.below hb) (hT.below hb)
  have HOK : Hid s.Ok := hide ⟨ho, hw⟩
  have HEN := hide (Sup.enc_len (s := s) ⟨ho, hw⟩)
  have n0 : (ej == 0) = false := by rw [beq_eq_false_iff_ne]; exact h0
  have n1 : (ej != 0) = true := by simp [bne, n0]
  have HU := hide hu
  clear hw ho hT hL hu
  unfold SealPost at HSE
  generalize s.size.toNat = na at *
  unfold Sup.val Sup.row at *
  go_enter Tryd.func5, Tryd.ntmps5
  go_wp2_with (first
    | (go_at_call 8; refine (HSE.out _ (HT.out.below HX.out.below)).mono ?_; rintro e w2 ⟨g, rfl, hr2, hb2⟩; have HX2 : Hid (Bx w w2 s) := hide (HX.out.below' hb2); have HL2 : Hid (BSl w2 (.slice (some ⟨g, 0, none⟩) na na) s.enc) := hide (by have hx := hr2.own.bsl; rw [HEN.out] at hx; exact hx); unfold gsl; clear hr2 hb2; have c0 : w2.cell? ⟨w.heap.size, 0, none⟩ = some (.int .u64 (s.seq : Int)) := HX2.out.cell 0; have c1 : w2.cell? ⟨w.heap.size, 1, none⟩ = some (.int .i64 s.blocks) := HX2.out.cell 1; have c2 : w2.cell? ⟨w.heap.size, 2, none⟩ = some (.int .i64 s.size) := HX2.out.cell 2; have c3 : w2.cell? ⟨w.heap.size, 3, none⟩ = some (.int .i64 s.slots) := HX2.out.cell 3; have c4 : w2.cell? ⟨w.heap.size, 4, none⟩ = some (.int .u64 (s.g0 : Int)) := HX2.out.cell 4; have c5 : w2.cell? ⟨w.heap.size, 5, none⟩ = some (.int .u64 (s.g1 : Int)) := HX2.out.cell 5; have c6 : w2.cell? ⟨w.heap.size, 6, none⟩ = some (.int .u64 (s.g2 : Int)) := HX2.out.cell 6; have c7 : w2.cell? ⟨w.heap.size, 7, none⟩ = some (.int .u64 (s.g3 : Int)) := HX2.out.cell 7; have c8 : w2.cell? ⟨w.heap.size, 8, none⟩ = some (.int .u32 (s.flags : Int)) := HX2.out.cell 8; have c9 : w2.cell? ⟨w.heap.size, 9, none⟩ = some (.int .i64 s.mark) := HX2.out.cell 9)
    | (go_at_call 9; refine (HLA.out _).mono ?_; rintro e w3 ⟨rfl, hb3⟩; have HX3 : Hid (Bx w w3 s) := hide (HX2.out.below' hb3); have HL3 := hide (HL2.out.below hb3); clear hb3)
    | (go_at_call 12; first
        | ((with_reducible refine (whole_yes _ _ s HOK.out HL3.out (HT.out.below HX3.out.below)).mono ?_); rintro e w4 ⟨rfl, hb4⟩; have HX4 : Hid (Bx w w4 s) := hide (HX3.out.below' hb4); clear hb4)
        | ((with_reducible refine (whole_yes _ _ sj HOJ.out (HVJ.out.below (HX5.out _).below) (HT.out.below (HX5.out _).below)).mono ?_); rintro e w6 ⟨rfl, hb6⟩; have HX6 : Hid (Bx w w6 s) := hide ((HX5.out _).below' hb6); clear hb6))
    | (go_at_call 10; refine (HUN.out _ HX4.out.below).mono ?_; rintro e w5 ⟨he, hb5⟩; rw [HU.out] at he; dsimp only [Sup.val, Sup.row] at he; subst he; have HX5 : Hid (∀ o, Bx w (w5.alloc o) s) := hide fun o => (HX4.out.below' hb5).below' ((Below.refl _ _).alloc (Nat.le_refl _) o); clear hb5))
  go_ret
  exact ⟨rfl, (HX5.out _).below⟩
set_option maxHeartbeats 1000000 in
theorem sealed_3 (w : World) (bv : Value) (L : List Nat) (hL : BSl w bv L) (s sj : Sup) (ej : Int) (hw : s.Wf) (hT : Tabs w) (ho : s.ok = false) (hu : uns L = (sj, 0))  : Calls Tryd.prog 5 #[bv, s.val] w fun e w' => e = .returned (.bool true) ∧ Below w.heap.size w w' := by
  have HX := hide (Bx.start w s)
  have HT := hide hT
  have HSE := hide (fun x => seal_no x s hw ho)
  have HLA := hide fun x => lawful_any x s hw
  rw [ho] at HLA
  have HV := hide hL
  have HUN := hide fun x (hb : Below w.heap.size w x) => unseal_any x bv L (hL.below hb) (hT.below hb)
  obtain ⟨hoj, hLj⟩ := uns_only (by obtain ⟨_, _, _, _, _, _, h, _⟩ := hL; exact h) hu
  have HOJ := hide hoj
  have HVJ : Hid (BSl w bv sj.enc) := hide (by rw [← hLj]; exact hL)
  clear hoj hLj
  have HU := hide hu
  clear hw ho hT hL hu
  unfold Sup.val Sup.row at *
  go_enter Tryd.func5, Tryd.ntmps5
  go_wp2_with (first
    | (go_at_call 8; refine (HSE.out _).mono ?_; rintro e w2 ⟨rfl, hb2⟩; have HX2 : Hid (Bx w w2 s) := hide (HX.out.below' hb2); clear hb2; have c0 : w2.cell? ⟨w.heap.size, 0, none⟩ = some (.int .u64 (s.seq : Int)) := HX2.out.cell 0; have c1 : w2.cell? ⟨w.heap.size, 1, none⟩ = some (.int .i64 s.blocks) := HX2.out.cell 1; have c2 : w2.cell? ⟨w.heap.size, 2, none⟩ = some (.int .i64 s.size) := HX2.out.cell 2; have c3 : w2.cell? ⟨w.heap.size, 3, none⟩ = some (.int .i64 s.slots) := HX2.out.cell 3; have c4 : w2.cell? ⟨w.heap.size, 4, none⟩ = some (.int .u64 (s.g0 : Int)) := HX2.out.cell 4; have c5 : w2.cell? ⟨w.heap.size, 5, none⟩ = some (.int .u64 (s.g1 : Int)) := HX2.out.cell 5; have c6 : w2.cell? ⟨w.heap.size, 6, none⟩ = some (.int .u64 (s.g2 : Int)) := HX2.out.cell 6; have c7 : w2.cell? ⟨w.heap.size, 7, none⟩ = some (.int .u64 (s.g3 : Int)) := HX2.out.cell 7; have c8 : w2.cell? ⟨w.heap.size, 8, none⟩ = some (.int .u32 (s.flags : Int)) := HX2.out.cell 8; have c9 : w2.cell? ⟨w.heap.size, 9, none⟩ = some (.int .i64 s.mark) := HX2.out.cell 9)
    | (go_at_call 9; refine (HLA.out _).mono ?_; rintro e w3 ⟨rfl, hb3⟩; have HX3 : Hid (Bx w w3 s) := hide (HX2.out.below' hb3); clear hb3)
    | (go_at_call 12; first
        | ((with_reducible refine (whole_yes _ _ s HOK.out HL3.out (HT.out.below HX3.out.below)).mono ?_); rintro e w4 ⟨rfl, hb4⟩; have HX4 : Hid (Bx w w4 s) := hide (HX3.out.below' hb4); clear hb4)
        | ((with_reducible refine (whole_yes _ _ sj HOJ.out (HVJ.out.below (HX5.out _).below) (HT.out.below (HX5.out _).below)).mono ?_); rintro e w6 ⟨rfl, hb6⟩; have HX6 : Hid (Bx w w6 s) := hide ((HX5.out _).below' hb6); clear hb6))
    | (go_at_call 10; refine (HUN.out _ HX3.out.below).mono ?_; rintro e w5 ⟨he, hb5⟩; rw [HU.out] at he; dsimp only [Sup.val, Sup.row] at he; subst he; have HX5 : Hid (∀ o, Bx w (w5.alloc o) s) := hide fun o => (HX3.out.below' hb5).below' ((Below.refl _ _).alloc (Nat.le_refl _) o); clear hb5))
  go_ret
  exact ⟨rfl, HX6.out.below⟩
set_option maxHeartbeats 1000000 in
theorem sealed_4 (w : World) (bv : Value) (L : List Nat) (hL : BSl w bv L) (s sj : Sup) (ej : Int) (hw : s.Wf) (hT : Tabs w) (ho : s.ok = false) (hu : uns L = (sj, ej)) (h0 : ¬ ej = 0) : Calls Tryd.prog 5 #[bv, s.val] w fun e w' => e = .returned (.bool true) ∧ Below w.heap.size w w' := by
  have HX := hide (Bx.start w s)
  have HT := hide hT
  have HSE := hide (fun x => seal_no x s hw ho)
  have HLA := hide fun x => lawful_any x s hw
  rw [ho] at HLA
  have HV := hide hL
  have HUN := hide fun x (hb : Below w.heap.size w x) => unseal_any x bv L (hL.below hb) (hT.below hb)
  have n0 : (ej == 0) = false := by rw [beq_eq_false_iff_ne]; exact h0
  have n1 : (ej != 0) = true := by simp [bne, n0]
  have HU := hide hu
  clear hw ho hT hL hu
  unfold Sup.val Sup.row at *
  go_enter Tryd.func5, Tryd.ntmps5
  go_wp2_with (first
    | (go_at_call 8; refine (HSE.out _).mono ?_; rintro e w2 ⟨rfl, hb2⟩; have HX2 : Hid (Bx w w2 s) := hide (HX.out.below' hb2); clear hb2; have c0 : w2.cell? ⟨w.heap.size, 0, none⟩ = some (.int .u64 (s.seq : Int)) := HX2.out.cell 0; have c1 : w2.cell? ⟨w.heap.size, 1, none⟩ = some (.int .i64 s.blocks) := HX2.out.cell 1; have c2 : w2.cell? ⟨w.heap.size, 2, none⟩ = some (.int .i64 s.size) := HX2.out.cell 2; have c3 : w2.cell? ⟨w.heap.size, 3, none⟩ = some (.int .i64 s.slots) := HX2.out.cell 3; have c4 : w2.cell? ⟨w.heap.size, 4, none⟩ = some (.int .u64 (s.g0 : Int)) := HX2.out.cell 4; have c5 : w2.cell? ⟨w.heap.size, 5, none⟩ = some (.int .u64 (s.g1 : Int)) := HX2.out.cell 5; have c6 : w2.cell? ⟨w.heap.size, 6, none⟩ = some (.int .u64 (s.g2 : Int)) := HX2.out.cell 6; have c7 : w2.cell? ⟨w.heap.size, 7, none⟩ = some (.int .u64 (s.g3 : Int)) := HX2.out.cell 7; have c8 : w2.cell? ⟨w.heap.size, 8, none⟩ = some (.int .u32 (s.flags : Int)) := HX2.out.cell 8; have c9 : w2.cell? ⟨w.heap.size, 9, none⟩ = some (.int .i64 s.mark) := HX2.out.cell 9)
    | (go_at_call 9; refine (HLA.out _).mono ?_; rintro e w3 ⟨rfl, hb3⟩; have HX3 : Hid (Bx w w3 s) := hide (HX2.out.below' hb3); clear hb3)
    | (go_at_call 12; first
        | ((with_reducible refine (whole_yes _ _ s HOK.out HL3.out (HT.out.below HX3.out.below)).mono ?_); rintro e w4 ⟨rfl, hb4⟩; have HX4 : Hid (Bx w w4 s) := hide (HX3.out.below' hb4); clear hb4)
        | ((with_reducible refine (whole_yes _ _ sj HOJ.out (HVJ.out.below (HX5.out _).below) (HT.out.below (HX5.out _).below)).mono ?_); rintro e w6 ⟨rfl, hb6⟩; have HX6 : Hid (Bx w w6 s) := hide ((HX5.out _).below' hb6); clear hb6))
    | (go_at_call 10; refine (HUN.out _ HX3.out.below).mono ?_; rintro e w5 ⟨he, hb5⟩; rw [HU.out] at he; dsimp only [Sup.val, Sup.row] at he; subst he; have HX5 : Hid (∀ o, Bx w (w5.alloc o) s) := hide fun o => (HX3.out.below' hb5).below' ((Below.refl _ _).alloc (Nat.le_refl _) o); clear hb5))
  go_ret
  exact ⟨rfl, (HX5.out _).below⟩
theorem sealedLaw (w : World) (bv : Value) (L : List Nat) (hL : BSl w bv L) (s : Sup) (hw : s.Wf) (hT : Tabs w) : Calls Tryd.prog 5 #[bv, s.val] w fun e w' => e = .returned (.bool true) ∧ Below w.heap.size w w' := by
  obtain ⟨sj, ej, hu⟩ : ∃ sj ej, uns L = (sj, ej) := ⟨_, _, rfl⟩
  by_cases h0 : ej = 0
  · subst h0
    cases ho : s.ok with
    | true => exact sealed_1 w bv L hL s sj 0 hw hT ho hu
    | false => exact sealed_3 w bv L hL s sj 0 hw hT ho hu
  · cases ho : s.ok with
    | true => exact sealed_2 w bv L hL s sj ej hw hT ho hu h0
    | false => exact sealed_4 w bv L hL s sj ej hw hT ho hu h0
end Go.Proofs.YtkjaaknlhmneoabDoor
