import Derived.Test.YtkjaaknlhmneoabDoorMtLaw0
namespace Go.Proofs.YtkjaaknlhmneoabDoor
open Go.RowKit Go.Lib
set_option linter.unusedVariables false
set_option linter.unusedSimpArgs false
set_option maxRecDepth 20000

theorem Bx.start (w : World) (s : Sup) : Bx w (w.alloc (.cells s.row 27)) s := ⟨Below.refl _ _⟩
theorem Bx.below' {w wr w' : World} {s : Sup} (h : Bx w wr s) (k : Below wr.heap.size wr w') : Bx w w' s := h.trans (k.mono h.size)
set_option maxHeartbeats 2000000 in
theorem round_no (w : World) (s : Sup) (hw : s.Wf) (ho : s.ok = false) (hT : Tabs w) : Calls Tryd.prog 3 #[s.val] w fun e w' => e = .returned (.bool true) ∧ Below w.heap.size w w' := by
  have HX := hide (Bx.start w s)
  have HS := hide fun x => seal_no x s hw ho
  have HL := hide fun x => lawful_any x s hw
  rw [ho] at HL
  clear hw ho hT
  unfold Sup.val Sup.row at *
  go_enter Tryd.func3, Tryd.ntmps3
  go_wp2_with (first
    | (go_at_call 8; refine (HS.out _).mono ?_; rintro e w2 ⟨rfl, hb2⟩; have HX2 : Hid (Bx w w2 s) := hide (HX.out.below' hb2); clear hb2; have c0 : w2.cell? ⟨w.heap.size, 0, none⟩ = some (.int .u64 (s.seq : Int)) := HX2.out.cell 0; have c1 : w2.cell? ⟨w.heap.size, 1, none⟩ = some (.int .i64 s.blocks) := HX2.out.cell 1; have c2 : w2.cell? ⟨w.heap.size, 2, none⟩ = some (.int .i64 s.size) := HX2.out.cell 2; have c3 : w2.cell? ⟨w.heap.size, 3, none⟩ = some (.int .i64 s.slots) := HX2.out.cell 3; have c4 : w2.cell? ⟨w.heap.size, 4, none⟩ = some (.int .u64 (s.g0 : Int)) := HX2.out.cell 4; have c5 : w2.cell? ⟨w.heap.size, 5, none⟩ = some (.int .u64 (s.g1 : Int)) := HX2.out.cell 5; have c6 : w2.cell? ⟨w.heap.size, 6, none⟩ = some (.int .u64 (s.g2 : Int)) := HX2.out.cell 6; have c7 : w2.cell? ⟨w.heap.size, 7, none⟩ = some (.int .u64 (s.g3 : Int)) := HX2.out.cell 7; have c8 : w2.cell? ⟨w.heap.size, 8, none⟩ = some (.int .u32 (s.flags : Int)) := HX2.out.cell 8; have c9 : w2.cell? ⟨w.heap.size, 9, none⟩ = some (.int .i64 s.mark) := HX2.out.cell 9)
    | (go_at_call 9; refine (HL.out _).mono ?_; rintro e w3 ⟨rfl, hb3⟩; have HX3 : Hid (Bx w w3 s) := hide (HX2.out.below' hb3); clear hb3))
  go_ret
  exact ⟨rfl, HX3.out.below⟩
theorem Sup.Ok.parts {s : Sup} (h : s.Ok) : ∃ (q nz g0 g1 g2 g3 f : Nat) (b k m : Int), s = ⟨q, b, nz, k, g0, g1, g2, g3, f, m⟩ ∧ 128 ≤ nz ∧ nz ≤ 1024 ∧ s.size.toNat = nz ∧ s.val = .agg #[.int .u64 (q : Int), .int .i64 b, .int .i64 (nz : Int), .int .i64 k, .int .u64 (g0 : Int), .int .u64 (g1 : Int), .int .u64 (g2 : Int), .int .u64 (g3 : Int), .int .u32 (f : Int), .int .i64 m] ∧ s.row = #[.int .u64 (q : Int), .int .i64 b, .int .i64 (nz : Int), .int .i64 k, .int .u64 (g0 : Int), .int .u64 (g1 : Int), .int .u64 (g2 : Int), .int .u64 (g3 : Int), .int .u32 (f : Int), .int .i64 m] := by
  obtain ⟨ho, -⟩ := h
  obtain ⟨q, b, z, k, g0, g1, g2, g3, f, m⟩ := s
  have hz : okSz z = true := by simp only [Sup.ok, Bool.and_eq_true] at ho; exact ho.1.1.1.2
  have hp := okSz_pos hz
  have hzz : z = (z.toNat : Int) := by omega
  refine ⟨q, z.toNat, g0, g1, g2, g3, f, b, k, m, ?_, by omega, by omega, rfl, ?_, ?_⟩
  · rw [← hzz]
  · rw [← hzz]; rfl
  · rw [← hzz]; rfl
set_option maxHeartbeats 2000000 in
theorem round_yes (w : World) (s : Sup) (hw : s.Wf) (ho : s.ok = true) (hT : Tabs w) : Calls Tryd.prog 3 #[s.val] w fun e w' => e = .returned (.bool true) ∧ Below w.heap.size w w' := by
  have HX := hide (Bx.start w s)
  have HT := hide hT
  have HS := hide fun x hx => seal_yes x s hw ho hx
  have HL := hide fun x => lawful_any x s hw
  rw [ho] at HL
  have hOk : s.Ok := ⟨ho, hw⟩
  have HEN := hide (Sup.enc_len hOk)
  have HU := hide (uns_enc hOk)
  obtain ⟨q, nz, g0, g1, g2, g3, f, b, k, m, hs, hn1, hn2, hnt, hv, hr⟩ := hOk.parts
  have HC : Hid (∀ w1, Bx w w1 s → ∀ j, w1.cell? ⟨w.heap.size, j, none⟩ = (#[.int .u64 (q : Int), .int .i64 b, .int .i64 (nz : Int), .int .i64 k, .int .u64 (g0 : Int), .int .u64 (g1 : Int), .int .u64 (g2 : Int), .int .u64 (g3 : Int), .int .u32 (f : Int), .int .i64 m] : Array Value)[j]?) := hide fun w1 h j => by rw [h.cell j, hr]
  have HVV : Hid (uns s.enc = (s, 0)) := hide HU.out
  rw [hnt] at HEN
  have HNT := hide hnt
  have HV := hide hv
  rw [hv] at HS HL ⊢
  rw [hr] at HX
  have hne : ¬ (nz = 0) := by omega
  clear hw ho hT hOk hnt hs hv hr HU
  go_enter Tryd.func3, Tryd.ntmps3
  go_wp2_with (first
    | (go_at_call 8; refine (HS.out _ (HT.out.below HX.out.below)).mono ?_; rintro e w2 ⟨g, rfl, hr, hb2⟩; have HX2 : Hid (Bx w w2 s) := hide (HX.out.below' hb2); rw [HNT.out] at hr ⊢; have HR2 := hide hr; unfold gsl; clear hb2 hr; have c0 : w2.cell? ⟨w.heap.size, 0, none⟩ = some (.int .u64 (q : Int)) := HC.out _ HX2.out 0; have c1 : w2.cell? ⟨w.heap.size, 1, none⟩ = some (.int .i64 b) := HC.out _ HX2.out 1; have c2 : w2.cell? ⟨w.heap.size, 2, none⟩ = some (.int .i64 (nz : Int)) := HC.out _ HX2.out 2; have c3 : w2.cell? ⟨w.heap.size, 3, none⟩ = some (.int .i64 k) := HC.out _ HX2.out 3; have c4 : w2.cell? ⟨w.heap.size, 4, none⟩ = some (.int .u64 (g0 : Int)) := HC.out _ HX2.out 4; have c5 : w2.cell? ⟨w.heap.size, 5, none⟩ = some (.int .u64 (g1 : Int)) := HC.out _ HX2.out 5; have c6 : w2.cell? ⟨w.heap.size, 6, none⟩ = some (.int .u64 (g2 : Int)) := HC.out _ HX2.out 6; have c7 : w2.cell? ⟨w.heap.size, 7, none⟩ = some (.int .u64 (g3 : Int)) := HC.out _ HX2.out 7; have c8 : w2.cell? ⟨w.heap.size, 8, none⟩ = some (.int .u32 (f : Int)) := HC.out _ HX2.out 8; have c9 : w2.cell? ⟨w.heap.size, 9, none⟩ = some (.int .i64 m) := HC.out _ HX2.out 9)
    | (go_at_call 9; refine (HL.out _).mono ?_; rintro e w3 ⟨rfl, hb3⟩; have HX3 : Hid (Bx w w3 s) := hide (HX2.out.below' hb3); have HV3 : Hid (BSl w3 (.slice (some ⟨g, 0, none⟩) nz nz) s.enc) := hide (by have hx := (HR2.out.kept hb3).own.bsl; rw [HEN.out] at hx; exact hx); have d2 : w3.cell? ⟨w.heap.size, 2, none⟩ = some (.int .i64 (nz : Int)) := HC.out _ HX3.out 2; clear hb3 c0 c1 c2 c3 c4 c5 c6 c7 c8 c9)
    | (go_at_call 10; refine (unseal_any _ _ s.enc HV3.out (HT.out.below HX3.out.below)).mono ?_; rintro e w4 ⟨he4, hb4⟩; rw [HVV.out] at he4; dsimp only at he4; rw [HV.out] at he4; subst he4; have HX4 : Hid (Bx w w4 s) := hide (HX3.out.below' hb4); have HX5 : Hid (∀ o, Bx w (w4.alloc o) s) := hide fun o => HX4.out.below' ((Below.refl _ _).alloc (Nat.le_refl _) o); clear hb4 d2; have e0 : ∀ o, (w4.alloc o).cell? ⟨w.heap.size, 0, none⟩ = some (.int .u64 (q : Int)) := fun o => HC.out _ (HX5.out o) 0; have e1 : ∀ o, (w4.alloc o).cell? ⟨w.heap.size, 1, none⟩ = some (.int .i64 b) := fun o => HC.out _ (HX5.out o) 1; have e2 : ∀ o, (w4.alloc o).cell? ⟨w.heap.size, 2, none⟩ = some (.int .i64 (nz : Int)) := fun o => HC.out _ (HX5.out o) 2; have e3 : ∀ o, (w4.alloc o).cell? ⟨w.heap.size, 3, none⟩ = some (.int .i64 k) := fun o => HC.out _ (HX5.out o) 3; have e4 : ∀ o, (w4.alloc o).cell? ⟨w.heap.size, 4, none⟩ = some (.int .u64 (g0 : Int)) := fun o => HC.out _ (HX5.out o) 4; have e5 : ∀ o, (w4.alloc o).cell? ⟨w.heap.size, 5, none⟩ = some (.int .u64 (g1 : Int)) := fun o => HC.out _ (HX5.out o) 5; have e6 : ∀ o, (w4.alloc o).cell? ⟨w.heap.size, 6, none⟩ = some (.int .u64 (g2 : Int)) := fun o => HC.out _ (HX5.out o) 6; have e7 : ∀ o, (w4.alloc o).cell? ⟨w.heap.size, 7, none⟩ = some (.int .u64 (g3 : Int)) := fun o => HC.out _ (HX5.out o) 7; have e8 : ∀ o, (w4.alloc o).cell? ⟨w.heap.size, 8, none⟩ = some (.int .u32 (f : Int)) := fun o => HC.out _ (HX5.out o) 8; have e9 : ∀ o, (w4.alloc o).cell? ⟨w.heap.size, 9, none⟩ = some (.int .i64 m) := fun o => HC.out _ (HX5.out o) 9))
  go_ret
  exact ⟨rfl, (HX5.out _).below⟩
theorem roundLaw (w : World) (s : Sup) (hw : s.Wf) (hT : Tabs w) : Calls Tryd.prog 3 #[s.val] w fun e w' => e = .returned (.bool true) ∧ Below w.heap.size w w' := by
  cases ho : s.ok with
  | true => exact round_yes w s hw ho hT
  | false => exact round_no w s hw ho hT
end Go.Proofs.YtkjaaknlhmneoabDoor
