import Derived.Test.YtnjlbkbhlcccmaaDoorBStep
namespace Go.Proofs.YtnjlbkbhlcccmaaDoor
open Go.RowKit Go.Shelf
set_option linter.unusedVariables false
set_option linter.unusedSimpArgs false
set_option maxRecDepth 20000

set_option maxHeartbeats 2000000 in
theorem made_new_some_g {w : World} {mv : Value} {l : List Nat} {k : Nat} (hv : WSl w mv l) (hr : l.length ≤ 17592186044416)
    (n : Nat) (h1 : 1 ≤ n) (h2 : n ≤ 65536) :
    Calls Tryd.prog 5 #[.agg #[.bool false, .int .i64 (n : Int), mv], .pointer (some ⟨k, 0, none⟩)] w fun e w' => e = .returned (.tuple #[.pointer (some ⟨w.heap.size + 1, 0, none⟩), .bool true]) ∧ Below w.heap.size w w' ∧ ∃ L R, Pr w' (w.heap.size + 1) k L R n 0 ∧ ∀ b, PU (w.heap.size + 1) L R b → w.heap.size ≤ b := by
  have q1 := pbmNil
  have q2 := pbmSome
  have q3 := prbmNil
  have q4 := prbmSome
  have HV := hide hv
  have HM := hide (MS.start w #[.bool false, .int .i64 (n : Int), mv] #[.pointer none, .pointer none, .pointer (some ⟨k, 0, none⟩)])
  obtain ⟨a, cap, rfl, g1, g2, g3, g4, g5⟩ := hv
  clear g4 g5 g3
  unfold maxLen at g2
  have HF : Hid (∀ x, Calls Tryd.prog 14 #[.int .i64 (n : Int)] x fun e w' => ∃ L, e = .returned (.tuple #[PB L, .int .i64 0]) ∧ BNewAt x w' L n 0) := hide fun x => New_any x n h1 h2
  have HR : Hid (∀ x, Calls Tryd.prog 15 #[.int .i64 (n : Int)] x fun e w' => ∃ R, e = .returned (.tuple #[PR R, .int .i64 0]) ∧ RNewAt x w' R n 0) := hide fun x => rNew_any x n h1 h2
  have HLN : Hid (l.length + 3 ≤ maxLen) := hide (by unfold maxLen; omega)
  have HLR := hide hr
  generalize hlen : l.length = len at *
  have HLEN := hide hlen
  clear hlen
  go_enter Tryd.func5, Tryd.ntmps5
  go_wp2_with (first
    | (go_at_call 14; refine (HF.out _).mono ?_; rintro e w4 ⟨L, rfl, hL⟩; have HL := hide hL; have HM4 := hide (HM.out.below hL.2.1); unfold PB; clear hL; have p0 : w4.cell? ⟨w.heap.size + 1, 0, none⟩ = _ := HM4.out.cp 0; have f0 := HM4.out.fp 0; have HM5 := hide (HM4.out.set 0 (.pointer (some ⟨L.p, 0, none⟩))); have a5 : (w4.setCell ⟨w.heap.size + 1, 0, none⟩ (.pointer (some ⟨L.p, 0, none⟩))).cell? ⟨w.heap.size, 1, none⟩ = _ := HM5.out.ca 1; have a6 : (w4.setCell ⟨w.heap.size + 1, 0, none⟩ (.pointer (some ⟨L.p, 0, none⟩))).cell? ⟨w.heap.size, 2, none⟩ = _ := HM5.out.ca 2)
    | (go_at_call 15; refine (HR.out _).mono ?_; rintro e w6 ⟨R, rfl, hR⟩; have HRR := hide hR; have HM6 := hide (HM5.out.below hR.2.1); unfold PR; clear hR; have p1 : w6.cell? ⟨w.heap.size + 1, 1, none⟩ = _ := HM6.out.cp 1; have f1 := HM6.out.fp 1; have HM7 := hide (HM6.out.set 1 (.pointer (some ⟨R.p, 0, none⟩))); have a7 : (w6.setCell ⟨w.heap.size + 1, 1, none⟩ (.pointer (some ⟨R.p, 0, none⟩))).cell? ⟨w.heap.size, 2, none⟩ = _ := HM7.out.ca 2; have s0 : (w6.setCell ⟨w.heap.size + 1, 1, none⟩ (.pointer (some ⟨R.p, 0, none⟩))).cell? ⟨w.heap.size + 1, 0, none⟩ = _ := HM7.out.cp 0; have s1 : (w6.setCell ⟨w.heap.size + 1, 1, none⟩ (.pointer (some ⟨R.p, 0, none⟩))).cell? ⟨w.heap.size + 1, 1, none⟩ = _ := HM7.out.cp 1))
  have HPR : Hid (Pr (w6.setCell ⟨w.heap.size + 1, 1, none⟩ (.pointer (some ⟨R.p, 0, none⟩))) (w.heap.size + 1) k L R n 0 ∧ ∀ b, PU (w.heap.size + 1) L R b → w.heap.size ≤ b) := hide (by
    have hl3 := HM.out.lt
    have hs4 := HL.out.2.1.size
    have hL := HL.out.2.2
    have hR := HRR.out.2.2
    have e5 : (w4.setCell ⟨w.heap.size + 1, 0, none⟩ (.pointer (some ⟨L.p, 0, none⟩))).heap.size = w4.heap.size := by simp [World.setCell]
    have b8 := ((HL.out.1.setOther (i := 0) (u := (.pointer (some ⟨L.p, 0, none⟩))) (b := w.heap.size + 1) (fun x hx => by have := hL x hx; omega)).below HRR.out.2.1).setOther (i := 1) (u := (.pointer (some ⟨R.p, 0, none⟩))) (b := w.heap.size + 1) (fun x hx => by have := hL x hx; omega)
    have r8 := HRR.out.1.setOther (i := 1) (u := (.pointer (some ⟨R.p, 0, none⟩))) (b := w.heap.size + 1) (fun x hx => by have := hR x hx; omega)
    refine ⟨⟨HM7.out.p, b8, r8⟩, ?_⟩
    rintro b (rfl | hb | hb)
    · omega
    · have := hL b hb; omega
    · have := hR b hb; omega)
  have HFIN := hide (And.intro (HM7.out.be) HM7.out.p)
  go_quiet (fail)
  go_wp2_with fail
  go_ret2
  exact ⟨rfl, HFIN.out.1.trans (((Qt.refl _).drewN _).2.mono HFIN.out.1.size), L, R, HPR.out.1.below ((Qt.refl _).drewN _).2, HPR.out.2⟩
set_option maxHeartbeats 2000000 in
theorem made_new_no_g {w : World} {mv : Value} {l : List Nat} {k : Nat} (hv : WSl w mv l) (hr : l.length ≤ 17592186044416)
    (n er : Int) (hF : ∀ x, Calls Tryd.prog 14 #[.int .i64 n] x fun e x' => e = .returned (.tuple #[.pointer none, .int .i64 er]) ∧ Below x.heap.size x x') (hR : ∀ x, Calls Tryd.prog 15 #[.int .i64 n] x fun e x' => e = .returned (.tuple #[.pointer none, .int .i64 er]) ∧ x' = x) :
    Calls Tryd.prog 5 #[.agg #[.bool false, .int .i64 n, mv], .pointer (some ⟨k, 0, none⟩)] w fun e w' => e = .returned (.tuple #[.pointer (some ⟨w.heap.size + 1, 0, none⟩), .bool true]) ∧ Below w.heap.size w w' ∧ w'.cell? ⟨w.heap.size + 1, 0, none⟩ = some (.pointer none) := by
  have q1 := pbmNil
  have q2 := pbmSome
  have q3 := prbmNil
  have q4 := prbmSome
  have HV := hide hv
  have HM := hide (MS.start w #[.bool false, .int .i64 n, mv] #[.pointer none, .pointer none, .pointer (some ⟨k, 0, none⟩)])
  obtain ⟨a, cap, rfl, g1, g2, g3, g4, g5⟩ := hv
  clear g4 g5 g3
  unfold maxLen at g2
  have HF := hide hF
  have HR := hide hR
  clear hF hR
  have HLN : Hid (l.length + 3 ≤ maxLen) := hide (by unfold maxLen; omega)
  have HLR := hide hr
  generalize hlen : l.length = len at *
  have HLEN := hide hlen
  clear hlen
  go_enter Tryd.func5, Tryd.ntmps5
  go_wp2_with (first
    | (go_at_call 14; refine (HF.out _).mono ?_; rintro e w4 ⟨rfl, hL⟩; have HL := hide hL; have HM4 := hide (HM.out.below hL); clear hL; have p0 : w4.cell? ⟨w.heap.size + 1, 0, none⟩ = _ := HM4.out.cp 0; have f0 := HM4.out.fp 0; have HM5 := hide (HM4.out.set 0 (.pointer none)); have a5 : (w4.setCell ⟨w.heap.size + 1, 0, none⟩ (.pointer none)).cell? ⟨w.heap.size, 1, none⟩ = _ := HM5.out.ca 1; have a6 : (w4.setCell ⟨w.heap.size + 1, 0, none⟩ (.pointer none)).cell? ⟨w.heap.size, 2, none⟩ = _ := HM5.out.ca 2)
    | (go_at_call 15; refine (HR.out _).mono ?_; rintro e w6 ⟨rfl, hR⟩; have hb6 : Below (w4.setCell ⟨w.heap.size + 1, 0, none⟩ (.pointer none)).heap.size (w4.setCell ⟨w.heap.size + 1, 0, none⟩ (.pointer none)) w6 := hR ▸ Below.refl _ _; have HM6 := hide (HM5.out.below hb6); clear hR; have p1 : w6.cell? ⟨w.heap.size + 1, 1, none⟩ = _ := HM6.out.cp 1; have f1 := HM6.out.fp 1; have HM7 := hide (HM6.out.set 1 (.pointer none)); have a7 : (w6.setCell ⟨w.heap.size + 1, 1, none⟩ (.pointer none)).cell? ⟨w.heap.size, 2, none⟩ = _ := HM7.out.ca 2; have s0 : (w6.setCell ⟨w.heap.size + 1, 1, none⟩ (.pointer none)).cell? ⟨w.heap.size + 1, 0, none⟩ = _ := HM7.out.cp 0; have s1 : (w6.setCell ⟨w.heap.size + 1, 1, none⟩ (.pointer none)).cell? ⟨w.heap.size + 1, 1, none⟩ = _ := HM7.out.cp 1))
  have HFIN := hide (And.intro (HM7.out.be) HM7.out.p)
  go_quiet (fail)
  go_wp2_with fail
  go_ret2
  exact ⟨rfl, HFIN.out.1.trans (((Qt.refl _).drewN _).2.mono HFIN.out.1.size), ((((Qt.refl _).drewN _).2.cell (p := ⟨w.heap.size + 1, 0, none⟩) (Array.getElem?_eq_some_iff.1 HFIN.out.2).1).trans (by rw [cell_of_row _ _ _ _ _ _ HFIN.out.2]; rfl))⟩
end Go.Proofs.YtnjlbkbhlcccmaaDoor
