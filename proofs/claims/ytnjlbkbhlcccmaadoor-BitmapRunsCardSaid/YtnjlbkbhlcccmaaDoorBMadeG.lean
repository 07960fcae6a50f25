import Derived.Test.YtnjlbkbhlcccmaaDoorBAskG
namespace Go.Proofs.YtnjlbkbhlcccmaaDoor
open Go.RowKit Go.Shelf
set_option linter.unusedVariables false
set_option linter.unusedSimpArgs false
set_option maxRecDepth 20000

set_option maxHeartbeats 2000000 in
theorem made_from_some_g {KP : World → Value → World → Prop} {w : World} {mv : Value} {l : List Nat} {k : Nat} (hv : WSl w mv l) (hr : l.length ≤ 17592186044416) (hk : k < w.heap.size) (hQ : ∀ x v y j, KP x v y → KP x v (y.drewN j))
    (hK : ∀ x v, Below w.heap.size w x → Cp (w.heap.size + 2) x v l → Calls Tryd.prog 13 #[.pointer (some ⟨k, 0, none⟩), v] x fun e w' => e = .returned (.tuple #[]) ∧ KP x v w' ∧ Chg (fun b => b < w.heap.size ∨ v.ownBlock = some b) x w')
    (n : Nat) (h1 : 1 ≤ n) (h2 : n ≤ 65536) (he : cwErr n l = 0) :
    Calls Tryd.prog 5 #[.agg #[.bool true, .int .i64 (n : Int), mv], .pointer (some ⟨k, 0, none⟩)] w fun e w' => e = .returned (.tuple #[.pointer (some ⟨w.heap.size + 1, 0, none⟩), .bool true]) ∧ ∃ x v, Below w.heap.size w x ∧ w.heap.size + 1 < x.heap.size ∧ Cp (w.heap.size + 2) x v l ∧ KP x v w' ∧ Chg (fun b => b < w.heap.size ∨ v.ownBlock = some b) x w' ∧ ∃ L R, Pr w' (w.heap.size + 1) k L R n (valW l) ∧ ∀ b, PU (w.heap.size + 1) L R b → w.heap.size ≤ b ∧ b < x.heap.size ∧ v.ownBlock ≠ some b := by
  have q1 := pbmNil
  have q2 := pbmSome
  have q3 := prbmNil
  have q4 := prbmSome
  have HV := hide hv
  have HKK := hide hK
  have HM := hide (MS.start w #[.bool true, .int .i64 (n : Int), mv] #[.pointer none, .pointer none, .pointer (some ⟨k, 0, none⟩)])
  have HC : Hid (∀ x, Below w.heap.size w x → Calls Tryd.prog 9 #[mv] x fun e w' => ∃ v', e = .returned v' ∧ (v' = .slice none 0 0 → mv = .slice none 0 0) ∧ Cp x.heap.size w' v' l ∧ WSl w' v' l ∧ Below x.heap.size x w') := hide fun x hx => copied_full (hv.below hx) hr
  obtain ⟨a, cap, rfl, g1, g2, g3, g4, g5⟩ := hv
  clear g4 g5 g3 hK
  unfold maxLen at g2
  have HF : Hid (∀ x v, WSl x v l → Calls Tryd.prog 10 #[.int .i64 (n : Int), v] x fun e w' => ∃ L, e = .returned (.tuple #[PB L, .int .i64 0]) ∧ BNewAt x w' L n (valW l)) := hide fun x v hx => From_any n h1 h2 hx he
  have HR : Hid (∀ x v, WSl x v l → Calls Tryd.prog 11 #[.int .i64 (n : Int), v] x fun e w' => ∃ R, e = .returned (.tuple #[PR R, .int .i64 0]) ∧ RNewAt x w' R n (valW l)) := hide fun x v hx => rFrom_any n h1 h2 hx he
  generalize valW l = V at *
  clear he
  have HLN : Hid (l.length + 3 ≤ maxLen) := hide (by unfold maxLen; omega)
  have HLR := hide hr
  generalize hlen : l.length = len at *
  have HLEN := hide hlen
  clear hlen
  go_enter Tryd.func5, Tryd.ntmps5
  go_wp2_with (first
    | (go_at_call 9; refine (HC.out _ HM.out.be).mono ?_; rintro e w3 ⟨v', rfl, hnil, hcp, hws, hbe⟩; have HNIL := hide hnil; have HCP := hide hcp; have HM3 := hide (HM.out.below hbe); obtain ⟨av, cv, ev, -⟩ := hws; rw [HLEN.out] at ev; subst ev; have a1 : w3.cell? ⟨w.heap.size, 1, none⟩ = _ := HM3.out.ca 1; have HWS := hide (HCP.out.wsl HV.out.lt (by rw [HLEN.out]; exact HLN.out)); clear hnil hcp hbe)
    | (go_at_call 10; refine (HF.out _ _ HWS.out).mono ?_; rintro e w4 ⟨L, rfl, hL⟩; have HL := hide hL; have HM4 := hide (HM3.out.below hL.2.1); unfold PB; clear hL; have p0 : w4.cell? ⟨w.heap.size + 1, 0, none⟩ = _ := HM4.out.cp 0; have f0 := HM4.out.fp 0; have HM5 := hide (HM4.out.set 0 (.pointer (some ⟨L.p, 0, none⟩))); have a5 : (w4.setCell ⟨w.heap.size + 1, 0, none⟩ (.pointer (some ⟨L.p, 0, none⟩))).cell? ⟨w.heap.size, 1, none⟩ = _ := HM5.out.ca 1; have a6 : (w4.setCell ⟨w.heap.size + 1, 0, none⟩ (.pointer (some ⟨L.p, 0, none⟩))).cell? ⟨w.heap.size, 2, none⟩ = _ := HM5.out.ca 2)
    | (go_at_call 11; refine (HR.out _ _ (HV.out.below HM5.out.be)).mono ?_; rintro e w6 ⟨R, rfl, hR⟩; have HRR := hide hR; have HM6 := hide (HM5.out.below hR.2.1); unfold PR; clear hR; have p1 : w6.cell? ⟨w.heap.size + 1, 1, none⟩ = _ := HM6.out.cp 1; have f1 := HM6.out.fp 1; have HM7 := hide (HM6.out.set 1 (.pointer (some ⟨R.p, 0, none⟩))); have a7 : (w6.setCell ⟨w.heap.size + 1, 1, none⟩ (.pointer (some ⟨R.p, 0, none⟩))).cell? ⟨w.heap.size, 2, none⟩ = _ := HM7.out.ca 2; have s0 : (w6.setCell ⟨w.heap.size + 1, 1, none⟩ (.pointer (some ⟨R.p, 0, none⟩))).cell? ⟨w.heap.size + 1, 0, none⟩ = _ := HM7.out.cp 0; have s1 : (w6.setCell ⟨w.heap.size + 1, 1, none⟩ (.pointer (some ⟨R.p, 0, none⟩))).cell? ⟨w.heap.size + 1, 1, none⟩ = _ := HM7.out.cp 1; have HCP7 := hide (((HCP.out.below HL.out.2.1).set (i := 0) (u := (.pointer (some ⟨L.p, 0, none⟩))) (b := w.heap.size + 1) (by simp)).below HRR.out.2.1 |>.set (i := 1) (u := (.pointer (some ⟨R.p, 0, none⟩))) (b := w.heap.size + 1) (by simp)); have HI := hide (intact_any HCP7.out (HV.out.below HM7.out.be) HNIL.out (by rw [HLEN.out]; exact HLR.out)))
    | (go_at_call 12; refine (HI.out).mono ?_; rintro e w8 ⟨rfl, hb8⟩; have HB8 := hide hb8; have HM8 := hide (HM7.out.below hb8); clear hb8; have HCP8 := hide (HCP7.out.below HB8.out); have HCP8' : Hid (Cp (w.heap.size + 2) w8 _ l) := hide (by have := HCP8.out; simpa only [World.size_alloc] using this); have HK := hide (HKK.out _ _ HM8.out.be HCP8'.out))
    | (go_at_call 13; refine (HK.out).mono ?_; rintro e w9 ⟨rfl, hKp, hCh⟩; have HKP := hide hKp; have HCH := hide hCh; clear hKp hCh; have hfin2 : w9.heap[w.heap.size + 1]? = _ := (HCH.out.keep _ HM8.out.lt (by rintro (e | e); (· omega); (· have := HCP8'.out.own _ e; omega))).trans HM8.out.p; have t0 : w9.cell? ⟨w.heap.size + 1, 0, none⟩ = some (.pointer (some ⟨L.p, 0, none⟩)) := (by rw [cell_of_row _ _ _ _ _ _ hfin2]; rfl); have t1 : w9.cell? ⟨w.heap.size + 1, 1, none⟩ = some (.pointer (some ⟨R.p, 0, none⟩)) := (by rw [cell_of_row _ _ _ _ _ _ hfin2]; rfl); have HFIN := hide hfin2; clear hfin2))
  have HPR : Hid (Pr w9 (w.heap.size + 1) k L R n V ∧ ∀ b, PU (w.heap.size + 1) L R b → w.heap.size ≤ b ∧ b < w8.heap.size ∧ ¬ (Value.slice av len cv).ownBlock = some b) := hide (by
    have hl3 := HM3.out.lt
    have hs4 := HL.out.2.1.size
    have hL := HL.out.2.2
    have hR := HRR.out.2.2
    have e5 : (w4.setCell ⟨w.heap.size + 1, 0, none⟩ (.pointer (some ⟨L.p, 0, none⟩))).heap.size = w4.heap.size := by simp [World.setCell]
    have b8 := (((HL.out.1.setOther (i := 0) (u := (.pointer (some ⟨L.p, 0, none⟩))) (b := w.heap.size + 1) (fun x hx => by have := hL x hx; omega)).below HRR.out.2.1).setOther (i := 1) (u := (.pointer (some ⟨R.p, 0, none⟩))) (b := w.heap.size + 1) (fun x hx => by have := hL x hx; omega)).below HB8.out
    have r8 := (HRR.out.1.setOther (i := 1) (u := (.pointer (some ⟨R.p, 0, none⟩))) (b := w.heap.size + 1) (fun x hx => by have := hR x hx; omega)).below HB8.out
    have p8 : Pr w8 (w.heap.size + 1) k L R n V := ⟨HM8.out.p, b8, r8⟩
    have hg : ∀ b, PU (w.heap.size + 1) L R b → w.heap.size ≤ b ∧ (b = w.heap.size + 1 ∨ w3.heap.size ≤ b) := by
      rintro b (rfl | hb | hb)
      · exact ⟨by omega, .inl rfl⟩
      · have := hL b hb; exact ⟨by omega, .inr this⟩
      · have := hR b hb; exact ⟨by omega, .inr (by omega)⟩
    have hne : ∀ b, PU (w.heap.size + 1) L R b → ¬ (Value.slice av len cv).ownBlock = some b := fun b hu hb => by
      have h9 := HCP8'.out.own b hb
      have h10 := HCP.out.ownLt b hb
      rcases (hg b hu).2 with e | e <;> omega
    refine ⟨p8.kept fun b hu => HCH.out.keep b (p8.lt b hu) ?_, fun b hb => ⟨(hg b hb).1, p8.lt b hb, hne b hb⟩⟩
    rintro (e | e)
    · have := (hg b hu).1; omega
    · exact hne b hu e)
  have HKQ : Hid (∀ j, KP w8 (.slice av len cv) (w9.drewN j)) := hide fun j => hQ _ _ _ j HKP.out
  go_quiet (fail)
  go_wp2_with fail
  go_ret2
  exact ⟨rfl, _, _, HM8.out.be, HM8.out.lt, HCP8'.out, HKQ.out _, HCH.out.trans (Chg.ofBelow ((Qt.refl _).drewN _).2), L, R, HPR.out.1.below ((Qt.refl _).drewN _).2, HPR.out.2⟩
set_option maxHeartbeats 2000000 in
theorem made_from_no_g {KP : World → Value → World → Prop} {w : World} {mv : Value} {l : List Nat} {k : Nat} (hv : WSl w mv l) (hr : l.length ≤ 17592186044416) (hk : k < w.heap.size) (hQ : ∀ x v y j, KP x v y → KP x v (y.drewN j))
    (hK : ∀ x v, Below w.heap.size w x → Cp (w.heap.size + 2) x v l → Calls Tryd.prog 13 #[.pointer (some ⟨k, 0, none⟩), v] x fun e w' => e = .returned (.tuple #[]) ∧ KP x v w' ∧ Chg (fun b => b < w.heap.size ∨ v.ownBlock = some b) x w')
    (n er : Int) (hF : ∀ x v, WSl x v l → Calls Tryd.prog 10 #[.int .i64 n, v] x fun e x' => e = .returned (.tuple #[.pointer none, .int .i64 er]) ∧ Below x.heap.size x x') (hR : ∀ x v, WSl x v l → Calls Tryd.prog 11 #[.int .i64 n, v] x fun e x' => e = .returned (.tuple #[.pointer none, .int .i64 er]) ∧ x' = x) :
    Calls Tryd.prog 5 #[.agg #[.bool true, .int .i64 n, mv], .pointer (some ⟨k, 0, none⟩)] w fun e w' => e = .returned (.tuple #[.pointer (some ⟨w.heap.size + 1, 0, none⟩), .bool true]) ∧ ∃ x v, Below w.heap.size w x ∧ w.heap.size + 1 < x.heap.size ∧ Cp (w.heap.size + 2) x v l ∧ KP x v w' ∧ Chg (fun b => b < w.heap.size ∨ v.ownBlock = some b) x w' ∧ w'.cell? ⟨w.heap.size + 1, 0, none⟩ = some (.pointer none) := by
  have q1 := pbmNil
  have q2 := pbmSome
  have q3 := prbmNil
  have q4 := prbmSome
  have HV := hide hv
  have HKK := hide hK
  have HM := hide (MS.start w #[.bool true, .int .i64 n, mv] #[.pointer none, .pointer none, .pointer (some ⟨k, 0, none⟩)])
  have HC : Hid (∀ x, Below w.heap.size w x → Calls Tryd.prog 9 #[mv] x fun e w' => ∃ v', e = .returned v' ∧ (v' = .slice none 0 0 → mv = .slice none 0 0) ∧ Cp x.heap.size w' v' l ∧ WSl w' v' l ∧ Below x.heap.size x w') := hide fun x hx => copied_full (hv.below hx) hr
  obtain ⟨a, cap, rfl, g1, g2, g3, g4, g5⟩ := hv
  clear g4 g5 g3 hK
  unfold maxLen at g2
  have HF := hide hF
  have HR := hide hR
  clear hF hR
  have HLN : Hid (l.length + 3 ≤ maxLen) := hide (by unfold maxLen; omega)
  have HLR := hide hr
  generalize hlen : l.length = len at *
  have HLEN := hide hlen
  clear hlen
  go_enter Tryd.func5, Tryd.ntmps5
  go_wp2_with (first
    | (go_at_call 9; refine (HC.out _ HM.out.be).mono ?_; rintro e w3 ⟨v', rfl, hnil, hcp, hws, hbe⟩; have HNIL := hide hnil; have HCP := hide hcp; have HM3 := hide (HM.out.below hbe); obtain ⟨av, cv, ev, -⟩ := hws; rw [HLEN.out] at ev; subst ev; have a1 : w3.cell? ⟨w.heap.size, 1, none⟩ = _ := HM3.out.ca 1; have HWS := hide (HCP.out.wsl HV.out.lt (by rw [HLEN.out]; exact HLN.out)); clear hnil hcp hbe)
    | (go_at_call 10; refine (HF.out _ _ HWS.out).mono ?_; rintro e w4 ⟨rfl, hL⟩; have HL := hide hL; have HM4 := hide (HM3.out.below hL); clear hL; have p0 : w4.cell? ⟨w.heap.size + 1, 0, none⟩ = _ := HM4.out.cp 0; have f0 := HM4.out.fp 0; have HM5 := hide (HM4.out.set 0 (.pointer none)); have a5 : (w4.setCell ⟨w.heap.size + 1, 0, none⟩ (.pointer none)).cell? ⟨w.heap.size, 1, none⟩ = _ := HM5.out.ca 1; have a6 : (w4.setCell ⟨w.heap.size + 1, 0, none⟩ (.pointer none)).cell? ⟨w.heap.size, 2, none⟩ = _ := HM5.out.ca 2)
    | (go_at_call 11; refine (HR.out _ _ (HV.out.below HM5.out.be)).mono ?_; rintro e w6 ⟨rfl, hR⟩; have hb6 : Below (w4.setCell ⟨w.heap.size + 1, 0, none⟩ (.pointer none)).heap.size (w4.setCell ⟨w.heap.size + 1, 0, none⟩ (.pointer none)) w6 := hR ▸ Below.refl _ _; have HM6 := hide (HM5.out.below hb6); clear hR; have p1 : w6.cell? ⟨w.heap.size + 1, 1, none⟩ = _ := HM6.out.cp 1; have f1 := HM6.out.fp 1; have HM7 := hide (HM6.out.set 1 (.pointer none)); have a7 : (w6.setCell ⟨w.heap.size + 1, 1, none⟩ (.pointer none)).cell? ⟨w.heap.size, 2, none⟩ = _ := HM7.out.ca 2; have s0 : (w6.setCell ⟨w.heap.size + 1, 1, none⟩ (.pointer none)).cell? ⟨w.heap.size + 1, 0, none⟩ = _ := HM7.out.cp 0; have s1 : (w6.setCell ⟨w.heap.size + 1, 1, none⟩ (.pointer none)).cell? ⟨w.heap.size + 1, 1, none⟩ = _ := HM7.out.cp 1; have HCP7 := hide (((HCP.out.below HL.out).set (i := 0) (u := (.pointer none)) (b := w.heap.size + 1) (by simp)).below hb6 |>.set (i := 1) (u := (.pointer none)) (b := w.heap.size + 1) (by simp)); have HI := hide (intact_any HCP7.out (HV.out.below HM7.out.be) HNIL.out (by rw [HLEN.out]; exact HLR.out)))
    | (go_at_call 12; refine (HI.out).mono ?_; rintro e w8 ⟨rfl, hb8⟩; have HB8 := hide hb8; have HM8 := hide (HM7.out.below hb8); clear hb8; have HCP8 := hide (HCP7.out.below HB8.out); have HCP8' : Hid (Cp (w.heap.size + 2) w8 _ l) := hide (by have := HCP8.out; simpa only [World.size_alloc] using this); have HK := hide (HKK.out _ _ HM8.out.be HCP8'.out))
    | (go_at_call 13; refine (HK.out).mono ?_; rintro e w9 ⟨rfl, hKp, hCh⟩; have HKP := hide hKp; have HCH := hide hCh; clear hKp hCh; have hfin2 : w9.heap[w.heap.size + 1]? = _ := (HCH.out.keep _ HM8.out.lt (by rintro (e | e); (· omega); (· have := HCP8'.out.own _ e; omega))).trans HM8.out.p; have t0 : w9.cell? ⟨w.heap.size + 1, 0, none⟩ = some (.pointer none) := (by rw [cell_of_row _ _ _ _ _ _ hfin2]; rfl); have t1 : w9.cell? ⟨w.heap.size + 1, 1, none⟩ = some (.pointer none) := (by rw [cell_of_row _ _ _ _ _ _ hfin2]; rfl); have HFIN := hide hfin2; clear hfin2))
  have HKQ : Hid (∀ j, KP w8 (.slice av len cv) (w9.drewN j)) := hide fun j => hQ _ _ _ j HKP.out
  go_quiet (fail)
  go_wp2_with fail
  go_ret2
  exact ⟨rfl, _, _, HM8.out.be, HM8.out.lt, HCP8'.out, HKQ.out _, HCH.out.trans (Chg.ofBelow ((Qt.refl _).drewN _).2), ((((Qt.refl _).drewN _).2.cell (p := ⟨w.heap.size + 1, 0, none⟩) (Array.getElem?_eq_some_iff.1 HFIN.out).1).trans (by rw [cell_of_row _ _ _ _ _ _ HFIN.out]; rfl))⟩
end Go.Proofs.YtnjlbkbhlcccmaaDoor
