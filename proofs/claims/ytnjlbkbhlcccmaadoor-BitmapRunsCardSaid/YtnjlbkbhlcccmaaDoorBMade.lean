import Derived.Test.YtnjlbkbhlcccmaaDoorBPair
namespace Go.Proofs.YtnjlbkbhlcccmaaDoor
open Go.RowKit Go.Shelf
set_option linter.unusedVariables false
set_option linter.unusedSimpArgs false
set_option maxRecDepth 20000

theorem Cp.row {N : Nat} {w : World} {v : Value} {l : List Nat} (h : Cp N w v l) (hm : l.length + 3 ≤ maxLen) : ∃ xs, w.ownsRow 0 63 1 v l.length xs := by
  rcases h with ⟨rfl, rfl⟩ | ⟨g, rfl, hN, hg⟩
  · exact ⟨[], rfl, .inl ⟨rfl, rfl⟩⟩
  · refine ⟨_, ?_, .inr ⟨g, l.length + 3, _, rfl, Nat.zero_le _, hg, by omega, hm, by rw [cpRow_size]; omega, rfl⟩⟩
    have e := (Array.length_toList (xs := cpRow (l.length + 3) fun i => if i < l.length then l.getD i 0 else behindN)).trans (cpRow_size _ _)
    rw [List.length_take, e]; omega
theorem Cp.set {N : Nat} {w : World} {v : Value} {l : List Nat} {b i : Nat} {u : Value} (h : Cp N w v l) (hb : b < N) : Cp N (w.setCell ⟨b, i, none⟩ u) v l := h.keptIf fun g hg => Go.heap_setCell_other _ _ _ _ (by have := (h.new g hg).1; dsimp only; omega)
theorem Cp.own {N : Nat} {w : World} {v : Value} {l : List Nat} (h : Cp N w v l) : ∀ b, v.ownBlock = some b → N ≤ b := by
  rcases h with ⟨rfl, rfl⟩ | ⟨g, rfl, hN, hg⟩
  · intro b hb; simp [Value.ownBlock] at hb
  · intro b hb
    simp only [Value.ownBlock, Option.some.injEq] at hb
    omega
theorem Cp.ownLt {N : Nat} {w : World} {v : Value} {l : List Nat} (h : Cp N w v l) : ∀ b, v.ownBlock = some b → b < w.heap.size := by
  rcases h with ⟨rfl, rfl⟩ | ⟨g, rfl, hN, hg⟩
  · intro b hb; simp [Value.ownBlock] at hb
  · intro b hb
    simp only [Value.ownBlock, Option.some.injEq] at hb
    subst hb
    exact (Array.getElem?_eq_some_iff.1 hg).1
theorem BRep.setOther {w : World} {L : BL} {n B b i : Nat} {u : Value} (h : BRep w L n B) (hb : ∀ x, L.U x → b < x) : BRep (w.setCell ⟨b, i, none⟩ u) L n B := h.kept fun x hx => Go.heap_setCell_other _ _ _ _ (by have := hb x hx; dsimp only; omega)
theorem RRep.setOther {w : World} {R : RL} {n B b i : Nat} {u : Value} (h : RRep w R n B) (hb : ∀ x, R.U x → b < x) : RRep (w.setCell ⟨b, i, none⟩ u) R n B := h.kept fun x hx => Go.heap_setCell_other _ _ _ _ (by have := hb x hx; dsimp only; omega)
/-- what made leaves of the book, and of what was there -/
structure MPost (w w' : World) (k nl : Nat) (bv raw was : Value) : Prop where
  bk : ∃ bv' nl' ys', Bk w' k false bv' raw was nl' ys' ∧ nl' ≤ nl + 2 ∧ ∀ b, bv'.ownBlock = some b → bv.ownBlock = some b ∨ w.heap.size ≤ b
  chg : Chg (fun b => b = k ∨ bv.ownBlock = some b) w w'
theorem MPost.keep {w w8 w9 : World} {A Q : Array Value} {k nl m : Nat} {bv v raw was bv' gv : Value} {ys : List Value} (hM : MS w w8 A Q) (hb : Bk w k false bv raw was nl ys) (hK : Kp w8 w9 k nl m bv v raw was ys bv' gv) (hv : ∀ b, v.ownBlock = some b → w.heap.size + 2 ≤ b) : MPost w w9 k nl bv raw was ∧ w9.heap[w.heap.size + 1]? = some (.cells Q 36 (0, 0)) := by
  have hl := hM.lt
  have hk := hb.lt
  have hbb : ∀ b, bv.ownBlock = some b → b < w.heap.size := fun b e => (hb.bo.lt b e).2
  have key : ∀ b, b < w.heap.size + 2 → b ≠ k → bv.ownBlock ≠ some b → w9.heap[b]? = w8.heap[b]? := fun b h1 h2 h3 => hK.chg.keep b (by omega) (by
    rintro (e | e | e)
    · exact h2 e
    · exact h3 e
    · have := hv b e; omega)
  refine ⟨⟨⟨bv', _, _, hK.bk, Nat.le_refl _, fun b e => ?_⟩, ?_⟩, ?_⟩
  · rcases hK.bloc b e with h | h
    · exact .inl h
    · exact .inr (by omega)
  · refine ⟨hK.chg.os.trans hM.be.os, hK.chg.tape.trans hM.be.tape, hK.chg.output.trans hM.be.output, Nat.le_trans hM.be.size hK.chg.size, fun b h1 h2 => ?_⟩
    exact (key b (by omega) (fun e => h2 (.inl e)) (fun e => h2 (.inr e))).trans (hM.be.block b h1)
  · exact (key _ (by omega) (by omega) (fun e => by have := hbb _ e; omega)).trans hM.p
theorem MPost.below {w w1 w2 : World} {k nl : Nat} {bv raw was : Value} (h : MPost w w1 k nl bv raw was) (hb : Below w1.heap.size w1 w2) : MPost w w2 k nl bv raw was := by
  obtain ⟨bv', nl', ys', h1, h2, h3⟩ := h.bk
  exact ⟨⟨bv', nl', ys', h1.below hb, h2, h3⟩, h.chg.trans (Chg.ofBelow hb)⟩
theorem MPost.still {w w8 : World} {A Q : Array Value} {k nl : Nat} {bv raw was : Value} {ys : List Value} (hM : MS w w8 A Q) (hb : Bk w k false bv raw was nl ys) : MPost w w8 k nl bv raw was :=
  ⟨⟨bv, nl, ys, hb.kept (hM.be.block _ hb.lt) (fun b e => hM.be.block b (hb.bo.lt b e).2), by omega, fun b e => .inl e⟩, hM.be.os, hM.be.tape, hM.be.output, hM.be.size, fun b h1 _ => hM.be.block b h1⟩
set_option maxHeartbeats 2000000 in
theorem made_from_some {w : World} {mv : Value} {l : List Nat} {k nl : Nat} {bv raw was : Value} {ys : List Value} (hv : WSl w mv l) (hr : l.length ≤ 17592186044416) (hb : Bk w k false bv raw was nl ys) (hnl : nl ≤ 9000000000000)
    (n : Nat) (h1 : 1 ≤ n) (h2 : n ≤ 65536) (he : cwErr n l = 0) :
    Calls Tryd.prog 5 #[.agg #[.bool true, .int .i64 (n : Int), mv], .pointer (some ⟨k, 0, none⟩)] w fun e w' => e = .returned (.tuple #[.pointer (some ⟨w.heap.size + 1, 0, none⟩), .bool true]) ∧ MPost w w' k nl bv raw was ∧ ∃ L R, Pr w' (w.heap.size + 1) k L R n (valW l) ∧ ∀ b, PU (w.heap.size + 1) L R b → w.heap.size ≤ b := by
  have q1 := pbmNil
  have q2 := pbmSome
  have q3 := prbmNil
  have q4 := prbmSome
  have HV := hide hv
  have HB := hide hb
  have HM := hide (MS.start w #[.bool true, .int .i64 (n : Int), mv] #[.pointer none, .pointer none, .pointer (some ⟨k, 0, none⟩)])
  have HC : Hid (∀ x, Below w.heap.size w x → Calls Tryd.prog 9 #[mv] x fun e w' => ∃ v', e = .returned v' ∧ (v' = .slice none 0 0 → mv = .slice none 0 0) ∧ Cp x.heap.size w' v' l ∧ WSl w' v' l ∧ Below x.heap.size x w') := hide fun x hx => copied_full (hv.below hx) hr
  obtain ⟨a, cap, rfl, g1, g2, g3, g4, g5⟩ := hv
  clear g4 g5 g3 hb
  unfold maxLen at g2
  have HF : Hid (∀ x v, WSl x v l → Calls Tryd.prog 10 #[.int .i64 (n : Int), v] x fun e w' => ∃ L, e = .returned (.tuple #[PB L, .int .i64 0]) ∧ BNewAt x w' L n (valW l)) := hide fun x v hx => From_any n h1 h2 hx he
  have HR : Hid (∀ x v, WSl x v l → Calls Tryd.prog 11 #[.int .i64 (n : Int), v] x fun e w' => ∃ R, e = .returned (.tuple #[PR R, .int .i64 0]) ∧ RNewAt x w' R n (valW l)) := hide fun x v hx => rFrom_any n h1 h2 hx he
  generalize valW l = V at *
  clear he
  have HLN : Hid (l.length + 3 ≤ maxLen) := hide (by unfold maxLen; omega)
  have HLR := hide hr
  generalize hlen : l.length = len at *
  have HLEN := hide hlen
  clear hlen
  go_enter Tryd.func5, Tryd.ntmps5
  go_wp2_with (first
    | (go_at_call 9; refine (HC.out _ HM.out.be).mono ?_; rintro e w3 ⟨v', rfl, hnil, hcp, hws, hbe⟩; have HNIL := hide hnil; have HCP := hide hcp; have HM3 := hide (HM.out.below hbe); obtain ⟨av, cv, ev, -⟩ := hws; rw [HLEN.out] at ev; subst ev; have a1 : w3.cell? ⟨w.heap.size, 1, none⟩ = _ := HM3.out.ca 1; have HWS := hide (HCP.out.wsl HV.out.lt (by rw [HLEN.out]; exact HLN.out)); clear hnil hcp hbe)
    | (go_at_call 10; refine (HF.out _ _ HWS.out).mono ?_; rintro e w4 ⟨L, rfl, hL⟩; have HL := hide hL; have HM4 := hide (HM3.out.below hL.2.1); unfold PB; clear hL; have p0 : w4.cell? ⟨w.heap.size + 1, 0, none⟩ = _ := HM4.out.cp 0; have f0 := HM4.out.fp 0; have HM5 := hide (HM4.out.set 0 (.pointer (some ⟨L.p, 0, none⟩))); have a5 : (w4.setCell ⟨w.heap.size + 1, 0, none⟩ (.pointer (some ⟨L.p, 0, none⟩))).cell? ⟨w.heap.size, 1, none⟩ = _ := HM5.out.ca 1; have a6 : (w4.setCell ⟨w.heap.size + 1, 0, none⟩ (.pointer (some ⟨L.p, 0, none⟩))).cell? ⟨w.heap.size, 2, none⟩ = _ := HM5.out.ca 2)
    | (go_at_call 11; refine (HR.out _ _ (HV.out.below HM5.out.be)).mono ?_; rintro e w6 ⟨R, rfl, hR⟩; have HRR := hide hR; have HM6 := hide (HM5.out.below hR.2.1); unfold PR; clear hR; have p1 : w6.cell? ⟨w.heap.size + 1, 1, none⟩ = _ := HM6.out.cp 1; have f1 := HM6.out.fp 1; have HM7 := hide (HM6.out.set 1 (.pointer (some ⟨R.p, 0, none⟩))); have a7 : (w6.setCell ⟨w.heap.size + 1, 1, none⟩ (.pointer (some ⟨R.p, 0, none⟩))).cell? ⟨w.heap.size, 2, none⟩ = _ := HM7.out.ca 2; have s0 : (w6.setCell ⟨w.heap.size + 1, 1, none⟩ (.pointer (some ⟨R.p, 0, none⟩))).cell? ⟨w.heap.size + 1, 0, none⟩ = _ := HM7.out.cp 0; have s1 : (w6.setCell ⟨w.heap.size + 1, 1, none⟩ (.pointer (some ⟨R.p, 0, none⟩))).cell? ⟨w.heap.size + 1, 1, none⟩ = _ := HM7.out.cp 1; have HCP7 := hide (((HCP.out.below HL.out.2.1).set (i := 0) (u := (.pointer (some ⟨L.p, 0, none⟩))) (b := w.heap.size + 1) (by simp)).below HRR.out.2.1 |>.set (i := 1) (u := (.pointer (some ⟨R.p, 0, none⟩))) (b := w.heap.size + 1) (by simp)); have HI := hide (intact_any HCP7.out (HV.out.below HM7.out.be) HNIL.out (by rw [HLEN.out]; exact HLR.out)))
    | (go_at_call 12; refine (HI.out).mono ?_; rintro e w8 ⟨rfl, hb8⟩; have HB8 := hide hb8; have HM8 := hide (HM7.out.below hb8); clear hb8; have HCP8 := hide (HCP7.out.below HB8.out); obtain ⟨xs, hxs⟩ := HCP8.out.row (by rw [HLEN.out]; exact HLN.out); rw [HLEN.out] at hxs; have HB8k := hide (HB.out.kept (w' := w8) (HM8.out.be.block _ HB.out.lt) (fun b e => HM8.out.be.block b (HB.out.bo.lt b e).2)); have HK := hide (keep_any HB8k.out hxs (by exact HLR.out) hnl); clear hxs)
    | (go_at_call 13; refine (HK.out).mono ?_; rintro e w9 ⟨rfl, bv', gv, hKp⟩; have HKP := hide hKp; clear hKp; have hfin := MPost.keep HM8.out HB.out HKP.out (fun b e => by have := HCP8.out.own b e; simpa using this); have t0 : w9.cell? ⟨w.heap.size + 1, 0, none⟩ = some (.pointer (some ⟨L.p, 0, none⟩)) := (by rw [cell_of_row _ _ _ _ _ _ hfin.2]; rfl); have t1 : w9.cell? ⟨w.heap.size + 1, 1, none⟩ = some (.pointer (some ⟨R.p, 0, none⟩)) := (by rw [cell_of_row _ _ _ _ _ _ hfin.2]; rfl); have HFIN := hide hfin; clear hfin))
  have HPR : Hid (Pr w9 (w.heap.size + 1) k L R n V ∧ ∀ b, PU (w.heap.size + 1) L R b → w.heap.size ≤ b) := hide (by
    have hl3 := HM3.out.lt
    have hs4 := HL.out.2.1.size
    have hL := HL.out.2.2
    have hR := HRR.out.2.2
    have e5 : (w4.setCell ⟨w.heap.size + 1, 0, none⟩ (.pointer (some ⟨L.p, 0, none⟩))).heap.size = w4.heap.size := by simp [World.setCell]
    have b8 := (((HL.out.1.setOther (i := 0) (u := (.pointer (some ⟨L.p, 0, none⟩))) (b := w.heap.size + 1) (fun x hx => by have := hL x hx; omega)).below HRR.out.2.1).setOther (i := 1) (u := (.pointer (some ⟨R.p, 0, none⟩))) (b := w.heap.size + 1) (fun x hx => by have := hL x hx; omega)).below HB8.out
    have r8 := (HRR.out.1.setOther (i := 1) (u := (.pointer (some ⟨R.p, 0, none⟩))) (b := w.heap.size + 1) (fun x hx => by have := hR x hx; omega)).below HB8.out
    have p8 : Pr w8 (w.heap.size + 1) k L R n V := ⟨HM8.out.p, b8, r8⟩
    have hg : ∀ b, PU (w.heap.size + 1) L R b → w.heap.size ≤ b ∧ (b = w.heap.size + 1 ∨ w3.heap.size ≤ b) := by
      rintro b (rfl | hb | hb)
      · exact ⟨by omega, .inl rfl⟩
      · have := hL b hb; exact ⟨by omega, .inr this⟩
      · have := hR b hb; exact ⟨by omega, .inr (by omega)⟩
    refine ⟨p8.kp HB8k.out HKP.out fun b hb hu => ?_, fun b hb => (hg b hb).1⟩
    have h9 := HCP8.out.own b hb
    have h10 := HCP.out.ownLt b hb
    simp only [World.size_alloc] at h9
    rcases (hg b hu).2 with e | e <;> omega)
  go_quiet (fail)
  go_wp2_with fail
  go_ret2
  exact ⟨rfl, HFIN.out.1.below ((Qt.refl _).drewN _).2, L, R, HPR.out.1.below ((Qt.refl _).drewN _).2, HPR.out.2⟩
set_option maxHeartbeats 2000000 in
theorem made_from_no {w : World} {mv : Value} {l : List Nat} {k nl : Nat} {bv raw was : Value} {ys : List Value} (hv : WSl w mv l) (hr : l.length ≤ 17592186044416) (hb : Bk w k false bv raw was nl ys) (hnl : nl ≤ 9000000000000)
    (n er : Int) (hF : ∀ x v, WSl x v l → Calls Tryd.prog 10 #[.int .i64 n, v] x fun e x' => e = .returned (.tuple #[.pointer none, .int .i64 er]) ∧ Below x.heap.size x x') (hR : ∀ x v, WSl x v l → Calls Tryd.prog 11 #[.int .i64 n, v] x fun e x' => e = .returned (.tuple #[.pointer none, .int .i64 er]) ∧ x' = x) :
    Calls Tryd.prog 5 #[.agg #[.bool true, .int .i64 n, mv], .pointer (some ⟨k, 0, none⟩)] w fun e w' => e = .returned (.tuple #[.pointer (some ⟨w.heap.size + 1, 0, none⟩), .bool true]) ∧ MPost w w' k nl bv raw was ∧ w'.cell? ⟨w.heap.size + 1, 0, none⟩ = some (.pointer none) := by
  have q1 := pbmNil
  have q2 := pbmSome
  have q3 := prbmNil
  have q4 := prbmSome
  have HV := hide hv
  have HB := hide hb
  have HM := hide (MS.start w #[.bool true, .int .i64 n, mv] #[.pointer none, .pointer none, .pointer (some ⟨k, 0, none⟩)])
  have HC : Hid (∀ x, Below w.heap.size w x → Calls Tryd.prog 9 #[mv] x fun e w' => ∃ v', e = .returned v' ∧ (v' = .slice none 0 0 → mv = .slice none 0 0) ∧ Cp x.heap.size w' v' l ∧ WSl w' v' l ∧ Below x.heap.size x w') := hide fun x hx => copied_full (hv.below hx) hr
  obtain ⟨a, cap, rfl, g1, g2, g3, g4, g5⟩ := hv
  clear g4 g5 g3 hb
  unfold maxLen at g2
  have HF := hide hF
  have HR := hide hR
  clear hF hR
  have HLN : Hid (l.length + 3 ≤ maxLen) := hide (by unfold maxLen; omega)
  have HLR := hide hr
  generalize hlen : l.length = len at *
  have HLEN := hide hlen
  clear hlen
  go_enter Tryd.func5, Tryd.ntmps5
  go_wp2_with (first
    | (go_at_call 9; refine (HC.out _ HM.out.be).mono ?_; rintro e w3 ⟨v', rfl, hnil, hcp, hws, hbe⟩; have HNIL := hide hnil; have HCP := hide hcp; have HM3 := hide (HM.out.below hbe); obtain ⟨av, cv, ev, -⟩ := hws; rw [HLEN.out] at ev; subst ev; have a1 : w3.cell? ⟨w.heap.size, 1, none⟩ = _ := HM3.out.ca 1; have HWS := hide (HCP.out.wsl HV.out.lt (by rw [HLEN.out]; exact HLN.out)); clear hnil hcp hbe)
    | (go_at_call 10; refine (HF.out _ _ HWS.out).mono ?_; rintro e w4 ⟨rfl, hL⟩; have HL := hide hL; have HM4 := hide (HM3.out.below hL); clear hL; have p0 : w4.cell? ⟨w.heap.size + 1, 0, none⟩ = _ := HM4.out.cp 0; have f0 := HM4.out.fp 0; have HM5 := hide (HM4.out.set 0 (.pointer none)); have a5 : (w4.setCell ⟨w.heap.size + 1, 0, none⟩ (.pointer none)).cell? ⟨w.heap.size, 1, none⟩ = _ := HM5.out.ca 1; have a6 : (w4.setCell ⟨w.heap.size + 1, 0, none⟩ (.pointer none)).cell? ⟨w.heap.size, 2, none⟩ = _ := HM5.out.ca 2)
    | (go_at_call 11; refine (HR.out _ _ (HV.out.below HM5.out.be)).mono ?_; rintro e w6 ⟨rfl, hR⟩; have hb6 : Below (w4.setCell ⟨w.heap.size + 1, 0, none⟩ (.pointer none)).heap.size (w4.setCell ⟨w.heap.size + 1, 0, none⟩ (.pointer none)) w6 := hR ▸ Below.refl _ _; have HM6 := hide (HM5.out.below hb6); clear hR; have p1 : w6.cell? ⟨w.heap.size + 1, 1, none⟩ = _ := HM6.out.cp 1; have f1 := HM6.out.fp 1; have HM7 := hide (HM6.out.set 1 (.pointer none)); have a7 : (w6.setCell ⟨w.heap.size + 1, 1, none⟩ (.pointer none)).cell? ⟨w.heap.size, 2, none⟩ = _ := HM7.out.ca 2; have s0 : (w6.setCell ⟨w.heap.size + 1, 1, none⟩ (.pointer none)).cell? ⟨w.heap.size + 1, 0, none⟩ = _ := HM7.out.cp 0; have s1 : (w6.setCell ⟨w.heap.size + 1, 1, none⟩ (.pointer none)).cell? ⟨w.heap.size + 1, 1, none⟩ = _ := HM7.out.cp 1; have HCP7 := hide (((HCP.out.below HL.out).set (i := 0) (u := (.pointer none)) (b := w.heap.size + 1) (by simp)).below hb6 |>.set (i := 1) (u := (.pointer none)) (b := w.heap.size + 1) (by simp)); have HI := hide (intact_any HCP7.out (HV.out.below HM7.out.be) HNIL.out (by rw [HLEN.out]; exact HLR.out)))
    | (go_at_call 12; refine (HI.out).mono ?_; rintro e w8 ⟨rfl, hb8⟩; have HB8 := hide hb8; have HM8 := hide (HM7.out.below hb8); clear hb8; have HCP8 := hide (HCP7.out.below HB8.out); obtain ⟨xs, hxs⟩ := HCP8.out.row (by rw [HLEN.out]; exact HLN.out); rw [HLEN.out] at hxs; have HB8k := hide (HB.out.kept (w' := w8) (HM8.out.be.block _ HB.out.lt) (fun b e => HM8.out.be.block b (HB.out.bo.lt b e).2)); have HK := hide (keep_any HB8k.out hxs (by exact HLR.out) hnl); clear hxs)
    | (go_at_call 13; refine (HK.out).mono ?_; rintro e w9 ⟨rfl, bv', gv, hKp⟩; have HKP := hide hKp; clear hKp; have hfin := MPost.keep HM8.out HB.out HKP.out (fun b e => by have := HCP8.out.own b e; simpa using this); have t0 : w9.cell? ⟨w.heap.size + 1, 0, none⟩ = some (.pointer none) := (by rw [cell_of_row _ _ _ _ _ _ hfin.2]; rfl); have t1 : w9.cell? ⟨w.heap.size + 1, 1, none⟩ = some (.pointer none) := (by rw [cell_of_row _ _ _ _ _ _ hfin.2]; rfl); have HFIN := hide hfin; clear hfin))
  go_quiet (fail)
  go_wp2_with fail
  go_ret2
  exact ⟨rfl, HFIN.out.1.below ((Qt.refl _).drewN _).2, ((((Qt.refl _).drewN _).2.cell (p := ⟨w.heap.size + 1, 0, none⟩) (Array.getElem?_eq_some_iff.1 HFIN.out.2).1).trans (by rw [cell_of_row _ _ _ _ _ _ HFIN.out.2]; rfl))⟩
set_option maxHeartbeats 2000000 in
theorem made_new_some {w : World} {mv : Value} {l : List Nat} {k nl : Nat} {bv raw was : Value} {ys : List Value} (hv : WSl w mv l) (hr : l.length ≤ 17592186044416) (hb : Bk w k false bv raw was nl ys) (hnl : nl ≤ 9000000000000)
    (n : Nat) (h1 : 1 ≤ n) (h2 : n ≤ 65536) :
    Calls Tryd.prog 5 #[.agg #[.bool false, .int .i64 (n : Int), mv], .pointer (some ⟨k, 0, none⟩)] w fun e w' => e = .returned (.tuple #[.pointer (some ⟨w.heap.size + 1, 0, none⟩), .bool true]) ∧ MPost w w' k nl bv raw was ∧ ∃ L R, Pr w' (w.heap.size + 1) k L R n 0 ∧ ∀ b, PU (w.heap.size + 1) L R b → w.heap.size ≤ b := by
  have q1 := pbmNil
  have q2 := pbmSome
  have q3 := prbmNil
  have q4 := prbmSome
  have HV := hide hv
  have HB := hide hb
  have HM := hide (MS.start w #[.bool false, .int .i64 (n : Int), mv] #[.pointer none, .pointer none, .pointer (some ⟨k, 0, none⟩)])
  obtain ⟨a, cap, rfl, g1, g2, g3, g4, g5⟩ := hv
  clear g4 g5 g3 hb
  unfold maxLen at g2
  have HF : Hid (∀ x, Calls Tryd.prog 14 #[.int .i64 (n : Int)] x fun e w' => ∃ L, e = .returned (.tuple #[PB L, .int .i64 0]) ∧ BNewAt x w' L n 0) := hide fun x => New_any x n h1 h2
  have HR : Hid (∀ x, Calls Tryd.prog 15 #[.int .i64 (n : Int)] x fun e w' => ∃ R, e = .returned (.tuple #[PR R, .int .i64 0]) ∧ RNewAt x w' R n 0) := hide fun x => rNew_any x n h1 h2
  have HLN : Hid (l.length + 3 ≤ maxLen) := hide (by unfold maxLen; omega)
  have HLR := hide hr
  generalize hlen : l.length = len at *
  have HLEN := hide hlen
  clear hlen
  go_enter Tryd.func5, Tryd.ntmps5
  go_wp2_with (first
    | (go_at_call 14; refine (HF.out _).mono ?_; rintro e w4 ⟨L, rfl, hL⟩; have HL := hide hL; have HM4 := hide (HM.out.below hL.2.1); unfold PB; clear hL; have p0 : w4.cell? ⟨w.heap.size + 1, 0, none⟩ = _ := HM4.out.cp 0; have f0 := HM4.out.fp 0; have HM5 := hide (HM4.out.set 0 (.pointer (some ⟨L.p, 0, none⟩))); have a5 : (w4.setCell ⟨w.heap.size + 1, 0, none⟩ (.pointer (some ⟨L.p, 0, none⟩))).cell? ⟨w.heap.size, 1, none⟩ = _ := HM5.out.ca 1; have a6 : (w4.setCell ⟨w.heap.size + 1, 0, none⟩ (.pointer (some ⟨L.p, 0, none⟩))).cell? ⟨w.heap.size, 2, none⟩ = _ := HM5.out.ca 2)
    | (go_at_call 15; refine (HR.out _).mono ?_; rintro e w6 ⟨R, rfl, hR⟩; have HRR := hide hR; have HM6 := hide (HM5.out.below hR.2.1); unfold PR; clear hR; have p1 : w6.cell? ⟨w.heap.size + 1, 1, none⟩ = _ := HM6.out.cp 1; have f1 := HM6.out.fp 1; have HM7 := hide (HM6.out.set 1 (.pointer (some ⟨R.p, 0, none⟩))); have a7 : (w6.setCell ⟨w.heap.size + 1, 1, none⟩ (.pointer (some ⟨R.p, 0, none⟩))).cell? ⟨w.heap.size, 2, none⟩ = _ := HM7.out.ca 2; have s0 : (w6.setCell ⟨w.heap.size + 1, 1, none⟩ (.pointer (some ⟨R.p, 0, none⟩))).cell? ⟨w.heap.size + 1, 0, none⟩ = _ := HM7.out.cp 0; have s1 : (w6.setCell ⟨w.heap.size + 1, 1, none⟩ (.pointer (some ⟨R.p, 0, none⟩))).cell? ⟨w.heap.size + 1, 1, none⟩ = _ := HM7.out.cp 1))
  have HPR : Hid (Pr (w6.setCell ⟨w.heap.size + 1, 1, none⟩ (.pointer (some ⟨R.p, 0, none⟩))) (w.heap.size + 1) k L R n 0 ∧ ∀ b, PU (w.heap.size + 1) L R b → w.heap.size ≤ b) := hide (by
    have hl3 := HM.out.lt
    have hs4 := HL.out.2.1.size
    have hL := HL.out.2.2
    have hR := HRR.out.2.2
    have e5 : (w4.setCell ⟨w.heap.size + 1, 0, none⟩ (.pointer (some ⟨L.p, 0, none⟩))).heap.size = w4.heap.size := by simp [World.setCell]
    have b8 := ((HL.out.1.setOther (i := 0) (u := (.pointer (some ⟨L.p, 0, none⟩))) (b := w.heap.size + 1) (fun x hx => by have := hL x hx; omega)).below HRR.out.2.1).setOther (i := 1) (u := (.pointer (some ⟨R.p, 0, none⟩))) (b := w.heap.size + 1) (fun x hx => by have := hL x hx; omega)
    have r8 := HRR.out.1.setOther (i := 1) (u := (.pointer (some ⟨R.p, 0, none⟩))) (b := w.heap.size + 1) (fun x hx => by have := hR x hx; omega)
    refine ⟨⟨HM7.out.p, b8, r8⟩, ?_⟩
    rintro b (rfl | hb | hb)
    · omega
    · have := hL b hb; omega
    · have := hR b hb; omega)
  have HFIN := hide (And.intro (MPost.still HM7.out HB.out) HM7.out.p)
  go_quiet (fail)
  go_wp2_with fail
  go_ret2
  exact ⟨rfl, HFIN.out.1.below ((Qt.refl _).drewN _).2, L, R, HPR.out.1.below ((Qt.refl _).drewN _).2, HPR.out.2⟩
set_option maxHeartbeats 2000000 in
theorem made_new_no {w : World} {mv : Value} {l : List Nat} {k nl : Nat} {bv raw was : Value} {ys : List Value} (hv : WSl w mv l) (hr : l.length ≤ 17592186044416) (hb : Bk w k false bv raw was nl ys) (hnl : nl ≤ 9000000000000)
    (n er : Int) (hF : ∀ x, Calls Tryd.prog 14 #[.int .i64 n] x fun e x' => e = .returned (.tuple #[.pointer none, .int .i64 er]) ∧ Below x.heap.size x x') (hR : ∀ x, Calls Tryd.prog 15 #[.int .i64 n] x fun e x' => e = .returned (.tuple #[.pointer none, .int .i64 er]) ∧ x' = x) :
    Calls Tryd.prog 5 #[.agg #[.bool false, .int .i64 n, mv], .pointer (some ⟨k, 0, none⟩)] w fun e w' => e = .returned (.tuple #[.pointer (some ⟨w.heap.size + 1, 0, none⟩), .bool true]) ∧ MPost w w' k nl bv raw was ∧ w'.cell? ⟨w.heap.size + 1, 0, none⟩ = some (.pointer none) := by
  have q1 := pbmNil
  have q2 := pbmSome
  have q3 := prbmNil
  have q4 := prbmSome
  have HV := hide hv
  have HB := hide hb
  have HM := hide (MS.start w #[.bool false, .int .i64 n, mv] #[.pointer none, .pointer none, .pointer (some ⟨k, 0, none⟩)])
  obtain ⟨a, cap, rfl, g1, g2, g3, g4, g5⟩ := hv
  clear g4 g5 g3 hb
  unfold maxLen at g2
  have HF := hide hF
  have HR := hide hR
  clear hF hR
  have HLN : Hid (l.length + 3 ≤ maxLen) := hide (by unfold maxLen; omega)
  have HLR := hide hr
  generalize hlen : l.length = len at *
  have HLEN := hide hlen
  clear hlen
  go_enter Tryd.func5, Tryd.ntmps5
  go_wp2_with (first
    | (go_at_call 14; refine (HF.out _).mono ?_; rintro e w4 ⟨rfl, hL⟩; have HL := hide hL; have HM4 := hide (HM.out.below hL); clear hL; have p0 : w4.cell? ⟨w.heap.size + 1, 0, none⟩ = _ := HM4.out.cp 0; have f0 := HM4.out.fp 0; have HM5 := hide (HM4.out.set 0 (.pointer none)); have a5 : (w4.setCell ⟨w.heap.size + 1, 0, none⟩ (.pointer none)).cell? ⟨w.heap.size, 1, none⟩ = _ := HM5.out.ca 1; have a6 : (w4.setCell ⟨w.heap.size + 1, 0, none⟩ (.pointer none)).cell? ⟨w.heap.size, 2, none⟩ = _ := HM5.out.ca 2)
    | (go_at_call 15; refine (HR.out _).mono ?_; rintro e w6 ⟨rfl, hR⟩; have hb6 : Below (w4.setCell ⟨w.heap.size + 1, 0, none⟩ (.pointer none)).heap.size (w4.setCell ⟨w.heap.size + 1, 0, none⟩ (.pointer none)) w6 := hR ▸ Below.refl _ _; have HM6 := hide (HM5.out.below hb6); clear hR; have p1 : w6.cell? ⟨w.heap.size + 1, 1, none⟩ = _ := HM6.out.cp 1; have f1 := HM6.out.fp 1; have HM7 := hide (HM6.out.set 1 (.pointer none)); have a7 : (w6.setCell ⟨w.heap.size + 1, 1, none⟩ (.pointer none)).cell? ⟨w.heap.size, 2, none⟩ = _ := HM7.out.ca 2; have s0 : (w6.setCell ⟨w.heap.size + 1, 1, none⟩ (.pointer none)).cell? ⟨w.heap.size + 1, 0, none⟩ = _ := HM7.out.cp 0; have s1 : (w6.setCell ⟨w.heap.size + 1, 1, none⟩ (.pointer none)).cell? ⟨w.heap.size + 1, 1, none⟩ = _ := HM7.out.cp 1))
  have HFIN := hide (And.intro (MPost.still HM7.out HB.out) HM7.out.p)
  go_quiet (fail)
  go_wp2_with fail
  go_ret2
  exact ⟨rfl, HFIN.out.1.below ((Qt.refl _).drewN _).2, ((((Qt.refl _).drewN _).2.cell (p := ⟨w.heap.size + 1, 0, none⟩) (Array.getElem?_eq_some_iff.1 HFIN.out.2).1).trans (by rw [cell_of_row _ _ _ _ _ _ HFIN.out.2]; rfl))⟩
end Go.Proofs.YtnjlbkbhlcccmaaDoor
