import Derived.Test.YtnjlbkbhlcccmaaDoorBChange
namespace Go.Proofs.YtnjlbkbhlcccmaaDoor
open Go.RowKit Go.Shelf
set_option linter.unusedVariables false
set_option linter.unusedSimpArgs false
set_option maxRecDepth 20000

theorem Half.below {w0 w w' : World} {pp k bx n B B' : Nat} {L : BL} {R : RL} {bxr : Array Value} (h : Half w0 w pp k bx L R n B B' bxr) (hb : Below w.heap.size w w') : Half w0 w' pp k bx L R n B B' bxr :=
  ⟨(hb.block _ (Array.getElem?_eq_some_iff.1 h.row).1).trans h.row, h.m.below hb, h.r.below hb, (hb.block _ (Array.getElem?_eq_some_iff.1 h.box).1).trans h.box, h.chg.trans (Chg.ofBelow hb), h.d1, h.d2⟩
theorem Cp.chg {N : Nat} {U : Nat → Prop} {w w' : World} {v : Value} {l : List Nat} (h : Cp N w v l) (hc : Chg U w w') (hu : ∀ b, N ≤ b → ¬ U b) : Cp N w' v l := h.keptIf fun g hg => hc.keep g (h.new g hg).2 (hu g (h.new g hg).1)
theorem WSl.chg {U : Nat → Prop} {w w' : World} {v : Value} {l : List Nat} (h : WSl w v l) (hc : Chg U w w') (hu : 0 < l.length → ∀ b, blockOf v = some b → ¬ U b) : WSl w' v l := by
  by_cases hp : 0 < l.length
  · exact h.keptIf fun g hg hlt => hc.keep g hlt (hu hp g hg)
  · obtain ⟨a, cap, e, h1, h2, h3, h4, h5⟩ := h
    exact ⟨a, cap, e, h1, h2, h3, h4, fun h => absurd h hp⟩
theorem WSl.blk {w : World} {v : Value} {l : List Nat} (h : WSl w v l) (hp : 0 < l.length) : ∀ b, blockOf v = some b → b < w.heap.size := by
  obtain ⟨a, cap, rfl, h1, h2, h3, h4, h5⟩ := h
  obtain ⟨b, off, rfl, hc⟩ := h5 hp
  intro g hg
  simp only [blockOf, Option.some.injEq] at hg
  subst hg
  exact World.block_lt_of_cell? w _ (hc 0 hp)

set_option maxHeartbeats 2000000 in
/-- Merge on both; the list that went in is kept -/
theorem change_5 {KP : World → Value → World → Prop} {w : World} {pp k n B B' : Nat} {L : BL} {R : RL} {l : List Nat} (h : Pr w pp k L R n B) (A C rv er : Int) (s again : Bool) (a1 a2 a3 : Option Addr) (n1 n2 n3 c1 c2 c3 : Nat)
    (hv : WSl w (.slice a1 n1 c1) l) (hr : l.length ≤ 17592186044416) (hsep : 0 < l.length → ∀ b, blockOf (.slice a1 n1 c1) = some b → ¬ PU pp L R b)
    (hM : ∀ x v, BRep x L n B → WSl x v l → (∀ g, blockOf v = some g → ¬ L.U g) → Calls Tryd.prog 25 #[PB L, v] x fun e w' => e = .returned (.tuple #[.int .i64 rv, .int .i64 er]) ∧ BRep w' L n B' ∧ Chg L.U x w')
    (hR : ∀ x v, RRep x R n B → WSl x v l → Calls Tryd.prog 40 #[PR R, v] x fun e w' => e = .returned (.tuple #[.int .i64 rv, .int .i64 er]) ∧ RRep w' R n B' ∧ Chg R.U x w')
    (hK : ∀ x v, Pr x pp k L R n B' → Chg (PU pp L R) w x → Cp w.heap.size x v l → Calls Tryd.prog 13 #[.pointer (some ⟨k, 0, none⟩), v] x fun e w' => e = .returned (.tuple #[]) ∧ KP x v w') :
    Calls Tryd.prog 21 #[.pointer (some ⟨pp, 0, none⟩), opA 5 A C s again a1 a2 a3 n1 n2 n3 c1 c2 c3] w fun e w' => e = .returned (.bool true) ∧ ∃ x v, Pr x pp k L R n B' ∧ Chg (PU pp L R) w x ∧ Cp w.heap.size x v l ∧ KP x v w' := by
  unfold opA
  have HM := hide hM
  have HR := hide hR
  have HK := hide hK
  have HV := hide hv
  have HSEP := hide hsep
  have HLT := hide h.lt
  have HH := hide (Half.start h #[.int .i64 5, .bool s, .int .i64 A, .int .i64 C, .slice a1 n1 c1, .slice a2 n2 c2, .slice a3 n3 c3, .bool again])
  have HBE := hide ((Below.refl w.heap.size w).alloc (Nat.le_refl _) (.cells #[.int .i64 5, .bool s, .int .i64 A, .int .i64 C, .slice a1 n1 c1, .slice a2 n2 c2, .slice a3 n3 c3, .bool again] 39))
  have p0 := HH.out.c 0
  have p4 := HH.out.b 4
  have HC := hide (copied_full (hv.below HBE.out) hr)
  have HLR := hide hr
  have hn1 : l.length = n1 := by obtain ⟨a, cap, e, _⟩ := hv; simp only [Value.slice.injEq] at e; exact e.2.1.symm
  have HN1 := hide hn1
  obtain ⟨g1, g2⟩ : n1 ≤ c1 ∧ c1 ≤ 9223372036854775807 := by obtain ⟨a, cap, e, e1, e2, _⟩ := hv; unfold maxLen at e2; simp only [Value.slice.injEq] at e; omega
  simp only [PB, PR] at p0 HM HR
  clear h hM hR hK hv hsep hr hn1
  go_enter Tryd.func21, Tryd.ntmps21
  go_wp2_with (first
    | (go_at_call 9; refine HC.out.mono ?_; rintro e w2 ⟨v', rfl, hnil, hcp, hws, hb2⟩; have HNIL := hide hnil; have HH2 := hide (HH.out.below hb2); have hcp' : Cp w.heap.size w2 v' l := (by rcases hcp with x | ⟨g, x1, x2, x3⟩; (· exact .inl x); (· exact .inr ⟨g, x1, by simp at x2; omega, x3⟩)); have HCP := hide hcp'; have HWS := hide hws; have q0 := HH2.out.c 0; simp only [PB, PR] at q0; obtain ⟨av, cv, ev, -⟩ := hws; rw [HN1.out] at ev; subst ev; clear hnil hcp hcp' hb2)
    | (go_at_call 25; refine (HM.out _ _ HH2.out.m HWS.out (fun g hg hu => by have := (HCP.out.new g hg).1; have := HLT.out g (.inr (.inl hu)); omega)).mono ?_; rintro e w3 ⟨rfl, hB3, hC3⟩; have HH3 := hide (HH2.out.turnM hB3 hC3); have HCP3 := hide (HCP.out.chg hC3 (fun b hb hu => by have := HLT.out b (.inr (.inl hu)); omega)); clear hB3 hC3))
  have r1 := HH3.out.c 1
  have r4 := HH3.out.b 4
  simp only [PB, PR] at r1
  have HV3 := hide (HV.out.chg HH3.out.drew.chg HSEP.out)
  go_region_held3 (fun w' => w'.cell? ⟨pp, 1, none⟩ = some (.pointer (some ⟨R.p, 0, none⟩)) ∧ w'.cell? ⟨w.heap.size, 4, none⟩ = some (.slice a1 n1 c1)) (first | exact ⟨r1, r4⟩ | exact ⟨z1, z4⟩)
    ((go_at_call 40; refine (HR.out _ _ HH3.out.drew.r HV3.out).mono ?_; rintro e w4 ⟨rfl, hB4, hC4⟩; have HF := hide (HH3.out.drew.turnR hB4 hC4); have HCP4 := hide (Cp.chg (w := w3.drew) HCP3.out hC4 (fun b hb hu => by have := HLT.out b (.inr (.inr hu)); omega)); have z1 : w4.cell? ⟨pp, 1, none⟩ = some (.pointer (some ⟨R.p, 0, none⟩)) := HF.out.1.c 1; have z4 : w4.cell? ⟨w.heap.size, 4, none⟩ = some (.slice a1 n1 c1) := (by rw [cell_of_row _ _ _ _ _ _ HF.out.2.2]; rfl); clear hB4 hC4))
  all_goals
    have HI := hide (intact_any HCP4.out (HV.out.chg HF.out.2.1 HSEP.out) HNIL.out HLR.out)
    go_wp2_with (first
      | (go_at_call 12; refine HI.out.mono ?_; rintro e w5 ⟨rfl, hb5⟩; have HP5 := hide (HF.out.1.below hb5); have HC5 := hide (HF.out.2.1.trans (Chg.ofBelow hb5)); have HCP5 := hide (HCP4.out.below hb5); have y2 := HP5.out.c 2; have HK5 := hide (HK.out _ _ HP5.out HC5.out HCP5.out); clear hb5)
      | (go_at_call 13; refine HK5.out.mono ?_; rintro e w6 ⟨rfl, hkp⟩; have HKP := hide hkp; clear hkp))
    go_ret
    exact ⟨rfl, _, _, HP5.out, HC5.out, HCP5.out, HKP.out⟩
end Go.Proofs.YtnjlbkbhlcccmaaDoor
