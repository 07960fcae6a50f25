import Derived.Test.YtlpmpicmpklaoacGreatELaw4
namespace Go.Proofs.YtlpmpicmpklaoacGreat
open Go.RowKit Go.Maps Go.Sort
set_option linter.unusedVariables false
set_option linter.unusedSimpArgs false
set_option maxRecDepth 20000

/-- an error's number and block, exactly -/
def WhIs (n b : Int) : Int := if n = 0 then -1 else b
theorem trouble_ex {w0 w w2 : World} {U : Nat → Prop} {u : Value} {b n : Int} (h : ErrIs w0 w U u b n) (hk : ∀ g, w0.heap.size ≤ g → g < w.heap.size → ¬ U g → w2.heap[g]? = w.heap[g]?) :
    Calls Tryz.prog 25 #[u] w2 fun e w' => e = .returned (.tuple #[.int .i64 n, .int .i64 (WhIs n b)]) ∧ ∃ k, w' = w2.drewN k := by
  rcases h with ⟨rfl, rfl⟩ | ⟨hn, g, rfl, h1, h2, h3⟩
  · exact (trouble_nil w2).mono fun e w' h => ⟨by rw [h.1]; rfl, 0, h.2⟩
  · have hlt := (Array.getElem?_eq_some_iff.1 h2).1
    exact (trouble_err w2 g b n ((hk g h1 hlt h3).trans h2)).mono fun e w' h => ⟨by rw [h.1, WhIs, if_neg hn], h.2⟩
theorem nilBSl (w : World) : BSl w nilS [] := ⟨none, 0, rfl, Nat.le_refl _, by unfold maxLen; omega, fun _ => rfl, by simp, by simp⟩

set_option maxHeartbeats 2000000 in
theorem look_1 {w0 w : World} {pp nx k : Nat} {S : St} (h : PAll w0 w pp S nx k) (bl ct : Int) (dv : Value) (hbl : i64ok bl) (hb : ∀ k, (S.cache k).length + 1 ≤ 268435456) :
    Calls Tryz.prog 11 #[.pointer (some ⟨pp, 0, none⟩), .agg #[.int .i64 1, .int .i64 bl, .int .i64 ct, dv]] w fun e w' => e = .returned (.bool true) ∧ PAll w0 w' pp (S.read bl) nx k := by
  obtain ⟨L, RL, wh, bv, hP⟩ := h
  have HB0 := hide (PBx.start hP 1 bl ct dv)
  have hd := HB0.out.cells
  unfold PCells at hd
  have HBL := hide hbl
  have HCB := hide hb
  clear hP hbl hb
  go_enter Tryz.func11, Tryz.ntmps11
  have HB10 := hide (HB0.out.below (Below.drew (Below.refl _ _)))
  have hc0 := HB10.out.cells
  unfold PCells at hc0
  have HCC := hide (Read_any HB10.out.p.d bl)
  unfold PD at HCC
  go_wp2_with fail
  generalize hW0 : (w.alloc (.cells #[.int .i64 1, .int .i64 bl, .int .i64 ct, dv] 43)).drew = wA at HB10 HCC
  have HWA := hide hW0
  clear hW0
  go_region_held3 (fun w' => w'.cell? ⟨pp, 0, none⟩ = some (.pointer (some ⟨L.p, 0, none⟩)) ∧ w'.cell? ⟨pp, 1, none⟩ = some (.pointer (some ⟨RL.p, 0, none⟩)) ∧ w'.cell? ⟨pp, 2, none⟩ = some (.bool false) ∧ w'.cell? ⟨w.heap.size, 0, none⟩ = some (.int .i64 1) ∧ w'.cell? ⟨w.heap.size, 1, none⟩ = some (.int .i64 bl) ∧ w'.cell? ⟨w.heap.size, 2, none⟩ = some (.int .i64 ct) ∧ w'.cell? ⟨w.heap.size, 3, none⟩ = some dv) (first | exact hc0 | assumption)
    (first
      | (go_at_call 23; rw [HWA.out]; refine HCC.out.mono ?_; rintro e w1 ⟨v, u, rfl, hE, hV0, hV1, hR1, hG1⟩; have HB1 := hide (HB10.out.growDS hR1 hG1); have hc1 := HB1.out.cells; unfold PCells at hc1; have HE := hide hE; have HV0 := hide hV0; have HV1 := hide hV1; have HG1 := hide hG1; clear hE hV0 hV1 hR1 hG1 HCC))
  have HN : Hid (-9223372036854775808 ≤ S.readErr bl ∧ S.readErr bl ≤ 9223372036854775807) := hide (by unfold St.readErr; split; omega; split; omega; split <;> omega)
  have HB20 := hide (HB1.out.below (Below.drew (Below.refl _ _)))
  have hc2 := HB20.out.cells
  unfold PCells at hc2
  obtain ⟨R, r1, r2, r3⟩ := HB20.out.p.r
  have HCC := hide (rRead r1 r2 bl HBL.out (by have := items_lt r1 r2 HCB.out; omega))
  unfold PR at HCC
  clear r1 r2 r3
  go_wp2_with fail
  go_region_held3 (fun w' => w'.cell? ⟨pp, 0, none⟩ = some (.pointer (some ⟨L.p, 0, none⟩)) ∧ w'.cell? ⟨pp, 1, none⟩ = some (.pointer (some ⟨RL.p, 0, none⟩)) ∧ w'.cell? ⟨pp, 2, none⟩ = some (.bool false) ∧ w'.cell? ⟨w.heap.size, 0, none⟩ = some (.int .i64 1) ∧ w'.cell? ⟨w.heap.size, 1, none⟩ = some (.int .i64 bl) ∧ w'.cell? ⟨w.heap.size, 2, none⟩ = some (.int .i64 ct) ∧ w'.cell? ⟨w.heap.size, 3, none⟩ = some dv) (first | exact hc2 | assumption)
    (first
      | (go_at_call 24; refine HCC.out.mono ?_; rintro e w2 ⟨⟨b2, rfl, hb0, hb1⟩, hD2, hG2⟩; have HB2 : Hid (PBx w0 w2 pp L (S.read bl) RL (S.read bl) (WhIs (S.readErr bl) bl) nx k bv w.heap.size 1 bl ct dv) := hide (HB20.out.growR rfl hD2 hG2); have hc3 := HB2.out.cells; unfold PCells at hc3; have H0 := hide hb0; have H1 := hide hb1; have HG2 := hide hG2; clear hb0 hb1 hD2 hG2 HCC))
  have HNR : Hid (∀ g, wA.heap.size ≤ g → ¬ RL.U g) := hide fun g hg hu => by have := HB10.out.p.r.uLt g hu; omega
  have HTR := hide (trouble_ex (w2 := w2) HE.out fun g h1 h2 h3 => HG2.out.keep g h2 (HNR.out g h1))
  have HSB : Hid (∀ w3, Below w2.heap.size w2 w3 → Calls Tryz.prog 26 #[v, b2] w3 fun e w' => e = .returned (.bool true) ∧ ∃ n, w' = w3.drewN n) := hide fun w3 hb3 => by
    by_cases hz : S.readErr bl = 0
    · obtain ⟨l, hl, g, rfl, hg1, hg2, hg3⟩ := HV0.out hz
      obtain ⟨l', hl', g', rfl, hg1', hg2'⟩ := H0.out hz
      rw [hl] at hl'
      have el : l = l' := Option.some.inj hl'
      subst el
      refine (same_any _ _ _ _ w3 ((hg2.kept (HG2.out.keep g hg2.lt (HNR.out g hg1))).bsl.below hb3) (hg2'.bsl.below hb3)).mono ?_
      rintro e w' ⟨rfl, hw⟩
      exact ⟨by simp, hw⟩
    · rw [HV1.out hz, H1.out hz]
      refine (same_any _ _ _ _ w3 (nilBSl w3) (nilBSl w3)).mono ?_
      rintro e w' ⟨rfl, hw⟩
      exact ⟨by simp, hw⟩
  obtain ⟨hn1, hn2⟩ := HN.out
  clear HV0 HV1 H0 H1 HE HNR HG2
  generalize S.readErr bl = en at *
  go_wp2_with fail
  refine HTR.out.mono ?_
  rintro e w3 ⟨rfl, k3, hw3⟩
  have hb3 : Below w2.heap.size w2 w3 := by rw [hw3]; exact below_drewN (Below.refl _ _) k3
  have HB3 := hide (HB2.out.below hb3)
  have HSC := hide (HSB.out w3 hb3)
  have hc4 := HB3.out.cells
  unfold PCells at hc4
  have hc5 := HB3.out.p.cells.2.2.2
  clear hb3 hw3 HTR HSB
  go_wp2_with (go_at_call 26; refine HSC.out.mono ?_; rintro e w4 ⟨rfl, k4, hw4⟩; have HB4 := hide (HB3.out.below (show Below _ _ w4 by rw [hw4]; exact below_drewN (Below.refl _ _) k4)); have hc6 := HB4.out.cells; unfold PCells at hc6; clear hw4)
  go_ret
  exact ⟨by simp, HB4.out.all⟩

set_option maxHeartbeats 2000000 in
theorem look_8 {w0 w : World} {pp nx k : Nat} {S : St} (h : PAll w0 w pp S nx k) (bl ct : Int) (dv : Value) (hbl : i64ok bl) (hb : ∀ k, (S.cache k).length + 1 ≤ 268435456) :
    Calls Tryz.prog 11 #[.pointer (some ⟨pp, 0, none⟩), .agg #[.int .i64 8, .int .i64 bl, .int .i64 ct, dv]] w fun e w' => e = .returned (.bool true) ∧ PAll w0 w' pp S nx k := by
  obtain ⟨L, RL, wh, bv, hP⟩ := h
  have HB0 := hide (PBx.start hP 8 bl ct dv)
  have hd := HB0.out.cells
  unfold PCells at hd
  have HBL := hide hbl
  have HCB := hide hb
  clear hP hbl hb
  go_enter Tryz.func11, Tryz.ntmps11
  have HB10 := hide (HB0.out.below (Below.drew (Below.refl _ _)))
  have hc0 := HB10.out.cells
  unfold PCells at hc0
  have HCC := hide (Durable_any HB10.out.p.d bl)
  unfold PD at HCC
  go_wp2_with fail
  generalize hW0 : (w.alloc (.cells #[.int .i64 8, .int .i64 bl, .int .i64 ct, dv] 43)).drew = wA at HB10 HCC
  have HWA := hide hW0
  clear hW0
  go_region_held3 (fun w' => w'.cell? ⟨pp, 0, none⟩ = some (.pointer (some ⟨L.p, 0, none⟩)) ∧ w'.cell? ⟨pp, 1, none⟩ = some (.pointer (some ⟨RL.p, 0, none⟩)) ∧ w'.cell? ⟨pp, 2, none⟩ = some (.bool false) ∧ w'.cell? ⟨w.heap.size, 0, none⟩ = some (.int .i64 8) ∧ w'.cell? ⟨w.heap.size, 1, none⟩ = some (.int .i64 bl) ∧ w'.cell? ⟨w.heap.size, 2, none⟩ = some (.int .i64 ct) ∧ w'.cell? ⟨w.heap.size, 3, none⟩ = some dv) (first | exact hc0 | assumption)
    (first
      | (go_at_call 29; rw [HWA.out]; refine HCC.out.mono ?_; rintro e w1 ⟨v, u, rfl, hE, hV0, hV1, hR1, hG1⟩; have HB1 := hide (HB10.out.growDS hR1 hG1); have hc1 := HB1.out.cells; unfold PCells at hc1; have HE := hide hE; have HV0 := hide hV0; have HV1 := hide hV1; have HG1 := hide hG1; clear hE hV0 hV1 hR1 hG1 HCC))
  have HN : Hid (-9223372036854775808 ≤ S.durErr bl ∧ S.durErr bl ≤ 9223372036854775807) := hide (by unfold St.durErr; split; omega; split; omega; omega)
  have HB20 := hide (HB1.out.below (Below.drew (Below.refl _ _)))
  have hc2 := HB20.out.cells
  unfold PCells at hc2
  obtain ⟨R, r1, r2, r3⟩ := HB20.out.p.r
  have HCC := hide (rDurable r1 r2 bl )
  unfold PR at HCC
  clear r1 r2 r3
  go_wp2_with fail
  go_region_held3 (fun w' => w'.cell? ⟨pp, 0, none⟩ = some (.pointer (some ⟨L.p, 0, none⟩)) ∧ w'.cell? ⟨pp, 1, none⟩ = some (.pointer (some ⟨RL.p, 0, none⟩)) ∧ w'.cell? ⟨pp, 2, none⟩ = some (.bool false) ∧ w'.cell? ⟨w.heap.size, 0, none⟩ = some (.int .i64 8) ∧ w'.cell? ⟨w.heap.size, 1, none⟩ = some (.int .i64 bl) ∧ w'.cell? ⟨w.heap.size, 2, none⟩ = some (.int .i64 ct) ∧ w'.cell? ⟨w.heap.size, 3, none⟩ = some dv) (first | exact hc2 | assumption)
    (first
      | (go_at_call 30; refine HCC.out.mono ?_; rintro e w2 ⟨⟨b2, rfl, hb0, hb1⟩, hD2, hG2⟩; have HB2 : Hid (PBx w0 w2 pp L S RL S (WhIs (S.durErr bl) bl) nx k bv w.heap.size 8 bl ct dv) := hide (HB20.out.growR rfl hD2 hG2); have hc3 := HB2.out.cells; unfold PCells at hc3; have H0 := hide hb0; have H1 := hide hb1; have HG2 := hide hG2; clear hb0 hb1 hD2 hG2 HCC))
  have HNR : Hid (∀ g, wA.heap.size ≤ g → ¬ RL.U g) := hide fun g hg hu => by have := HB10.out.p.r.uLt g hu; omega
  have HTR := hide (trouble_ex (w2 := w2) HE.out fun g h1 h2 h3 => HG2.out.keep g h2 (HNR.out g h1))
  have HSB : Hid (∀ w3, Below w2.heap.size w2 w3 → Calls Tryz.prog 26 #[v, b2] w3 fun e w' => e = .returned (.bool true) ∧ ∃ n, w' = w3.drewN n) := hide fun w3 hb3 => by
    by_cases hz : S.durErr bl = 0
    · obtain ⟨l, hl, g, rfl, hg1, hg2, hg3⟩ := HV0.out hz
      obtain ⟨l', hl', g', rfl, hg1', hg2'⟩ := H0.out hz
      rw [hl] at hl'
      have el : l = l' := Option.some.inj hl'
      subst el
      refine (same_any _ _ _ _ w3 ((hg2.kept (HG2.out.keep g hg2.lt (HNR.out g hg1))).bsl.below hb3) (hg2'.bsl.below hb3)).mono ?_
      rintro e w' ⟨rfl, hw⟩
      exact ⟨by simp, hw⟩
    · rw [HV1.out hz, H1.out hz]
      refine (same_any _ _ _ _ w3 (nilBSl w3) (nilBSl w3)).mono ?_
      rintro e w' ⟨rfl, hw⟩
      exact ⟨by simp, hw⟩
  obtain ⟨hn1, hn2⟩ := HN.out
  clear HV0 HV1 H0 H1 HE HNR HG2
  generalize S.durErr bl = en at *
  go_wp2_with fail
  refine HTR.out.mono ?_
  rintro e w3 ⟨rfl, k3, hw3⟩
  have hb3 : Below w2.heap.size w2 w3 := by rw [hw3]; exact below_drewN (Below.refl _ _) k3
  have HB3 := hide (HB2.out.below hb3)
  have HSC := hide (HSB.out w3 hb3)
  have hc4 := HB3.out.cells
  unfold PCells at hc4
  have hc5 := HB3.out.p.cells.2.2.2
  clear hb3 hw3 HTR HSB
  go_wp2_with (go_at_call 26; refine HSC.out.mono ?_; rintro e w4 ⟨rfl, k4, hw4⟩; have HB4 := hide (HB3.out.below (show Below _ _ w4 by rw [hw4]; exact below_drewN (Below.refl _ _) k4)); have hc6 := HB4.out.cells; unfold PCells at hc6; clear hw4)
  go_ret
  exact ⟨by simp, HB4.out.all⟩

end Go.Proofs.YtlpmpicmpklaoacGreat
