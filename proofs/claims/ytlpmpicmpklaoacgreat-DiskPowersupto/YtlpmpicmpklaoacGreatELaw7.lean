import Derived.Test.YtlpmpicmpklaoacGreatELaw6
namespace Go.Proofs.YtlpmpicmpklaoacGreat
open Go.RowKit Go.Maps Go.Sort
set_option linter.unusedVariables false
set_option linter.unusedSimpArgs false
set_option maxRecDepth 20000

theorem putErr_le2 (S : St) (b : Int) (n : Nat) : -9223372036854775808 ≤ S.putErr b n ∧ S.putErr b n ≤ 9223372036854775807 := by
  unfold St.putErr
  split
  · omega
  · split
    · omega
    · split <;> omega

/-- the data of an operation: old memory -/
structure Dat (w0 : World) (dv : Value) (dl : List Nat) : Prop where
  bs : BSl w0 dv dl
  sm : dl.length ≤ 1048576
theorem Dat.at_ {w0 w : World} {dv : Value} {dl : List Nat} (h : Dat w0 dv dl) (hb : Below w0.heap.size w0 w) : BSl w dv dl := h.bs.below hb
theorem Dat.off {w0 : World} {dv : Value} {dl : List Nat} (h : Dat w0 dv dl) {U : Nat → Prop} (hU : ∀ x, U x → w0.heap.size ≤ x) : 0 < dl.length → ∀ g, blockOf dv = some g → ¬ U g := fun hp g hg hu => by
  have := h.bs.old hp g hg
  have := hU g hu
  omega

set_option maxHeartbeats 2000000 in
theorem lay_2 {w0 w : World} {pp nx k : Nat} {S : St} (h : PAll w0 w pp S nx k) (bl ct : Int) (dv : Value) (dl : List Nat) (hdat : Dat w0 dv dl) (hb : ∀ k, (S.cache k).length + 1 ≤ 268435456) (hnx : nx ≤ 1152921504606846976) (hk : k ≤ 1152921504606) :
    Calls Tryz.prog 21 #[.pointer (some ⟨pp, 0, none⟩), .agg #[.int .i64 2, .int .i64 bl, .int .i64 ct, dv]] w fun e w' => e = .returned (.bool true) ∧ PAll w0 w' pp (S.write bl dl) (nx + 1) (k + 2) := by
  obtain ⟨L, RL, wh, bv, hP⟩ := h
  have HB0 := hide (PBx.start hP 2 bl ct dv)
  have hd := HB0.out.cells
  unfold PCells at hd
  have HDA := hide hdat
  have HCB := hide hb
  have HNX := hide hnx
  have HKK := hide hk
  have HSML : Hid (dl.length ≤ 1048576) := hide hdat.sm
  clear hP hb hdat hnx hk
  have HC1 := hide (hand_any _ dv dl (HDA.out.at_ HB0.out.p.be) (by have := HSML.out; omega))
  have HNL : Hid (∀ g, (w.alloc (.cells #[.int .i64 2, .int .i64 bl, .int .i64 ct, dv] 43)).heap.size ≤ g → ¬ L.U g ∧ ¬ RL.U g) := hide fun g hg => ⟨fun hu => by have := HB0.out.p.d.uLt g hu; omega, fun hu => by have := HB0.out.p.r.uLt g hu; omega⟩
  have HW0 : Hid (w0.heap.size ≤ (w.alloc (.cells #[.int .i64 2, .int .i64 bl, .int .i64 ct, dv] 43)).heap.size) := hide HB0.out.p.be.size
  go_enter Tryz.func21, Tryz.ntmps21
  generalize hWA : w.alloc (.cells #[.int .i64 2, .int .i64 bl, .int .i64 ct, dv] 43) = wA at HB0 HC1 hd HNL HW0
  have HWA := hide hWA
  clear hWA
  go_wp2_with (first
    | (go_at_call 13; refine HC1.out.mono ?_; rintro e w1 ⟨rfl, hp1, hb1⟩; have HB1 := hide (HB0.out.below hb1); have hc1 := HB1.out.cells; unfold PCells at hc1; have HP1 := hide hp1; clear hp1 hb1)
    | (rw [HWA.out]))
  obtain ⟨g, hg⟩ : ∃ g, wA.heap.size = g := ⟨_, rfl⟩
  rw [hg] at HP1 HNL HW0 ⊢
  clear hg
  -- the program's
  have HB10 := hide (HB1.out.below (Below.drew (Below.refl _ _)))
  have hc2 := HB10.out.cells
  unfold PCells at hc2
  have HAR := hide (arg_any (w := w1.drew) (g := g) (HDA.out.at_ HB10.out.p.be) ⟨HP1.out.1, HP1.out.2⟩ (by have := HSML.out; omega))
  have HPW := hide fun u (hu : BSl w1.drew u dl) => Write_any HB10.out.p.d bl u hu (fun k => by have := HCB.out k; omega)
  unfold PD at HPW
  have HL0 : Hid (g < w1.heap.size ∧ ¬ L.U g ∧ ¬ RL.U g) := hide ⟨HP1.out.lt, HNL.out g (Nat.le_refl _)⟩
  go_wp2_with fail
  go_region_held3 (fun w' => w'.cell? ⟨pp, 0, none⟩ = some (.pointer (some ⟨L.p, 0, none⟩)) ∧ w'.cell? ⟨pp, 1, none⟩ = some (.pointer (some ⟨RL.p, 0, none⟩)) ∧ w'.cell? ⟨pp, 2, none⟩ = some (.bool false) ∧ w'.cell? ⟨w.heap.size, 0, none⟩ = some (.int .i64 2) ∧ w'.cell? ⟨w.heap.size, 1, none⟩ = some (.int .i64 bl) ∧ w'.cell? ⟨w.heap.size, 2, none⟩ = some (.int .i64 ct) ∧ w'.cell? ⟨w.heap.size, 3, none⟩ = some dv) (first | exact hc2 | assumption)
    (first
      | (go_at_call 15; refine HAR.out.mono ?_; rintro e w' ⟨u, rfl, hw', hu, -⟩; cases hw'; have HU := hide hu; clear hu)
      | (go_at_call 51; refine (HPW.out _ HU.out).mono ?_; rintro e w2 ⟨eu, U2, rfl, hE2, hR2, hG2⟩; have HB2 := hide (HB10.out.growD hR2 hG2); have hc3 := HB2.out.cells; unfold PCells at hc3; have HE2 := hide hE2; have HP2 := hide (HP1.out.kept (w' := w2) (hG2.keep g HL0.out.1 HL0.out.2.1)); have HL2 : Hid (g < w2.heap.size ∧ ¬ U2 g ∧ ¬ RL.U g) := hide ⟨Nat.lt_of_lt_of_le HL0.out.1 hG2.size, fun hx => HL0.out.2.1 (hG2.new g HL0.out.1 hx), HL0.out.2.2⟩; clear hE2 hR2 hG2))
  -- the document's
  have HB20 := hide (HB2.out.below (Below.drew (Below.refl _ _)))
  have hc4 := HB20.out.cells
  unfold PCells at hc4
  have HPR := hide (rWrite HB20.out.p.r bl dv (HDA.out.at_ HB20.out.p.be) (HDA.out.off HB20.out.p.uR) HCB.out)
  unfold PR at HPR
  have HNR : Hid (∀ x, w1.drew.heap.size ≤ x → ¬ RL.U x) := hide fun x hx hu => by have := HB10.out.p.r.uLt x hu; omega
  have HNN := hide (putErr_le2 S bl dl.length)
  clear HPW HAR
  go_wp2_with fail
  go_region_held3 (fun w' => w'.cell? ⟨pp, 0, none⟩ = some (.pointer (some ⟨L.p, 0, none⟩)) ∧ w'.cell? ⟨pp, 1, none⟩ = some (.pointer (some ⟨RL.p, 0, none⟩)) ∧ w'.cell? ⟨pp, 2, none⟩ = some (.bool false) ∧ w'.cell? ⟨w.heap.size, 0, none⟩ = some (.int .i64 2) ∧ w'.cell? ⟨w.heap.size, 1, none⟩ = some (.int .i64 bl) ∧ w'.cell? ⟨w.heap.size, 2, none⟩ = some (.int .i64 ct) ∧ w'.cell? ⟨w.heap.size, 3, none⟩ = some dv) (first | exact hc4 | assumption)
    (first
      | (go_at_call 52; refine HPR.out.mono ?_; rintro e w3 ⟨rfl, RL', hp', hD3, hG3⟩; have HB3 : Hid (PBx w0 w3 pp { L with U := U2 } (S.write bl dl) RL' (S.write bl dl) (WhIs (S.putErr bl dl.length) bl) nx k bv w.heap.size 2 bl ct dv) := hide (HB20.out.growR hp' hD3 hG3); have hc5 := HB3.out.cells; unfold PCells at hc5; rw [hp'] at hc5; have HP3 := hide (HP2.out.kept (w' := w3) (hG3.keep g HL2.out.1 HL2.out.2.2)); have HL3 : Hid (¬ U2 g ∧ ¬ RL'.U g) := hide ⟨HL2.out.2.1, fun hx => HL2.out.2.2 (hG3.new g HL2.out.1 hx)⟩; have HTR := hide (trouble_ex (w2 := w3) HE2.out fun x h1 h2 h3 => hG3.keep x h2 (HNR.out x h1)); have HPP := hide hp'; clear hD3 hG3 hp'))
  obtain ⟨hn1, hn2⟩ := HNN.out
  clear HE2 HNR HPR
  generalize S.putErr bl dl.length = en at *
  go_wp2_with fail
  refine HTR.out.mono ?_
  rintro e w4 ⟨rfl, k4, hw4⟩
  have hb4 : Below w3.heap.size w3 w4 := by rw [hw4]; exact below_drewN (Below.refl _ _) k4
  have HB4 := hide (HB3.out.below hb4)
  have HP4 := hide (HP3.out.kept (hb4.block g HP3.out.lt))
  have hc6 := HB4.out.cells
  unfold PCells at hc6
  have hc7 := HB4.out.p.cells.2.2.2
  rw [HPP.out] at hc6 hc7
  have HUN := hide (untouched_any (HDA.out.at_ HB4.out.p.be) HP4.out (by have := HSML.out; omega))
  clear hb4 hw4 HTR
  go_wp2_with (go_at_call 17; refine HUN.out.mono ?_; rintro e w5 ⟨rfl, k5, hw5⟩; have hb5 : Below w4.heap.size w4 w5 := (by rw [hw5]; exact below_drewN (Below.refl _ _) k5); have HB5 := hide (HB4.out.below hb5); have HP5 := hide (HP4.out.kept (hb5.block g HP4.out.lt)); have hc8 := HB5.out.cells; unfold PCells at hc8; rw [HPP.out] at hc8; clear hw5 hb5)
  have hbb := bookBytes HB5.out.p.b HP5.out (by have := HSML.out; simp [marks]; omega) HNX.out HKK.out
  rw [show (dl ++ marks).length = dl.length + 6 by simp [marks]] at hbb
  have HBB := hide hbb
  clear hbb
  refine HBB.out.mono ?_
  rintro e w6 ⟨rfl, bv6, hB6, e1, e2, e3, hs6, hk6, ho6⟩
  have HP6 := hide (HB5.out.p.book (g := g) HW0.out HL3.out.1 HL3.out.2 hB6 e1 e2 e3 hs6 hk6 ho6)
  have hc9 := HP6.out.cells
  rw [HPP.out] at hc9
  clear hB6 e1 e2 e3 hs6 hk6 ho6
  go_wp2
  go_ret
  exact ⟨by simp, _, _, _, _, HP6.out⟩

set_option maxHeartbeats 2000000 in
theorem lay_3 {w0 w : World} {pp nx k : Nat} {S : St} (h : PAll w0 w pp S nx k) (bl ct : Int) (dv : Value) (dl : List Nat) (hdat : Dat w0 dv dl) (hb : ∀ k, (S.cache k).length + 1 ≤ 268435456) (hnx : nx ≤ 1152921504606846976) (hk : k ≤ 1152921504606) :
    Calls Tryz.prog 21 #[.pointer (some ⟨pp, 0, none⟩), .agg #[.int .i64 3, .int .i64 bl, .int .i64 ct, dv]] w fun e w' => e = .returned (.bool true) ∧ PAll w0 w' pp (S.through bl dl) (nx + 1) (k + 2) := by
  obtain ⟨L, RL, wh, bv, hP⟩ := h
  have HB0 := hide (PBx.start hP 3 bl ct dv)
  have hd := HB0.out.cells
  unfold PCells at hd
  have HDA := hide hdat
  have HCB := hide hb
  have HNX := hide hnx
  have HKK := hide hk
  have HSML : Hid (dl.length ≤ 1048576) := hide hdat.sm
  clear hP hb hdat hnx hk
  have HC1 := hide (hand_any _ dv dl (HDA.out.at_ HB0.out.p.be) (by have := HSML.out; omega))
  have HNL : Hid (∀ g, (w.alloc (.cells #[.int .i64 3, .int .i64 bl, .int .i64 ct, dv] 43)).heap.size ≤ g → ¬ L.U g ∧ ¬ RL.U g) := hide fun g hg => ⟨fun hu => by have := HB0.out.p.d.uLt g hu; omega, fun hu => by have := HB0.out.p.r.uLt g hu; omega⟩
  have HW0 : Hid (w0.heap.size ≤ (w.alloc (.cells #[.int .i64 3, .int .i64 bl, .int .i64 ct, dv] 43)).heap.size) := hide HB0.out.p.be.size
  go_enter Tryz.func21, Tryz.ntmps21
  generalize hWA : w.alloc (.cells #[.int .i64 3, .int .i64 bl, .int .i64 ct, dv] 43) = wA at HB0 HC1 hd HNL HW0
  have HWA := hide hWA
  clear hWA
  go_wp2_with (first
    | (go_at_call 13; refine HC1.out.mono ?_; rintro e w1 ⟨rfl, hp1, hb1⟩; have HB1 := hide (HB0.out.below hb1); have hc1 := HB1.out.cells; unfold PCells at hc1; have HP1 := hide hp1; clear hp1 hb1)
    | (rw [HWA.out]))
  obtain ⟨g, hg⟩ : ∃ g, wA.heap.size = g := ⟨_, rfl⟩
  rw [hg] at HP1 HNL HW0 ⊢
  clear hg
  -- the program's
  have HB10 := hide (HB1.out.below (Below.drew (Below.refl _ _)))
  have hc2 := HB10.out.cells
  unfold PCells at hc2
  have HAR := hide (arg_any (w := w1.drew) (g := g) (HDA.out.at_ HB10.out.p.be) ⟨HP1.out.1, HP1.out.2⟩ (by have := HSML.out; omega))
  have HPW := hide fun u (hu : BSl w1.drew u dl) => Through_any HB10.out.p.d bl u hu
  unfold PD at HPW
  have HL0 : Hid (g < w1.heap.size ∧ ¬ L.U g ∧ ¬ RL.U g) := hide ⟨HP1.out.lt, HNL.out g (Nat.le_refl _)⟩
  go_wp2_with fail
  go_region_held3 (fun w' => w'.cell? ⟨pp, 0, none⟩ = some (.pointer (some ⟨L.p, 0, none⟩)) ∧ w'.cell? ⟨pp, 1, none⟩ = some (.pointer (some ⟨RL.p, 0, none⟩)) ∧ w'.cell? ⟨pp, 2, none⟩ = some (.bool false) ∧ w'.cell? ⟨w.heap.size, 0, none⟩ = some (.int .i64 3) ∧ w'.cell? ⟨w.heap.size, 1, none⟩ = some (.int .i64 bl) ∧ w'.cell? ⟨w.heap.size, 2, none⟩ = some (.int .i64 ct) ∧ w'.cell? ⟨w.heap.size, 3, none⟩ = some dv) (first | exact hc2 | assumption)
    (first
      | (go_at_call 15; refine HAR.out.mono ?_; rintro e w' ⟨u, rfl, hw', hu, -⟩; cases hw'; have HU := hide hu; clear hu)
      | (go_at_call 53; refine (HPW.out _ HU.out).mono ?_; rintro e w2 ⟨eu, U2, rfl, hE2, hR2, hG2⟩; have HB2 := hide (HB10.out.growD hR2 hG2); have hc3 := HB2.out.cells; unfold PCells at hc3; have HE2 := hide hE2; have HP2 := hide (HP1.out.kept (w' := w2) (hG2.keep g HL0.out.1 HL0.out.2.1)); have HL2 : Hid (g < w2.heap.size ∧ ¬ U2 g ∧ ¬ RL.U g) := hide ⟨Nat.lt_of_lt_of_le HL0.out.1 hG2.size, fun hx => HL0.out.2.1 (hG2.new g HL0.out.1 hx), HL0.out.2.2⟩; clear hE2 hR2 hG2))
  -- the document's
  have HB20 := hide (HB2.out.below (Below.drew (Below.refl _ _)))
  have hc4 := HB20.out.cells
  unfold PCells at hc4
  have HPR := hide (rThrough HB20.out.p.r bl dv (HDA.out.at_ HB20.out.p.be) (HDA.out.off HB20.out.p.uR) HCB.out)
  unfold PR at HPR
  have HNR : Hid (∀ x, w1.drew.heap.size ≤ x → ¬ RL.U x) := hide fun x hx hu => by have := HB10.out.p.r.uLt x hu; omega
  have HNN := hide (putErr_le2 S bl dl.length)
  clear HPW HAR
  go_wp2_with fail
  go_region_held3 (fun w' => w'.cell? ⟨pp, 0, none⟩ = some (.pointer (some ⟨L.p, 0, none⟩)) ∧ w'.cell? ⟨pp, 1, none⟩ = some (.pointer (some ⟨RL.p, 0, none⟩)) ∧ w'.cell? ⟨pp, 2, none⟩ = some (.bool false) ∧ w'.cell? ⟨w.heap.size, 0, none⟩ = some (.int .i64 3) ∧ w'.cell? ⟨w.heap.size, 1, none⟩ = some (.int .i64 bl) ∧ w'.cell? ⟨w.heap.size, 2, none⟩ = some (.int .i64 ct) ∧ w'.cell? ⟨w.heap.size, 3, none⟩ = some dv) (first | exact hc4 | assumption)
    (first
      | (go_at_call 54; refine HPR.out.mono ?_; rintro e w3 ⟨rfl, RL', hp', hD3, hG3⟩; have HB3 : Hid (PBx w0 w3 pp { L with U := U2 } (S.through bl dl) RL' (S.through bl dl) (WhIs (S.putErr bl dl.length) bl) nx k bv w.heap.size 3 bl ct dv) := hide (HB20.out.growR hp' hD3 hG3); have hc5 := HB3.out.cells; unfold PCells at hc5; rw [hp'] at hc5; have HP3 := hide (HP2.out.kept (w' := w3) (hG3.keep g HL2.out.1 HL2.out.2.2)); have HL3 : Hid (¬ U2 g ∧ ¬ RL'.U g) := hide ⟨HL2.out.2.1, fun hx => HL2.out.2.2 (hG3.new g HL2.out.1 hx)⟩; have HTR := hide (trouble_ex (w2 := w3) HE2.out fun x h1 h2 h3 => hG3.keep x h2 (HNR.out x h1)); have HPP := hide hp'; clear hD3 hG3 hp'))
  obtain ⟨hn1, hn2⟩ := HNN.out
  clear HE2 HNR HPR
  generalize S.putErr bl dl.length = en at *
  go_wp2_with fail
  refine HTR.out.mono ?_
  rintro e w4 ⟨rfl, k4, hw4⟩
  have hb4 : Below w3.heap.size w3 w4 := by rw [hw4]; exact below_drewN (Below.refl _ _) k4
  have HB4 := hide (HB3.out.below hb4)
  have HP4 := hide (HP3.out.kept (hb4.block g HP3.out.lt))
  have hc6 := HB4.out.cells
  unfold PCells at hc6
  have hc7 := HB4.out.p.cells.2.2.2
  rw [HPP.out] at hc6 hc7
  have HUN := hide (untouched_any (HDA.out.at_ HB4.out.p.be) HP4.out (by have := HSML.out; omega))
  clear hb4 hw4 HTR
  go_wp2_with (go_at_call 17; refine HUN.out.mono ?_; rintro e w5 ⟨rfl, k5, hw5⟩; have hb5 : Below w4.heap.size w4 w5 := (by rw [hw5]; exact below_drewN (Below.refl _ _) k5); have HB5 := hide (HB4.out.below hb5); have HP5 := hide (HP4.out.kept (hb5.block g HP4.out.lt)); have hc8 := HB5.out.cells; unfold PCells at hc8; rw [HPP.out] at hc8; clear hw5 hb5)
  have hbb := bookBytes HB5.out.p.b HP5.out (by have := HSML.out; simp [marks]; omega) HNX.out HKK.out
  rw [show (dl ++ marks).length = dl.length + 6 by simp [marks]] at hbb
  have HBB := hide hbb
  clear hbb
  refine HBB.out.mono ?_
  rintro e w6 ⟨rfl, bv6, hB6, e1, e2, e3, hs6, hk6, ho6⟩
  have HP6 := hide (HB5.out.p.book (g := g) HW0.out HL3.out.1 HL3.out.2 hB6 e1 e2 e3 hs6 hk6 ho6)
  have hc9 := HP6.out.cells
  rw [HPP.out] at hc9
  clear hB6 e1 e2 e3 hs6 hk6 ho6
  go_wp2
  go_ret
  exact ⟨by simp, _, _, _, _, HP6.out⟩

end Go.Proofs.YtlpmpicmpklaoacGreat
