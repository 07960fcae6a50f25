import Derived.Test.YtlpmpicmpklaoacGreatELaw8
namespace Go.Proofs.YtlpmpicmpklaoacGreat
open Go.RowKit Go.Maps Go.Sort
set_option linter.unusedVariables false
set_option linter.unusedSimpArgs false
set_option maxRecDepth 20000

set_option maxHeartbeats 2000000 in
theorem act_5 {w0 w : World} {pp nx k : Nat} {S : St} (h : PAll w0 w pp S nx k) (bl ct : Int) (dv : Value) (hb : ∀ k, (S.cache k).length + 1 ≤ 268435456) :
    Calls Tryz.prog 22 #[.pointer (some ⟨pp, 0, none⟩), .agg #[.int .i64 5, .int .i64 bl, .int .i64 ct, dv]] w fun e w' => e = .returned (.bool true) ∧ PAll w0 w' pp S.flush nx k := by
  obtain ⟨L, RL, wh, bv, hP⟩ := h
  have HB0 := hide (PBx.start hP 5 bl ct dv)
  have hd := HB0.out.cells
  unfold PCells at hd
  clear hP
  have HCB := hide hb
  clear hb
  have HC1 := hide (Flush_any HB0.out.p.d)
  unfold PD at HC1
  have HF2 := hide fun w1 (h : PBx w0 w1 pp L S.flush RL S wh nx k bv w.heap.size 5 bl ct dv) => rFlush h.p.r HCB.out
  unfold PR at HF2
  cases hok : S.stepOk with
  | false =>
    rw [hok] at HC1 HF2
    go_enter Tryz.func22, Tryz.ntmps22
    generalize hW0 : w.alloc (.cells #[.int .i64 5, .int .i64 bl, .int .i64 ct, dv] 43) = wA at HB0 HC1 hd
    have HWA := hide hW0
    clear hW0
    go_wp2_with (first
      | (go_at_call 57; refine HC1.out.mono ?_; rintro e w1 ⟨rfl, hR1, hG1⟩; have HB1 := hide (HB0.out.growDS hR1 hG1); have hc1 := HB1.out.cells; unfold PCells at hc1; clear hR1 hG1)
      | (go_at_call 58; refine (HF2.out _ HB1.out).mono ?_; rintro e w2 ⟨rfl, RL', hp', hD2, hG2⟩; have HB2 := hide (HB1.out.growR hp' hD2 hG2); have hc2 := HB2.out.cells; unfold PCells at hc2; rw [hp'] at hc2; clear hD2 hG2 hp')
      | (go_at_call 25; refine (trouble_22 _).mono ?_; rintro e w3 ⟨rfl, k3, hw3⟩; have HB3 := hide (HB2.out.below (show Below _ _ w3 by rw [hw3]; exact below_drewN (Below.refl _ _) k3)); clear hw3)
      | (rw [HWA.out]))
    go_ret
    exact ⟨by simp, HB3.out.all⟩
  | true =>
    rw [hok] at HC1 HF2
    go_enter Tryz.func22, Tryz.ntmps22
    generalize hW0 : w.alloc (.cells #[.int .i64 5, .int .i64 bl, .int .i64 ct, dv] 43) = wA at HB0 HC1 hd
    have HWA := hide hW0
    clear hW0
    go_wp2_with (first
      | (go_at_call 57; refine HC1.out.mono ?_; rintro e w1 ⟨rfl, hR1, hG1⟩; have HB1 := hide (HB0.out.growDS hR1 hG1); have hc1 := HB1.out.cells; unfold PCells at hc1; clear hR1 hG1)
      | (go_at_call 58; refine (HF2.out _ HB1.out).mono ?_; rintro e w2 ⟨rfl, RL', hp', hD2, hG2⟩; have HB2 := hide (HB1.out.growR hp' hD2 hG2); have hc2 := HB2.out.cells; unfold PCells at hc2; rw [hp'] at hc2; clear hD2 hG2 hp')
      | (go_at_call 25; refine (trouble_nil _).mono ?_; rintro e w3 ⟨rfl, hw3⟩; cases hw3)
      | (rw [HWA.out]))
    go_ret
    exact ⟨by simp, HB2.out.all⟩

set_option maxHeartbeats 2000000 in
theorem act_11 {w0 w : World} {pp nx k : Nat} {S : St} (h : PAll w0 w pp S nx k) (bl ct : Int) (dv : Value) (hct : i64ok ct) :
    Calls Tryz.prog 22 #[.pointer (some ⟨pp, 0, none⟩), .agg #[.int .i64 11, .int .i64 bl, .int .i64 ct, dv]] w fun e w' => e = .returned (.bool true) ∧ PAll w0 w' pp (S.fused ct) nx k := by
  obtain ⟨L, RL, wh, bv, hP⟩ := h
  have HB0 := hide (PBx.start hP 11 bl ct dv)
  have hd := HB0.out.cells
  unfold PCells at hd
  clear hP
  have HCT := hide hct
  clear hct
  go_enter Tryz.func22, Tryz.ntmps22
  have HB10 := hide (HB0.out.below (Below.drew (Below.refl _ _)))
  have hc0 := HB10.out.cells
  unfold PCells at hc0
  have HCC := hide (Fuse_any HB10.out.p.d ct HCT.out)
  unfold PD at HCC
  go_wp2_with fail
  generalize hW0 : (w.alloc (.cells #[.int .i64 11, .int .i64 bl, .int .i64 ct, dv] 43)).drew = wA at HB10 HCC
  have HWA := hide hW0
  clear hW0
  go_region_held3 (fun w' => w'.cell? ⟨pp, 0, none⟩ = some (.pointer (some ⟨L.p, 0, none⟩)) ∧ w'.cell? ⟨pp, 1, none⟩ = some (.pointer (some ⟨RL.p, 0, none⟩)) ∧ w'.cell? ⟨pp, 2, none⟩ = some (.bool false) ∧ w'.cell? ⟨w.heap.size, 0, none⟩ = some (.int .i64 11) ∧ w'.cell? ⟨w.heap.size, 1, none⟩ = some (.int .i64 bl) ∧ w'.cell? ⟨w.heap.size, 2, none⟩ = some (.int .i64 ct) ∧ w'.cell? ⟨w.heap.size, 3, none⟩ = some dv) (first | exact hc0 | assumption)
    (first
      | (go_at_call 61; rw [HWA.out]; refine HCC.out.mono ?_; rintro e w1 ⟨rfl, hR1, hG1, -⟩; have HB1 := hide (HB10.out.growDS hR1 hG1); have hc1 := HB1.out.cells; unfold PCells at hc1; clear hR1 hG1 HCC))
  have HB20 := hide (HB1.out.below (Below.drew (Below.refl _ _)))
  have hc2 := HB20.out.cells
  unfold PCells at hc2
  have HPR := hide (rFuse HB20.out.p.r ct HCT.out)
  unfold PR at HPR
  go_wp2_with fail
  go_region_held3 (fun w' => w'.cell? ⟨pp, 0, none⟩ = some (.pointer (some ⟨L.p, 0, none⟩)) ∧ w'.cell? ⟨pp, 1, none⟩ = some (.pointer (some ⟨RL.p, 0, none⟩)) ∧ w'.cell? ⟨pp, 2, none⟩ = some (.bool false) ∧ w'.cell? ⟨w.heap.size, 0, none⟩ = some (.int .i64 11) ∧ w'.cell? ⟨w.heap.size, 1, none⟩ = some (.int .i64 bl) ∧ w'.cell? ⟨w.heap.size, 2, none⟩ = some (.int .i64 ct) ∧ w'.cell? ⟨w.heap.size, 3, none⟩ = some dv) (first | exact hc2 | assumption)
    (first
      | (go_at_call 62; refine HPR.out.mono ?_; rintro e w3 ⟨rfl, hD3, hG3⟩; have HB3 := hide (HB20.out.growR rfl hD3 hG3); have hc5 := HB3.out.cells; unfold PCells at hc5; clear hD3 hG3))
  go_wp2
  go_ret
  exact ⟨rfl, HB3.out.all⟩

set_option maxHeartbeats 2000000 in
theorem act_13 {w0 w : World} {pp nx k : Nat} {S : St} (h : PAll w0 w pp S nx k) (bl ct : Int) (dv : Value) (dl : List Nat) (hdat : Dat w0 dv dl) (hb : ∀ k, (S.cache k).length + 1 ≤ 268435456) (hnx : nx ≤ 1152921504606846976) (hk : k ≤ 1152921504606) :
    Calls Tryz.prog 22 #[.pointer (some ⟨pp, 0, none⟩), .agg #[.int .i64 13, .int .i64 bl, .int .i64 ct, dv]] w fun e w' => e = .returned (.bool true) ∧ PAll w0 w' pp (S.crash dl) (nx + 1) (k + 2) := by
  obtain ⟨L, RL, wh, bv, hP⟩ := h
  have HB0 := hide (PBx.start hP 13 bl ct dv)
  have hd := HB0.out.cells
  unfold PCells at hd
  clear hP
  have HDA := hide hdat
  have HCB := hide hb
  have HNX := hide hnx
  have HKK := hide hk
  have HSML : Hid (dl.length ≤ 1048576) := hide hdat.sm
  clear hb hdat hnx hk
  have HC1 := hide (hand_any _ dv dl (HDA.out.at_ HB0.out.p.be) (by have := HSML.out; omega))
  have HNL : Hid (∀ g, (w.alloc (.cells #[.int .i64 13, .int .i64 bl, .int .i64 ct, dv] 43)).heap.size ≤ g → ¬ L.U g ∧ ¬ RL.U g) := hide fun g hg => ⟨fun hu => by have := HB0.out.p.d.uLt g hu; omega, fun hu => by have := HB0.out.p.r.uLt g hu; omega⟩
  have HW0 : Hid (w0.heap.size ≤ (w.alloc (.cells #[.int .i64 13, .int .i64 bl, .int .i64 ct, dv] 43)).heap.size) := hide HB0.out.p.be.size
  go_enter Tryz.func22, Tryz.ntmps22
  generalize hWA : w.alloc (.cells #[.int .i64 13, .int .i64 bl, .int .i64 ct, dv] 43) = wA at HB0 HC1 hd HNL HW0
  have HWA := hide hWA
  clear hWA
  go_wp2_with (first
    | (go_at_call 13; refine HC1.out.mono ?_; rintro e w1 ⟨rfl, hp1, hb1⟩; have HB1 := hide (HB0.out.below hb1); have hc1 := HB1.out.cells; unfold PCells at hc1; have HP1 := hide hp1; clear hp1 hb1)
    | (rw [HWA.out]))
  obtain ⟨g, hg⟩ : ∃ g, wA.heap.size = g := ⟨_, rfl⟩
  rw [hg] at HP1 HNL HW0 ⊢
  clear hg
  have HB10 := hide (HB1.out.below (Below.drew (Below.refl _ _)))
  have hc2 := HB10.out.cells
  unfold PCells at hc2
  have HAR := hide (arg_any (w := w1.drew) (g := g) (HDA.out.at_ HB10.out.p.be) ⟨HP1.out.1, HP1.out.2⟩ (by have := HSML.out; omega))
  have HL0 : Hid (g < w1.heap.size ∧ ¬ L.U g ∧ ¬ RL.U g) := hide ⟨HP1.out.lt, HNL.out g (Nat.le_refl _)⟩
  have HPW := hide fun u (hu : BSl w1.drew u dl) (hx : ∀ x, blockOf u = some x → x = g) => Crash_any HB10.out.p.d hu (fun _ x hx' hU => HL0.out.2.1 ((hx x hx') ▸ hU)) (fun k => by have := HCB.out k; omega)
  unfold PD at HPW
  go_wp2_with fail
  go_region_held3 (fun w' => w'.cell? ⟨pp, 0, none⟩ = some (.pointer (some ⟨L.p, 0, none⟩)) ∧ w'.cell? ⟨pp, 1, none⟩ = some (.pointer (some ⟨RL.p, 0, none⟩)) ∧ w'.cell? ⟨pp, 2, none⟩ = some (.bool false) ∧ w'.cell? ⟨w.heap.size, 0, none⟩ = some (.int .i64 13) ∧ w'.cell? ⟨w.heap.size, 1, none⟩ = some (.int .i64 bl) ∧ w'.cell? ⟨w.heap.size, 2, none⟩ = some (.int .i64 ct) ∧ w'.cell? ⟨w.heap.size, 3, none⟩ = some dv) (first | exact hc2 | assumption)
    (first
      | (go_at_call 15; refine HAR.out.mono ?_; rintro e w' ⟨u, rfl, hw', hu, hux⟩; cases hw'; have HU := hide hu; have HUX := hide hux; clear hu hux)
      | (go_at_call 63; refine (HPW.out _ HU.out HUX.out).mono ?_; rintro e w2 ⟨rfl, hR2, hG2⟩; have HB2 := hide (HB10.out.growDS hR2 hG2); have hc3 := HB2.out.cells; unfold PCells at hc3; have HP2 := hide (HP1.out.kept (w' := w2) (hG2.keep g HL0.out.1 HL0.out.2.1)); have HL2 : Hid (g < w2.heap.size ∧ ¬ L.U g ∧ ¬ RL.U g) := hide ⟨Nat.lt_of_lt_of_le HL0.out.1 hG2.size, HL0.out.2⟩; clear hR2 hG2))
  have HB20 := hide (HB2.out.below (Below.drew (Below.refl _ _)))
  have hc4 := HB20.out.cells
  unfold PCells at hc4
  have HPR := hide (rCrash HB20.out.p.r (HDA.out.at_ HB20.out.p.be) (HDA.out.off HB20.out.p.uR) HCB.out)
  unfold PR at HPR
  clear HPW HAR
  go_wp2_with fail
  go_region_held3 (fun w' => w'.cell? ⟨pp, 0, none⟩ = some (.pointer (some ⟨L.p, 0, none⟩)) ∧ w'.cell? ⟨pp, 1, none⟩ = some (.pointer (some ⟨RL.p, 0, none⟩)) ∧ w'.cell? ⟨pp, 2, none⟩ = some (.bool false) ∧ w'.cell? ⟨w.heap.size, 0, none⟩ = some (.int .i64 13) ∧ w'.cell? ⟨w.heap.size, 1, none⟩ = some (.int .i64 bl) ∧ w'.cell? ⟨w.heap.size, 2, none⟩ = some (.int .i64 ct) ∧ w'.cell? ⟨w.heap.size, 3, none⟩ = some dv) (first | exact hc4 | assumption)
    (first
      | (go_at_call 64; refine HPR.out.mono ?_; rintro e w3 ⟨rfl, RL', hp', hD3, hG3⟩; have HB3 := hide (HB20.out.growR hp' hD3 hG3); have hc5 := HB3.out.cells; unfold PCells at hc5; rw [hp'] at hc5; have HP3 := hide (HP2.out.kept (w' := w3) (hG3.keep g HL2.out.1 HL2.out.2.2)); have HL3 : Hid (¬ L.U g ∧ ¬ RL'.U g) := hide ⟨HL2.out.2.1, fun hx => HL2.out.2.2 (hG3.new g HL2.out.1 hx)⟩; have HPP := hide hp'; clear hD3 hG3 hp'))
  have HUN := hide (untouched_any (HDA.out.at_ HB3.out.p.be) HP3.out (by have := HSML.out; omega))
  go_wp2_with (go_at_call 17; refine HUN.out.mono ?_; rintro e w5 ⟨rfl, k5, hw5⟩; have hb5 : Below w3.heap.size w3 w5 := (by rw [hw5]; exact below_drewN (Below.refl _ _) k5); have HB5 := hide (HB3.out.below hb5); have HP5 := hide (HP3.out.kept (hb5.block g HP3.out.lt)); have hc8 := HB5.out.cells; unfold PCells at hc8; rw [HPP.out] at hc8; clear hw5 hb5)
  have hbb := bookBytes HB5.out.p.b HP5.out (by have := HSML.out; simp [marks]; omega) HNX.out HKK.out
  rw [show (dl ++ marks).length = dl.length + 6 by simp [marks]] at hbb
  have HBB := hide hbb
  clear hbb
  refine HBB.out.mono ?_
  rintro e w6 ⟨rfl, bv6, hB6, e1, e2, e3, hs6, hk6, ho6⟩
  have HP6 := hide (HB5.out.p.book (g := g) HW0.out HL3.out.1 HL3.out.2 hB6 e1 e2 e3 hs6 hk6 ho6)
  clear hB6 e1 e2 e3 hs6 hk6 ho6
  go_wp2
  go_ret
  exact ⟨by simp, _, _, _, _, HP6.out⟩

set_option maxHeartbeats 1000000 in
theorem act_no {w0 w : World} {pp nx k : Nat} {S : St} (h : PAll w0 w pp S nx k) (kd bl ct : Int) (dv : Value) (h4 : kd ≠ 4) (h5 : kd ≠ 5) (h10 : kd ≠ 10) (h11 : kd ≠ 11) (h13 : kd ≠ 13) :
    Calls Tryz.prog 22 #[.pointer (some ⟨pp, 0, none⟩), .agg #[.int .i64 kd, .int .i64 bl, .int .i64 ct, dv]] w fun e w' => e = .returned (.bool true) ∧ PAll w0 w' pp S nx k := by
  obtain ⟨L, RL, wh, bv, hP⟩ := h
  have HB0 := hide (PBx.start hP kd bl ct dv)
  have hd := HB0.out.cells
  unfold PCells at hd
  clear hP
  go_enter Tryz.func22, Tryz.ntmps22
  go_wp2
  go_ret
  exact ⟨rfl, HB0.out.all⟩
end Go.Proofs.YtlpmpicmpklaoacGreat
