import Derived.Test.YtlpmpicmpklaoacGreatELaw7
import Derived.Laws.BitsAllLaws
namespace Go.Proofs.YtlpmpicmpklaoacGreat
open Go.RowKit Go.Maps Go.Sort
set_option linter.unusedVariables false
set_option linter.unusedSimpArgs false
set_option maxRecDepth 20000

theorem assertErrno2 (v : Value) (xT : TypeId) (w : World) : (Instr.typeAssert (.iface 45 v) xT 45 true).run Tryz.prog w = .ok (.tuple #[v, .bool true]) w := by kernel_rfl
theorem assertNoPbe2 (v : Value) (xT : TypeId) (w : World) : (Instr.typeAssert (.iface 45 v) xT 58 true).run Tryz.prog w = .ok (.tuple #[.pointer none, .bool false]) w := by kernel_rfl
theorem trouble_22 (w : World) : Calls Tryz.prog 25 #[.iface 45 (.int .i64 22)] w fun e w' => e = .returned (.tuple #[.int .i64 22, .int .i64 (-1)]) ∧ ∃ k, w' = w.drewN k := by
  have q := ifaceEq
  have qa := assertErrno2
  have qb := assertNoPbe2
  go_enter Tryz.func25, Tryz.ntmps25
  go_wp2
  go_ret2
  exact ⟨rfl, 0, rfl⟩
theorem zeroN_err2 : ∀ (n : Nat) (S : St) (f : Nat), (S.zeroN f n).2.1 = 0 ∨ (S.zeroN f n).2.1 = 22
  | 0, S, f => .inl rfl
  | n + 1, S, f => by
    unfold St.zeroN
    split
    · exact zeroN_err2 n _ _
    · exact .inr rfl
theorem zero_err_le2 (S : St) (f c : Int) : -9223372036854775808 ≤ (S.zero f c).2.1 ∧ (S.zero f c).2.1 ≤ 9223372036854775807 := by
  unfold St.zero
  split
  · rcases zeroN_err2 c.toNat S f.toNat with e | e <;> rw [e] <;> omega
  · show -9223372036854775808 ≤ S.zeroBad f c ∧ S.zeroBad f c ≤ 9223372036854775807
    unfold St.zeroBad
    split
    · omega
    · split
      · omega
      · split <;> omega
theorem spoil_le (S : St) (b : Int) : -9223372036854775808 ≤ S.spoilErr b ∧ S.spoilErr b ≤ 9223372036854775807 := by
  unfold St.spoilErr
  split <;> omega

set_option maxHeartbeats 2000000 in
theorem act_4 {w0 w : World} {pp nx k : Nat} {S : St} (h : PAll w0 w pp S nx k) (bl ct : Int) (dv : Value) (hbl : i64ok bl) (hct : i64ok ct) (hb : ∀ k, (S.cache k).length + 2 ≤ 268435456) :
    Calls Tryz.prog 22 #[.pointer (some ⟨pp, 0, none⟩), .agg #[.int .i64 4, .int .i64 bl, .int .i64 ct, dv]] w fun e w' => e = .returned (.bool true) ∧ PAll w0 w' pp (S.zero bl ct).1 nx k := by
  obtain ⟨L, RL, wh, bv, hP⟩ := h
  have HB0 := hide (PBx.start hP 4 bl ct dv)
  have hd := HB0.out.cells
  unfold PCells at hd
  clear hP
  have HBL := hide hbl
  have HCT := hide hct
  have HCB := hide hb
  clear hbl hct hb
  go_enter Tryz.func22, Tryz.ntmps22
  have HB10 := hide (HB0.out.below (Below.drew (Below.refl _ _)))
  have hc0 := HB10.out.cells
  unfold PCells at hc0
  have HCC := hide (Zero_any HB10.out.p.d bl ct HBL.out HCT.out (fun k => by have := HCB.out k; omega))
  unfold PD at HCC
  have HNN := hide (zero_err_le2 S bl ct)
  go_wp2_with fail
  generalize hW0 : (w.alloc (.cells #[.int .i64 4, .int .i64 bl, .int .i64 ct, dv] 43)).drew = wA at HB10 HCC
  have HWA := hide hW0
  clear hW0
  go_region_held3 (fun w' => w'.cell? ⟨pp, 0, none⟩ = some (.pointer (some ⟨L.p, 0, none⟩)) ∧ w'.cell? ⟨pp, 1, none⟩ = some (.pointer (some ⟨RL.p, 0, none⟩)) ∧ w'.cell? ⟨pp, 2, none⟩ = some (.bool false) ∧ w'.cell? ⟨w.heap.size, 0, none⟩ = some (.int .i64 4) ∧ w'.cell? ⟨w.heap.size, 1, none⟩ = some (.int .i64 bl) ∧ w'.cell? ⟨w.heap.size, 2, none⟩ = some (.int .i64 ct) ∧ w'.cell? ⟨w.heap.size, 3, none⟩ = some dv) (first | exact hc0 | assumption)
    (first
      | (go_at_call 55; rw [HWA.out]; refine HCC.out.mono ?_; rintro e w1 ⟨eu, U1, rfl, hE, hR1, hG1⟩; have HB1 := hide (HB10.out.growD hR1 hG1); have hc1 := HB1.out.cells; unfold PCells at hc1; have HE := hide hE; clear hE hR1 hG1 HCC))
  have HB20 := hide (HB1.out.below (Below.drew (Below.refl _ _)))
  have hc2 := HB20.out.cells
  unfold PCells at hc2
  have HPR := hide (rZero HB20.out.p.r bl ct HBL.out HCT.out HCB.out)
  unfold PR at HPR
  have HNR : Hid (∀ x, wA.heap.size ≤ x → ¬ RL.U x) := hide fun x hx hu => by have := HB10.out.p.r.uLt x hu; omega
  go_wp2_with fail
  go_region_held3 (fun w' => w'.cell? ⟨pp, 0, none⟩ = some (.pointer (some ⟨L.p, 0, none⟩)) ∧ w'.cell? ⟨pp, 1, none⟩ = some (.pointer (some ⟨RL.p, 0, none⟩)) ∧ w'.cell? ⟨pp, 2, none⟩ = some (.bool false) ∧ w'.cell? ⟨w.heap.size, 0, none⟩ = some (.int .i64 4) ∧ w'.cell? ⟨w.heap.size, 1, none⟩ = some (.int .i64 bl) ∧ w'.cell? ⟨w.heap.size, 2, none⟩ = some (.int .i64 ct) ∧ w'.cell? ⟨w.heap.size, 3, none⟩ = some dv) (first | exact hc2 | assumption)
    (first
      | (go_at_call 56; refine HPR.out.mono ?_; rintro e w3 ⟨rfl, RL', hp', hD3, hG3⟩; have HB3 : Hid (PBx w0 w3 pp { L with U := U1 } (S.zero bl ct).1 RL' (S.zero bl ct).1 (WhIs ((S.zero bl ct).2.1) ((S.zero bl ct).2.2)) nx k bv w.heap.size 4 bl ct dv) := hide (HB20.out.growR hp' hD3 hG3); have hc5 := HB3.out.cells; unfold PCells at hc5; rw [hp'] at hc5; have HTR := hide (trouble_ex (w2 := w3) HE.out fun x h1 h2 h3 => hG3.keep x h2 (HNR.out x h1)); have HPP := hide hp'; clear hD3 hG3 hp'))
  obtain ⟨hn1, hn2⟩ := HNN.out
  clear HE HNR HPR
  generalize (S.zero bl ct).2.1 = en at *
  generalize WhIs en ((S.zero bl ct).2.2) = whn at *
  go_wp2_with fail
  refine HTR.out.mono ?_
  rintro e w4 ⟨rfl, k4, hw4⟩
  have hb4 : Below w3.heap.size w3 w4 := by rw [hw4]; exact below_drewN (Below.refl _ _) k4
  have HB4 := hide (HB3.out.below hb4)
  have hc6 := HB4.out.cells
  unfold PCells at hc6
  have hc7 := HB4.out.p.cells.2.2.2
  rw [HPP.out] at hc6 hc7
  clear hb4 hw4 HTR
  go_wp2
  go_ret
  exact ⟨by simp, HB4.out.all⟩

set_option maxHeartbeats 2000000 in
theorem act_10 {w0 w : World} {pp nx k : Nat} {S : St} (h : PAll w0 w pp S nx k) (bl ct : Int) (dv : Value) (hbl : i64ok bl) (hct : i64ok ct) (hb : ∀ k, (S.cache k).length + 2 ≤ 268435456) :
    Calls Tryz.prog 22 #[.pointer (some ⟨pp, 0, none⟩), .agg #[.int .i64 10, .int .i64 bl, .int .i64 ct, dv]] w fun e w' => e = .returned (.bool true) ∧ PAll w0 w' pp (S.spoil bl) nx k := by
  obtain ⟨L, RL, wh, bv, hP⟩ := h
  have HB0 := hide (PBx.start hP 10 bl ct dv)
  have hd := HB0.out.cells
  unfold PCells at hd
  clear hP
  have HBL := hide hbl
  have HCT := hide hct
  have HCB := hide hb
  clear hbl hct hb
  go_enter Tryz.func22, Tryz.ntmps22
  have HB10 := hide (HB0.out.below (Below.drew (Below.refl _ _)))
  have hc0 := HB10.out.cells
  unfold PCells at hc0
  have HCC := hide (Spoil_any HB10.out.p.d bl)
  unfold PD at HCC
  have HNN := hide (spoil_le S bl)
  go_wp2_with fail
  generalize hW0 : (w.alloc (.cells #[.int .i64 10, .int .i64 bl, .int .i64 ct, dv] 43)).drew = wA at HB10 HCC
  have HWA := hide hW0
  clear hW0
  go_region_held3 (fun w' => w'.cell? ⟨pp, 0, none⟩ = some (.pointer (some ⟨L.p, 0, none⟩)) ∧ w'.cell? ⟨pp, 1, none⟩ = some (.pointer (some ⟨RL.p, 0, none⟩)) ∧ w'.cell? ⟨pp, 2, none⟩ = some (.bool false) ∧ w'.cell? ⟨w.heap.size, 0, none⟩ = some (.int .i64 10) ∧ w'.cell? ⟨w.heap.size, 1, none⟩ = some (.int .i64 bl) ∧ w'.cell? ⟨w.heap.size, 2, none⟩ = some (.int .i64 ct) ∧ w'.cell? ⟨w.heap.size, 3, none⟩ = some dv) (first | exact hc0 | assumption)
    (first
      | (go_at_call 59; rw [HWA.out]; refine HCC.out.mono ?_; rintro e w1 ⟨eu, U1, rfl, hE, hR1, hG1⟩; have HB1 := hide (HB10.out.growD hR1 hG1); have hc1 := HB1.out.cells; unfold PCells at hc1; have HE := hide hE; clear hE hR1 hG1 HCC))
  have HB20 := hide (HB1.out.below (Below.drew (Below.refl _ _)))
  have hc2 := HB20.out.cells
  unfold PCells at hc2
  have HPR := hide (rSpoil HB20.out.p.r bl)
  unfold PR at HPR
  have HNR : Hid (∀ x, wA.heap.size ≤ x → ¬ RL.U x) := hide fun x hx hu => by have := HB10.out.p.r.uLt x hu; omega
  go_wp2_with fail
  go_region_held3 (fun w' => w'.cell? ⟨pp, 0, none⟩ = some (.pointer (some ⟨L.p, 0, none⟩)) ∧ w'.cell? ⟨pp, 1, none⟩ = some (.pointer (some ⟨RL.p, 0, none⟩)) ∧ w'.cell? ⟨pp, 2, none⟩ = some (.bool false) ∧ w'.cell? ⟨w.heap.size, 0, none⟩ = some (.int .i64 10) ∧ w'.cell? ⟨w.heap.size, 1, none⟩ = some (.int .i64 bl) ∧ w'.cell? ⟨w.heap.size, 2, none⟩ = some (.int .i64 ct) ∧ w'.cell? ⟨w.heap.size, 3, none⟩ = some dv) (first | exact hc2 | assumption)
    (first
      | (go_at_call 60; refine HPR.out.mono ?_; rintro e w3 ⟨rfl, hD3, hG3⟩; obtain ⟨RL', hRL⟩ : ∃ x, x = RL := ⟨_, rfl⟩; have hp' : RL'.p = RL.p := (by rw [hRL]); have hD3 : RD w3 RL' _ _ := (by rw [hRL]; exact hD3); have hG3 : Grow _ w3 RL.U RL'.U := (by rw [hRL]; exact hG3); clear hRL; have HB3 : Hid (PBx w0 w3 pp { L with U := U1 } (S.spoil bl) RL' (S.spoil bl) (WhIs (S.spoilErr bl) (bl)) nx k bv w.heap.size 10 bl ct dv) := hide (HB20.out.growR hp' hD3 hG3); have hc5 := HB3.out.cells; unfold PCells at hc5; rw [hp'] at hc5; have HTR := hide (trouble_ex (w2 := w3) HE.out fun x h1 h2 h3 => hG3.keep x h2 (HNR.out x h1)); have HPP := hide hp'; clear hD3 hG3 hp'))
  obtain ⟨hn1, hn2⟩ := HNN.out
  clear HE HNR HPR
  generalize S.spoilErr bl = en at *
  generalize WhIs en (bl) = whn at *
  go_wp2_with fail
  refine HTR.out.mono ?_
  rintro e w4 ⟨rfl, k4, hw4⟩
  have hb4 : Below w3.heap.size w3 w4 := by rw [hw4]; exact below_drewN (Below.refl _ _) k4
  have HB4 := hide (HB3.out.below hb4)
  have hc6 := HB4.out.cells
  unfold PCells at hc6
  have hc7 := HB4.out.p.cells.2.2.2
  rw [HPP.out] at hc6 hc7
  clear hb4 hw4 HTR
  go_wp2
  go_ret
  exact ⟨by simp, HB4.out.all⟩

end Go.Proofs.YtlpmpicmpklaoacGreat
namespace Go.Proofs.YtlpmpicmpklaoacGreat
open Go.RowKit Go.Maps Go.Sort
set_option linter.unusedVariables false
set_option linter.unusedSimpArgs false
set_option maxRecDepth 20000

set_option maxHeartbeats 2000000 in
theorem act_5 {w0 w : World} {pp nx k : Nat} {S : St} (h : PAll w0 w pp S nx k) (bl ct : Int) (dv : Value) (hb : ∀ k, (S.cache k).length + 1 ≤ 268435456) :
    Calls Tryz.prog 22 #[.pointer (some ⟨pp, 0, none⟩), .agg #[.int .i64 5, .int .i64 bl, .int .i64 ct, dv]] w fun e w' => e = .returned (.bool true) ∧ PAll w0 w' pp S.flush nx k := by
  obtain ⟨L, RL, wh, bv, hP⟩ := h
  have HB0 := hide (PBx.start hP 5 bl ct dv)
  have hd := HB0.out.cells
  unfold PCells at hd
  clear hP
  have HCB := hide hb
  clear hb
  have HC1 := hide (Flush_any HB0.out.p.d)
  unfold PD at HC1
  have HF2 := hide fun w1 (h : PBx w0 w1 pp L S.flush RL S wh nx k bv w.heap.size 5 bl ct dv) => rFlush h.p.r HCB.out
  unfold PR at HF2
  cases hok : S.stepOk with
  | false =>
    rw [hok] at HC1 HF2
    go_enter Tryz.func22, Tryz.ntmps22
    generalize hW0 : w.alloc (.cells #[.int .i64 5, .int .i64 bl, .int .i64 ct, dv] 43) = wA at HB0 HC1 hd
    have HWA := hide hW0
    clear hW0
    go_wp2_with (first
      | (go_at_call 57; refine HC1.out.mono ?_; rintro e w1 ⟨rfl, hR1, hG1⟩; have HB1 := hide (HB0.out.growDS hR1 hG1); have hc1 := HB1.out.cells; unfold PCells at hc1; clear hR1 hG1)
      | (go_at_call 58; refine (HF2.out _ HB1.out).mono ?_; rintro e w2 ⟨rfl, RL', hp', hD2, hG2⟩; have HB2 := hide (HB1.out.growR hp' hD2 hG2); have hc2 := HB2.out.cells; unfold PCells at hc2; rw [hp'] at hc2; clear hD2 hG2 hp')
      | (go_at_call 25; refine (trouble_22 _).mono ?_; rintro e w3 ⟨rfl, k3, hw3⟩; have HB3 := hide (HB2.out.below (show Below _ _ w3 by rw [hw3]; exact below_drewN (Below.refl _ _) k3)); clear hw3)
      | (rw [HWA.out]))
    go_ret
    exact ⟨by simp, HB3.out.all⟩
  | true =>
    rw [hok] at HC1 HF2
    go_enter Tryz.func22, Tryz.ntmps22
    generalize hW0 : w.alloc (.cells #[.int .i64 5, .int .i64 bl, .int .i64 ct, dv] 43) = wA at HB0 HC1 hd
    have HWA := hide hW0
    clear hW0
    go_wp2_with (first
      | (go_at_call 57; refine HC1.out.mono ?_; rintro e w1 ⟨rfl, hR1, hG1⟩; have HB1 := hide (HB0.out.growDS hR1 hG1); have hc1 := HB1.out.cells; unfold PCells at hc1; clear hR1 hG1)
      | (go_at_call 58; refine (HF2.out _ HB1.out).mono ?_; rintro e w2 ⟨rfl, RL', hp', hD2, hG2⟩; have HB2 := hide (HB1.out.growR hp' hD2 hG2); have hc2 := HB2.out.cells; unfold PCells at hc2; rw [hp'] at hc2; clear hD2 hG2 hp')
      | (go_at_call 25; refine (trouble_nil _).mono ?_; rintro e w3 ⟨rfl, hw3⟩; cases hw3)
      | (rw [HWA.out]))
    go_ret
    exact ⟨by simp, HB2.out.all⟩

set_option maxHeartbeats 2000000 in
theorem act_11 {w0 w : World} {pp nx k : Nat} {S : St} (h : PAll w0 w pp S nx k) (bl ct : Int) (dv : Value) (hct : i64ok ct) :
    Calls Tryz.prog 22 #[.pointer (some ⟨pp, 0, none⟩), .agg #[.int .i64 11, .int .i64 bl, .int .i64 ct, dv]] w fun e w' => e = .returned (.bool true) ∧ PAll w0 w' pp (S.fused ct) nx k := by
  obtain ⟨L, RL, wh, bv, hP⟩ := h
  have HB0 := hide (PBx.start hP 11 bl ct dv)
  have hd := HB0.out.cells
  unfold PCells at hd
  clear hP
  have HCT := hide hct
  clear hct
  go_enter Tryz.func22, Tryz.ntmps22
  have HB10 := hide (HB0.out.below (Below.drew (Below.refl _ _)))
  have hc0 := HB10.out.cells
  unfold PCells at hc0
  have HCC := hide (Fuse_any HB10.out.p.d ct HCT.out)
  unfold PD at HCC
  go_wp2_with fail
  generalize hW0 : (w.alloc (.cells #[.int .i64 11, .int .i64 bl, .int .i64 ct, dv] 43)).drew = wA at HB10 HCC
  have HWA := hide hW0
  clear hW0
  go_region_held3 (fun w' => w'.cell? ⟨pp, 0, none⟩ = some (.pointer (some ⟨L.p, 0, none⟩)) ∧ w'.cell? ⟨pp, 1, none⟩ = some (.pointer (some ⟨RL.p, 0, none⟩)) ∧ w'.cell? ⟨pp, 2, none⟩ = some (.bool false) ∧ w'.cell? ⟨w.heap.size, 0, none⟩ = some (.int .i64 11) ∧ w'.cell? ⟨w.heap.size, 1, none⟩ = some (.int .i64 bl) ∧ w'.cell? ⟨w.heap.size, 2, none⟩ = some (.int .i64 ct) ∧ w'.cell? ⟨w.heap.size, 3, none⟩ = some dv) (first | exact hc0 | assumption)
    (first
      | (go_at_call 61; rw [HWA.out]; refine HCC.out.mono ?_; rintro e w1 ⟨rfl, hR1, hG1, -⟩; have HB1 := hide (HB10.out.growDS hR1 hG1); have hc1 := HB1.out.cells; unfold PCells at hc1; clear hR1 hG1 HCC))
  have HB20 := hide (HB1.out.below (Below.drew (Below.refl _ _)))
  have hc2 := HB20.out.cells
  unfold PCells at hc2
  have HPR := hide (rFuse HB20.out.p.r ct HCT.out)
  unfold PR at HPR
  go_wp2_with fail
  go_region_held3 (fun w' => w'.cell? ⟨pp, 0, none⟩ = some (.pointer (some ⟨L.p, 0, none⟩)) ∧ w'.cell? ⟨pp, 1, none⟩ = some (.pointer (some ⟨RL.p, 0, none⟩)) ∧ w'.cell? ⟨pp, 2, none⟩ = some (.bool false) ∧ w'.cell? ⟨w.heap.size, 0, none⟩ = some (.int .i64 11) ∧ w'.cell? ⟨w.heap.size, 1, none⟩ = some (.int .i64 bl) ∧ w'.cell? ⟨w.heap.size, 2, none⟩ = some (.int .i64 ct) ∧ w'.cell? ⟨w.heap.size, 3, none⟩ = some dv) (first | exact hc2 | assumption)
    (first
      | (go_at_call 62; refine HPR.out.mono ?_; rintro e w3 ⟨rfl, hD3, hG3⟩; have HB3 := hide (HB20.out.growR rfl hD3 hG3); have hc5 := HB3.out.cells; unfold PCells at hc5; clear hD3 hG3))
  go_wp2
  go_ret
  exact ⟨rfl, HB3.out.all⟩

set_option maxHeartbeats 2000000 in
theorem act_13 {w0 w : World} {pp nx k : Nat} {S : St} (h : PAll w0 w pp S nx k) (bl ct : Int) (dv : Value) (dl : List Nat) (hdat : Dat w0 dv dl) (hb : ∀ k, (S.cache k).length + 1 ≤ 268435456) (hnx : nx ≤ 1152921504606846976) (hk : k ≤ 1152921504606) :
    Calls Tryz.prog 22 #[.pointer (some ⟨pp, 0, none⟩), .agg #[.int .i64 13, .int .i64 bl, .int .i64 ct, dv]] w fun e w' => e = .returned (.bool true) ∧ PAll w0 w' pp (S.crash dl) (nx + 1) (k + 2) := by
  obtain ⟨L, RL, wh, bv, hP⟩ := h
  have HB0 := hide (PBx.start hP 13 bl ct dv)
  have hd := HB0.out.cells
  unfold PCells at hd
  clear hP
  have HDA := hide hdat
  have HCB := hide hb
  have HNX := hide hnx
  have HKK := hide hk
  have HSML : Hid (dl.length ≤ 1048576) := hide hdat.sm
  clear hb hdat hnx hk
  have HC1 := hide (hand_any _ dv dl (HDA.out.at_ HB0.out.p.be) (by have := HSML.out; omega))
  have HNL : Hid (∀ g, (w.alloc (.cells #[.int .i64 13, .int .i64 bl, .int .i64 ct, dv] 43)).heap.size ≤ g → ¬ L.U g ∧ ¬ RL.U g) := hide fun g hg => ⟨fun hu => by have := HB0.out.p.d.uLt g hu; omega, fun hu => by have := HB0.out.p.r.uLt g hu; omega⟩
  have HW0 : Hid (w0.heap.size ≤ (w.alloc (.cells #[.int .i64 13, .int .i64 bl, .int .i64 ct, dv] 43)).heap.size) := hide HB0.out.p.be.size
  go_enter Tryz.func22, Tryz.ntmps22
  generalize hWA : w.alloc (.cells #[.int .i64 13, .int .i64 bl, .int .i64 ct, dv] 43) = wA at HB0 HC1 hd HNL HW0
  have HWA := hide hWA
  clear hWA
  go_wp2_with (first
    | (go_at_call 13; refine HC1.out.mono ?_; rintro e w1 ⟨rfl, hp1, hb1⟩; have HB1 := hide (HB0.out.below hb1); have hc1 := HB1.out.cells; unfold PCells at hc1; have HP1 := hide hp1; clear hp1 hb1)
    | (rw [HWA.out]))
  obtain ⟨g, hg⟩ : ∃ g, wA.heap.size = g := ⟨_, rfl⟩
  rw [hg] at HP1 HNL HW0 ⊢
  clear hg
  have HB10 := hide (HB1.out.below (Below.drew (Below.refl _ _)))
  have hc2 := HB10.out.cells
  unfold PCells at hc2
  have HAR := hide (arg_any (w := w1.drew) (g := g) (HDA.out.at_ HB10.out.p.be) ⟨HP1.out.1, HP1.out.2⟩ (by have := HSML.out; omega))
  have HL0 : Hid (g < w1.heap.size ∧ ¬ L.U g ∧ ¬ RL.U g) := hide ⟨HP1.out.lt, HNL.out g (Nat.le_refl _)⟩
  have HPW := hide fun u (hu : BSl w1.drew u dl) (hx : ∀ x, blockOf u = some x → x = g) => Crash_any HB10.out.p.d hu (fun _ x hx' hU => HL0.out.2.1 ((hx x hx') ▸ hU)) (fun k => by have := HCB.out k; omega)
  unfold PD at HPW
  go_wp2_with fail
  go_region_held3 (fun w' => w'.cell? ⟨pp, 0, none⟩ = some (.pointer (some ⟨L.p, 0, none⟩)) ∧ w'.cell? ⟨pp, 1, none⟩ = some (.pointer (some ⟨RL.p, 0, none⟩)) ∧ w'.cell? ⟨pp, 2, none⟩ = some (.bool false) ∧ w'.cell? ⟨w.heap.size, 0, none⟩ = some (.int .i64 13) ∧ w'.cell? ⟨w.heap.size, 1, none⟩ = some (.int .i64 bl) ∧ w'.cell? ⟨w.heap.size, 2, none⟩ = some (.int .i64 ct) ∧ w'.cell? ⟨w.heap.size, 3, none⟩ = some dv) (first | exact hc2 | assumption)
    (first
      | (go_at_call 15; refine HAR.out.mono ?_; rintro e w' ⟨u, rfl, hw', hu, hux⟩; cases hw'; have HU := hide hu; have HUX := hide hux; clear hu hux)
      | (go_at_call 63; refine (HPW.out _ HU.out HUX.out).mono ?_; rintro e w2 ⟨rfl, hR2, hG2⟩; have HB2 := hide (HB10.out.growDS hR2 hG2); have hc3 := HB2.out.cells; unfold PCells at hc3; have HP2 := hide (HP1.out.kept (w' := w2) (hG2.keep g HL0.out.1 HL0.out.2.1)); have HL2 : Hid (g < w2.heap.size ∧ ¬ L.U g ∧ ¬ RL.U g) := hide ⟨Nat.lt_of_lt_of_le HL0.out.1 hG2.size, HL0.out.2⟩; clear hR2 hG2))
  have HB20 := hide (HB2.out.below (Below.drew (Below.refl _ _)))
  have hc4 := HB20.out.cells
  unfold PCells at hc4
  have HPR := hide (rCrash HB20.out.p.r (HDA.out.at_ HB20.out.p.be) (HDA.out.off HB20.out.p.uR) HCB.out)
  unfold PR at HPR
  clear HPW HAR
  go_wp2_with fail
  go_region_held3 (fun w' => w'.cell? ⟨pp, 0, none⟩ = some (.pointer (some ⟨L.p, 0, none⟩)) ∧ w'.cell? ⟨pp, 1, none⟩ = some (.pointer (some ⟨RL.p, 0, none⟩)) ∧ w'.cell? ⟨pp, 2, none⟩ = some (.bool false) ∧ w'.cell? ⟨w.heap.size, 0, none⟩ = some (.int .i64 13) ∧ w'.cell? ⟨w.heap.size, 1, none⟩ = some (.int .i64 bl) ∧ w'.cell? ⟨w.heap.size, 2, none⟩ = some (.int .i64 ct) ∧ w'.cell? ⟨w.heap.size, 3, none⟩ = some dv) (first | exact hc4 | assumption)
    (first
      | (go_at_call 64; refine HPR.out.mono ?_; rintro e w3 ⟨rfl, RL', hp', hD3, hG3⟩; have HB3 := hide (HB20.out.growR hp' hD3 hG3); have hc5 := HB3.out.cells; unfold PCells at hc5; rw [hp'] at hc5; have HP3 := hide (HP2.out.kept (w' := w3) (hG3.keep g HL2.out.1 HL2.out.2.2)); have HL3 : Hid (¬ L.U g ∧ ¬ RL'.U g) := hide ⟨HL2.out.2.1, fun hx => HL2.out.2.2 (hG3.new g HL2.out.1 hx)⟩; have HPP := hide hp'; clear hD3 hG3 hp'))
  have HUN := hide (untouched_any (HDA.out.at_ HB3.out.p.be) HP3.out (by have := HSML.out; omega))
  go_wp2_with (go_at_call 17; refine HUN.out.mono ?_; rintro e w5 ⟨rfl, k5, hw5⟩; have hb5 : Below w3.heap.size w3 w5 := (by rw [hw5]; exact below_drewN (Below.refl _ _) k5); have HB5 := hide (HB3.out.below hb5); have HP5 := hide (HP3.out.kept (hb5.block g HP3.out.lt)); have hc8 := HB5.out.cells; unfold PCells at hc8; rw [HPP.out] at hc8; clear hw5 hb5)
  have hbb := bookBytes HB5.out.p.b HP5.out (by have := HSML.out; simp [marks]; omega) HNX.out HKK.out
  rw [show (dl ++ marks).length = dl.length + 6 by simp [marks]] at hbb
  have HBB := hide hbb
  clear hbb
  refine HBB.out.mono ?_
  rintro e w6 ⟨rfl, bv6, hB6, e1, e2, e3, hs6, hk6, ho6⟩
  have HP6 := hide (HB5.out.p.book (g := g) HW0.out HL3.out.1 HL3.out.2 hB6 e1 e2 e3 hs6 hk6 ho6)
  clear hB6 e1 e2 e3 hs6 hk6 ho6
  go_wp2
  go_ret
  exact ⟨by simp, _, _, _, _, HP6.out⟩

set_option maxHeartbeats 1000000 in
theorem act_no {w0 w : World} {pp nx k : Nat} {S : St} (h : PAll w0 w pp S nx k) (kd bl ct : Int) (dv : Value) (h4 : kd ≠ 4) (h5 : kd ≠ 5) (h10 : kd ≠ 10) (h11 : kd ≠ 11) (h13 : kd ≠ 13) :
    Calls Tryz.prog 22 #[.pointer (some ⟨pp, 0, none⟩), .agg #[.int .i64 kd, .int .i64 bl, .int .i64 ct, dv]] w fun e w' => e = .returned (.bool true) ∧ PAll w0 w' pp S nx k := by
  obtain ⟨L, RL, wh, bv, hP⟩ := h
  have HB0 := hide (PBx.start hP kd bl ct dv)
  have hd := HB0.out.cells
  unfold PCells at hd
  clear hP
  go_enter Tryz.func22, Tryz.ntmps22
  go_wp2
  go_ret
  exact ⟨rfl, HB0.out.all⟩
end Go.Proofs.YtlpmpicmpklaoacGreat
namespace Go.Proofs.YtlpmpicmpklaoacGreat
open Go.RowKit Go.Maps Go.Sort
set_option linter.unusedVariables false
set_option linter.unusedSimpArgs false
set_option maxRecDepth 20000

theorem PAll.alloc {w0 w : World} {pp nx k : Nat} {S : St} (h : PAll w0 w pp S nx k) (o : Obj) : PAll w0 (w.alloc o) pp S nx k := by
  obtain ⟨L, RL, wh, bv, hP⟩ := h
  exact ⟨L, RL, wh, bv, hP.below ((Below.refl _ _).alloc (Nat.le_refl _) o)⟩
def StepPost (w0 : World) (pp : Nat) (S' : St) (nx k : Nat) (e : Ending) (w' : World) : Prop := e = .returned (.bool true) ∧ ∃ nx' k', PAll w0 w' pp S' nx' k' ∧ nx' ≤ nx + 1 ∧ k' ≤ k + 2

set_option maxHeartbeats 1000000 in
theorem step_1 {w0 w : World} {pp nx k : Nat} {S : St} (h : PAll w0 w pp S nx k) (bl ct : Int) (dv : Value) (dl : List Nat) (hbl : i64ok bl) (hct : i64ok ct) (hdat : Dat w0 dv dl) (hb : ∀ k, (S.cache k).length + 2 ≤ 268435456) (hnx : nx ≤ 1152921504606846976) (hk : k ≤ 1152921504606) :
    Calls Tryz.prog 9 #[.pointer (some ⟨pp, 0, none⟩), .agg #[.int .i64 1, .int .i64 bl, .int .i64 ct, dv]] w fun e w' => StepPost w0 pp (S.read bl) nx k e w' := by
  have HPA := hide (h.alloc (.cells #[.int .i64 1, .int .i64 bl, .int .i64 ct, dv] 43))
  have HBL := hide hbl
  have HCT := hide hct
  have HDA := hide hdat
  have HC2 := hide hb
  have HC1 : Hid (∀ k, (S.cache k).length + 1 ≤ 268435456) := hide fun k => by have := hb k; omega
  have HNX := hide hnx
  have HKK := hide hk
  clear h hbl hct hdat hb hnx hk
  have HCC := hide (look_1 HPA.out bl ct dv HBL.out HC1.out)
  have hbox := Go.heap_alloc_new w (.cells #[.int .i64 1, .int .i64 bl, .int .i64 ct, dv] 43)
  have b0 : (w.alloc (.cells #[.int .i64 1, .int .i64 bl, .int .i64 ct, dv] 43)).cell? ⟨w.heap.size, 0, none⟩ = some (.int .i64 1) := by rw [cell_of_row _ _ _ _ _ _ hbox]; rfl
  have b1 : (w.alloc (.cells #[.int .i64 1, .int .i64 bl, .int .i64 ct, dv] 43)).cell? ⟨w.heap.size, 1, none⟩ = some (.int .i64 bl) := by rw [cell_of_row _ _ _ _ _ _ hbox]; rfl
  have b2 : (w.alloc (.cells #[.int .i64 1, .int .i64 bl, .int .i64 ct, dv] 43)).cell? ⟨w.heap.size, 2, none⟩ = some (.int .i64 ct) := by rw [cell_of_row _ _ _ _ _ _ hbox]; rfl
  have b3 : (w.alloc (.cells #[.int .i64 1, .int .i64 bl, .int .i64 ct, dv] 43)).cell? ⟨w.heap.size, 3, none⟩ = some dv := by rw [cell_of_row _ _ _ _ _ _ hbox]; rfl
  clear hbox
  go_enter Tryz.func9, Tryz.ntmps9
  go_wp2_with (go_at_call 11; refine HCC.out.mono ?_; rintro e w2 ⟨rfl, hP2⟩)
  go_ret
  exact ⟨rfl, _, _, hP2, by omega, by omega⟩
set_option maxHeartbeats 1000000 in
theorem step_8 {w0 w : World} {pp nx k : Nat} {S : St} (h : PAll w0 w pp S nx k) (bl ct : Int) (dv : Value) (dl : List Nat) (hbl : i64ok bl) (hct : i64ok ct) (hdat : Dat w0 dv dl) (hb : ∀ k, (S.cache k).length + 2 ≤ 268435456) (hnx : nx ≤ 1152921504606846976) (hk : k ≤ 1152921504606) :
    Calls Tryz.prog 9 #[.pointer (some ⟨pp, 0, none⟩), .agg #[.int .i64 8, .int .i64 bl, .int .i64 ct, dv]] w fun e w' => StepPost w0 pp S nx k e w' := by
  have HPA := hide (h.alloc (.cells #[.int .i64 8, .int .i64 bl, .int .i64 ct, dv] 43))
  have HBL := hide hbl
  have HCT := hide hct
  have HDA := hide hdat
  have HC2 := hide hb
  have HC1 : Hid (∀ k, (S.cache k).length + 1 ≤ 268435456) := hide fun k => by have := hb k; omega
  have HNX := hide hnx
  have HKK := hide hk
  clear h hbl hct hdat hb hnx hk
  have HCC := hide (look_8 HPA.out bl ct dv HBL.out HC1.out)
  have hbox := Go.heap_alloc_new w (.cells #[.int .i64 8, .int .i64 bl, .int .i64 ct, dv] 43)
  have b0 : (w.alloc (.cells #[.int .i64 8, .int .i64 bl, .int .i64 ct, dv] 43)).cell? ⟨w.heap.size, 0, none⟩ = some (.int .i64 8) := by rw [cell_of_row _ _ _ _ _ _ hbox]; rfl
  have b1 : (w.alloc (.cells #[.int .i64 8, .int .i64 bl, .int .i64 ct, dv] 43)).cell? ⟨w.heap.size, 1, none⟩ = some (.int .i64 bl) := by rw [cell_of_row _ _ _ _ _ _ hbox]; rfl
  have b2 : (w.alloc (.cells #[.int .i64 8, .int .i64 bl, .int .i64 ct, dv] 43)).cell? ⟨w.heap.size, 2, none⟩ = some (.int .i64 ct) := by rw [cell_of_row _ _ _ _ _ _ hbox]; rfl
  have b3 : (w.alloc (.cells #[.int .i64 8, .int .i64 bl, .int .i64 ct, dv] 43)).cell? ⟨w.heap.size, 3, none⟩ = some dv := by rw [cell_of_row _ _ _ _ _ _ hbox]; rfl
  clear hbox
  go_enter Tryz.func9, Tryz.ntmps9
  go_wp2_with (go_at_call 11; refine HCC.out.mono ?_; rintro e w2 ⟨rfl, hP2⟩)
  go_ret
  exact ⟨rfl, _, _, hP2, by omega, by omega⟩
set_option maxHeartbeats 1000000 in
theorem step_9 {w0 w : World} {pp nx k : Nat} {S : St} (h : PAll w0 w pp S nx k) (bl ct : Int) (dv : Value) (dl : List Nat) (hbl : i64ok bl) (hct : i64ok ct) (hdat : Dat w0 dv dl) (hb : ∀ k, (S.cache k).length + 2 ≤ 268435456) (hnx : nx ≤ 1152921504606846976) (hk : k ≤ 1152921504606) :
    Calls Tryz.prog 9 #[.pointer (some ⟨pp, 0, none⟩), .agg #[.int .i64 9, .int .i64 bl, .int .i64 ct, dv]] w fun e w' => StepPost w0 pp S nx k e w' := by
  have HPA := hide (h.alloc (.cells #[.int .i64 9, .int .i64 bl, .int .i64 ct, dv] 43))
  have HBL := hide hbl
  have HCT := hide hct
  have HDA := hide hdat
  have HC2 := hide hb
  have HC1 : Hid (∀ k, (S.cache k).length + 1 ≤ 268435456) := hide fun k => by have := hb k; omega
  have HNX := hide hnx
  have HKK := hide hk
  clear h hbl hct hdat hb hnx hk
  have HCC := hide (look_9 HPA.out bl ct dv)
  have hbox := Go.heap_alloc_new w (.cells #[.int .i64 9, .int .i64 bl, .int .i64 ct, dv] 43)
  have b0 : (w.alloc (.cells #[.int .i64 9, .int .i64 bl, .int .i64 ct, dv] 43)).cell? ⟨w.heap.size, 0, none⟩ = some (.int .i64 9) := by rw [cell_of_row _ _ _ _ _ _ hbox]; rfl
  have b1 : (w.alloc (.cells #[.int .i64 9, .int .i64 bl, .int .i64 ct, dv] 43)).cell? ⟨w.heap.size, 1, none⟩ = some (.int .i64 bl) := by rw [cell_of_row _ _ _ _ _ _ hbox]; rfl
  have b2 : (w.alloc (.cells #[.int .i64 9, .int .i64 bl, .int .i64 ct, dv] 43)).cell? ⟨w.heap.size, 2, none⟩ = some (.int .i64 ct) := by rw [cell_of_row _ _ _ _ _ _ hbox]; rfl
  have b3 : (w.alloc (.cells #[.int .i64 9, .int .i64 bl, .int .i64 ct, dv] 43)).cell? ⟨w.heap.size, 3, none⟩ = some dv := by rw [cell_of_row _ _ _ _ _ _ hbox]; rfl
  clear hbox
  go_enter Tryz.func9, Tryz.ntmps9
  go_wp2_with (go_at_call 11; refine HCC.out.mono ?_; rintro e w2 ⟨rfl, hP2⟩)
  go_ret
  exact ⟨rfl, _, _, hP2, by omega, by omega⟩
set_option maxHeartbeats 1000000 in
theorem step_6 {w0 w : World} {pp nx k : Nat} {S : St} (h : PAll w0 w pp S nx k) (bl ct : Int) (dv : Value) (dl : List Nat) (hbl : i64ok bl) (hct : i64ok ct) (hdat : Dat w0 dv dl) (hb : ∀ k, (S.cache k).length + 2 ≤ 268435456) (hnx : nx ≤ 1152921504606846976) (hk : k ≤ 1152921504606) :
    Calls Tryz.prog 9 #[.pointer (some ⟨pp, 0, none⟩), .agg #[.int .i64 6, .int .i64 bl, .int .i64 ct, dv]] w fun e w' => StepPost w0 pp S nx k e w' := by
  have HPA := hide (h.alloc (.cells #[.int .i64 6, .int .i64 bl, .int .i64 ct, dv] 43))
  have HBL := hide hbl
  have HCT := hide hct
  have HDA := hide hdat
  have HC2 := hide hb
  have HC1 : Hid (∀ k, (S.cache k).length + 1 ≤ 268435456) := hide fun k => by have := hb k; omega
  have HNX := hide hnx
  have HKK := hide hk
  clear h hbl hct hdat hb hnx hk
  have HCC := hide (look_6 HPA.out bl ct dv HC1.out)
  have hbox := Go.heap_alloc_new w (.cells #[.int .i64 6, .int .i64 bl, .int .i64 ct, dv] 43)
  have b0 : (w.alloc (.cells #[.int .i64 6, .int .i64 bl, .int .i64 ct, dv] 43)).cell? ⟨w.heap.size, 0, none⟩ = some (.int .i64 6) := by rw [cell_of_row _ _ _ _ _ _ hbox]; rfl
  have b1 : (w.alloc (.cells #[.int .i64 6, .int .i64 bl, .int .i64 ct, dv] 43)).cell? ⟨w.heap.size, 1, none⟩ = some (.int .i64 bl) := by rw [cell_of_row _ _ _ _ _ _ hbox]; rfl
  have b2 : (w.alloc (.cells #[.int .i64 6, .int .i64 bl, .int .i64 ct, dv] 43)).cell? ⟨w.heap.size, 2, none⟩ = some (.int .i64 ct) := by rw [cell_of_row _ _ _ _ _ _ hbox]; rfl
  have b3 : (w.alloc (.cells #[.int .i64 6, .int .i64 bl, .int .i64 ct, dv] 43)).cell? ⟨w.heap.size, 3, none⟩ = some dv := by rw [cell_of_row _ _ _ _ _ _ hbox]; rfl
  clear hbox
  go_enter Tryz.func9, Tryz.ntmps9
  go_wp2_with (go_at_call 11; refine HCC.out.mono ?_; rintro e w2 ⟨rfl, hP2⟩)
  go_ret
  exact ⟨rfl, _, _, hP2, by omega, by omega⟩
set_option maxHeartbeats 1000000 in
theorem step_7 {w0 w : World} {pp nx k : Nat} {S : St} (h : PAll w0 w pp S nx k) (bl ct : Int) (dv : Value) (dl : List Nat) (hbl : i64ok bl) (hct : i64ok ct) (hdat : Dat w0 dv dl) (hb : ∀ k, (S.cache k).length + 2 ≤ 268435456) (hnx : nx ≤ 1152921504606846976) (hk : k ≤ 1152921504606) :
    Calls Tryz.prog 9 #[.pointer (some ⟨pp, 0, none⟩), .agg #[.int .i64 7, .int .i64 bl, .int .i64 ct, dv]] w fun e w' => StepPost w0 pp S nx k e w' := by
  have HPA := hide (h.alloc (.cells #[.int .i64 7, .int .i64 bl, .int .i64 ct, dv] 43))
  have HBL := hide hbl
  have HCT := hide hct
  have HDA := hide hdat
  have HC2 := hide hb
  have HC1 : Hid (∀ k, (S.cache k).length + 1 ≤ 268435456) := hide fun k => by have := hb k; omega
  have HNX := hide hnx
  have HKK := hide hk
  clear h hbl hct hdat hb hnx hk
  have HCC := hide (tell_7 HPA.out bl ct dv HBL.out HC1.out)
  have hbox := Go.heap_alloc_new w (.cells #[.int .i64 7, .int .i64 bl, .int .i64 ct, dv] 43)
  have b0 : (w.alloc (.cells #[.int .i64 7, .int .i64 bl, .int .i64 ct, dv] 43)).cell? ⟨w.heap.size, 0, none⟩ = some (.int .i64 7) := by rw [cell_of_row _ _ _ _ _ _ hbox]; rfl
  have b1 : (w.alloc (.cells #[.int .i64 7, .int .i64 bl, .int .i64 ct, dv] 43)).cell? ⟨w.heap.size, 1, none⟩ = some (.int .i64 bl) := by rw [cell_of_row _ _ _ _ _ _ hbox]; rfl
  have b2 : (w.alloc (.cells #[.int .i64 7, .int .i64 bl, .int .i64 ct, dv] 43)).cell? ⟨w.heap.size, 2, none⟩ = some (.int .i64 ct) := by rw [cell_of_row _ _ _ _ _ _ hbox]; rfl
  have b3 : (w.alloc (.cells #[.int .i64 7, .int .i64 bl, .int .i64 ct, dv] 43)).cell? ⟨w.heap.size, 3, none⟩ = some dv := by rw [cell_of_row _ _ _ _ _ _ hbox]; rfl
  clear hbox
  go_enter Tryz.func9, Tryz.ntmps9
  go_wp2_with (go_at_call 20; refine HCC.out.mono ?_; rintro e w2 ⟨rfl, hP2⟩)
  go_ret
  exact ⟨rfl, _, _, hP2, by omega, by omega⟩
set_option maxHeartbeats 1000000 in
theorem step_12 {w0 w : World} {pp nx k : Nat} {S : St} (h : PAll w0 w pp S nx k) (bl ct : Int) (dv : Value) (dl : List Nat) (hbl : i64ok bl) (hct : i64ok ct) (hdat : Dat w0 dv dl) (hb : ∀ k, (S.cache k).length + 2 ≤ 268435456) (hnx : nx ≤ 1152921504606846976) (hk : k ≤ 1152921504606) :
    Calls Tryz.prog 9 #[.pointer (some ⟨pp, 0, none⟩), .agg #[.int .i64 12, .int .i64 bl, .int .i64 ct, dv]] w fun e w' => StepPost w0 pp S nx k e w' := by
  have HPA := hide (h.alloc (.cells #[.int .i64 12, .int .i64 bl, .int .i64 ct, dv] 43))
  have HBL := hide hbl
  have HCT := hide hct
  have HDA := hide hdat
  have HC2 := hide hb
  have HC1 : Hid (∀ k, (S.cache k).length + 1 ≤ 268435456) := hide fun k => by have := hb k; omega
  have HNX := hide hnx
  have HKK := hide hk
  clear h hbl hct hdat hb hnx hk
  have HCC := hide (tell_12 HPA.out bl ct dv HBL.out HC1.out)
  have hbox := Go.heap_alloc_new w (.cells #[.int .i64 12, .int .i64 bl, .int .i64 ct, dv] 43)
  have b0 : (w.alloc (.cells #[.int .i64 12, .int .i64 bl, .int .i64 ct, dv] 43)).cell? ⟨w.heap.size, 0, none⟩ = some (.int .i64 12) := by rw [cell_of_row _ _ _ _ _ _ hbox]; rfl
  have b1 : (w.alloc (.cells #[.int .i64 12, .int .i64 bl, .int .i64 ct, dv] 43)).cell? ⟨w.heap.size, 1, none⟩ = some (.int .i64 bl) := by rw [cell_of_row _ _ _ _ _ _ hbox]; rfl
  have b2 : (w.alloc (.cells #[.int .i64 12, .int .i64 bl, .int .i64 ct, dv] 43)).cell? ⟨w.heap.size, 2, none⟩ = some (.int .i64 ct) := by rw [cell_of_row _ _ _ _ _ _ hbox]; rfl
  have b3 : (w.alloc (.cells #[.int .i64 12, .int .i64 bl, .int .i64 ct, dv] 43)).cell? ⟨w.heap.size, 3, none⟩ = some dv := by rw [cell_of_row _ _ _ _ _ _ hbox]; rfl
  clear hbox
  go_enter Tryz.func9, Tryz.ntmps9
  go_wp2_with (go_at_call 20; refine HCC.out.mono ?_; rintro e w2 ⟨rfl, hP2⟩)
  go_ret
  exact ⟨rfl, _, _, hP2, by omega, by omega⟩
set_option maxHeartbeats 1000000 in
theorem step_14 {w0 w : World} {pp nx k : Nat} {S : St} (h : PAll w0 w pp S nx k) (bl ct : Int) (dv : Value) (dl : List Nat) (hbl : i64ok bl) (hct : i64ok ct) (hdat : Dat w0 dv dl) (hb : ∀ k, (S.cache k).length + 2 ≤ 268435456) (hnx : nx ≤ 1152921504606846976) (hk : k ≤ 1152921504606) :
    Calls Tryz.prog 9 #[.pointer (some ⟨pp, 0, none⟩), .agg #[.int .i64 14, .int .i64 bl, .int .i64 ct, dv]] w fun e w' => StepPost w0 pp S nx k e w' := by
  have HPA := hide (h.alloc (.cells #[.int .i64 14, .int .i64 bl, .int .i64 ct, dv] 43))
  have HBL := hide hbl
  have HCT := hide hct
  have HDA := hide hdat
  have HC2 := hide hb
  have HC1 : Hid (∀ k, (S.cache k).length + 1 ≤ 268435456) := hide fun k => by have := hb k; omega
  have HNX := hide hnx
  have HKK := hide hk
  clear h hbl hct hdat hb hnx hk
  have HCC := hide (tell_14 HPA.out bl ct dv HBL.out HC1.out)
  have hbox := Go.heap_alloc_new w (.cells #[.int .i64 14, .int .i64 bl, .int .i64 ct, dv] 43)
  have b0 : (w.alloc (.cells #[.int .i64 14, .int .i64 bl, .int .i64 ct, dv] 43)).cell? ⟨w.heap.size, 0, none⟩ = some (.int .i64 14) := by rw [cell_of_row _ _ _ _ _ _ hbox]; rfl
  have b1 : (w.alloc (.cells #[.int .i64 14, .int .i64 bl, .int .i64 ct, dv] 43)).cell? ⟨w.heap.size, 1, none⟩ = some (.int .i64 bl) := by rw [cell_of_row _ _ _ _ _ _ hbox]; rfl
  have b2 : (w.alloc (.cells #[.int .i64 14, .int .i64 bl, .int .i64 ct, dv] 43)).cell? ⟨w.heap.size, 2, none⟩ = some (.int .i64 ct) := by rw [cell_of_row _ _ _ _ _ _ hbox]; rfl
  have b3 : (w.alloc (.cells #[.int .i64 14, .int .i64 bl, .int .i64 ct, dv] 43)).cell? ⟨w.heap.size, 3, none⟩ = some dv := by rw [cell_of_row _ _ _ _ _ _ hbox]; rfl
  clear hbox
  go_enter Tryz.func9, Tryz.ntmps9
  go_wp2_with (go_at_call 20; refine HCC.out.mono ?_; rintro e w2 ⟨rfl, hP2⟩)
  go_ret
  exact ⟨rfl, _, _, hP2, by omega, by omega⟩
set_option maxHeartbeats 1000000 in
theorem step_15 {w0 w : World} {pp nx k : Nat} {S : St} (h : PAll w0 w pp S nx k) (bl ct : Int) (dv : Value) (dl : List Nat) (hbl : i64ok bl) (hct : i64ok ct) (hdat : Dat w0 dv dl) (hb : ∀ k, (S.cache k).length + 2 ≤ 268435456) (hnx : nx ≤ 1152921504606846976) (hk : k ≤ 1152921504606) :
    Calls Tryz.prog 9 #[.pointer (some ⟨pp, 0, none⟩), .agg #[.int .i64 15, .int .i64 bl, .int .i64 ct, dv]] w fun e w' => StepPost w0 pp S nx k e w' := by
  have HPA := hide (h.alloc (.cells #[.int .i64 15, .int .i64 bl, .int .i64 ct, dv] 43))
  have HBL := hide hbl
  have HCT := hide hct
  have HDA := hide hdat
  have HC2 := hide hb
  have HC1 : Hid (∀ k, (S.cache k).length + 1 ≤ 268435456) := hide fun k => by have := hb k; omega
  have HNX := hide hnx
  have HKK := hide hk
  clear h hbl hct hdat hb hnx hk
  have HCC := hide (tell_15 HPA.out bl ct dv HBL.out HC1.out)
  have hbox := Go.heap_alloc_new w (.cells #[.int .i64 15, .int .i64 bl, .int .i64 ct, dv] 43)
  have b0 : (w.alloc (.cells #[.int .i64 15, .int .i64 bl, .int .i64 ct, dv] 43)).cell? ⟨w.heap.size, 0, none⟩ = some (.int .i64 15) := by rw [cell_of_row _ _ _ _ _ _ hbox]; rfl
  have b1 : (w.alloc (.cells #[.int .i64 15, .int .i64 bl, .int .i64 ct, dv] 43)).cell? ⟨w.heap.size, 1, none⟩ = some (.int .i64 bl) := by rw [cell_of_row _ _ _ _ _ _ hbox]; rfl
  have b2 : (w.alloc (.cells #[.int .i64 15, .int .i64 bl, .int .i64 ct, dv] 43)).cell? ⟨w.heap.size, 2, none⟩ = some (.int .i64 ct) := by rw [cell_of_row _ _ _ _ _ _ hbox]; rfl
  have b3 : (w.alloc (.cells #[.int .i64 15, .int .i64 bl, .int .i64 ct, dv] 43)).cell? ⟨w.heap.size, 3, none⟩ = some dv := by rw [cell_of_row _ _ _ _ _ _ hbox]; rfl
  clear hbox
  go_enter Tryz.func9, Tryz.ntmps9
  go_wp2_with (go_at_call 20; refine HCC.out.mono ?_; rintro e w2 ⟨rfl, hP2⟩)
  go_ret
  exact ⟨rfl, _, _, hP2, by omega, by omega⟩
set_option maxHeartbeats 1000000 in
theorem step_2 {w0 w : World} {pp nx k : Nat} {S : St} (h : PAll w0 w pp S nx k) (bl ct : Int) (dv : Value) (dl : List Nat) (hbl : i64ok bl) (hct : i64ok ct) (hdat : Dat w0 dv dl) (hb : ∀ k, (S.cache k).length + 2 ≤ 268435456) (hnx : nx ≤ 1152921504606846976) (hk : k ≤ 1152921504606) :
    Calls Tryz.prog 9 #[.pointer (some ⟨pp, 0, none⟩), .agg #[.int .i64 2, .int .i64 bl, .int .i64 ct, dv]] w fun e w' => StepPost w0 pp (S.write bl dl) nx k e w' := by
  have HPA := hide (h.alloc (.cells #[.int .i64 2, .int .i64 bl, .int .i64 ct, dv] 43))
  have HBL := hide hbl
  have HCT := hide hct
  have HDA := hide hdat
  have HC2 := hide hb
  have HC1 : Hid (∀ k, (S.cache k).length + 1 ≤ 268435456) := hide fun k => by have := hb k; omega
  have HNX := hide hnx
  have HKK := hide hk
  clear h hbl hct hdat hb hnx hk
  have HCC := hide (lay_2 HPA.out bl ct dv dl HDA.out HC1.out HNX.out HKK.out)
  have hbox := Go.heap_alloc_new w (.cells #[.int .i64 2, .int .i64 bl, .int .i64 ct, dv] 43)
  have b0 : (w.alloc (.cells #[.int .i64 2, .int .i64 bl, .int .i64 ct, dv] 43)).cell? ⟨w.heap.size, 0, none⟩ = some (.int .i64 2) := by rw [cell_of_row _ _ _ _ _ _ hbox]; rfl
  have b1 : (w.alloc (.cells #[.int .i64 2, .int .i64 bl, .int .i64 ct, dv] 43)).cell? ⟨w.heap.size, 1, none⟩ = some (.int .i64 bl) := by rw [cell_of_row _ _ _ _ _ _ hbox]; rfl
  have b2 : (w.alloc (.cells #[.int .i64 2, .int .i64 bl, .int .i64 ct, dv] 43)).cell? ⟨w.heap.size, 2, none⟩ = some (.int .i64 ct) := by rw [cell_of_row _ _ _ _ _ _ hbox]; rfl
  have b3 : (w.alloc (.cells #[.int .i64 2, .int .i64 bl, .int .i64 ct, dv] 43)).cell? ⟨w.heap.size, 3, none⟩ = some dv := by rw [cell_of_row _ _ _ _ _ _ hbox]; rfl
  clear hbox
  go_enter Tryz.func9, Tryz.ntmps9
  go_wp2_with (go_at_call 21; refine HCC.out.mono ?_; rintro e w2 ⟨rfl, hP2⟩)
  go_ret
  exact ⟨rfl, _, _, hP2, by omega, by omega⟩
set_option maxHeartbeats 1000000 in
theorem step_3 {w0 w : World} {pp nx k : Nat} {S : St} (h : PAll w0 w pp S nx k) (bl ct : Int) (dv : Value) (dl : List Nat) (hbl : i64ok bl) (hct : i64ok ct) (hdat : Dat w0 dv dl) (hb : ∀ k, (S.cache k).length + 2 ≤ 268435456) (hnx : nx ≤ 1152921504606846976) (hk : k ≤ 1152921504606) :
    Calls Tryz.prog 9 #[.pointer (some ⟨pp, 0, none⟩), .agg #[.int .i64 3, .int .i64 bl, .int .i64 ct, dv]] w fun e w' => StepPost w0 pp (S.through bl dl) nx k e w' := by
  have HPA := hide (h.alloc (.cells #[.int .i64 3, .int .i64 bl, .int .i64 ct, dv] 43))
  have HBL := hide hbl
  have HCT := hide hct
  have HDA := hide hdat
  have HC2 := hide hb
  have HC1 : Hid (∀ k, (S.cache k).length + 1 ≤ 268435456) := hide fun k => by have := hb k; omega
  have HNX := hide hnx
  have HKK := hide hk
  clear h hbl hct hdat hb hnx hk
  have HCC := hide (lay_3 HPA.out bl ct dv dl HDA.out HC1.out HNX.out HKK.out)
  have hbox := Go.heap_alloc_new w (.cells #[.int .i64 3, .int .i64 bl, .int .i64 ct, dv] 43)
  have b0 : (w.alloc (.cells #[.int .i64 3, .int .i64 bl, .int .i64 ct, dv] 43)).cell? ⟨w.heap.size, 0, none⟩ = some (.int .i64 3) := by rw [cell_of_row _ _ _ _ _ _ hbox]; rfl
  have b1 : (w.alloc (.cells #[.int .i64 3, .int .i64 bl, .int .i64 ct, dv] 43)).cell? ⟨w.heap.size, 1, none⟩ = some (.int .i64 bl) := by rw [cell_of_row _ _ _ _ _ _ hbox]; rfl
  have b2 : (w.alloc (.cells #[.int .i64 3, .int .i64 bl, .int .i64 ct, dv] 43)).cell? ⟨w.heap.size, 2, none⟩ = some (.int .i64 ct) := by rw [cell_of_row _ _ _ _ _ _ hbox]; rfl
  have b3 : (w.alloc (.cells #[.int .i64 3, .int .i64 bl, .int .i64 ct, dv] 43)).cell? ⟨w.heap.size, 3, none⟩ = some dv := by rw [cell_of_row _ _ _ _ _ _ hbox]; rfl
  clear hbox
  go_enter Tryz.func9, Tryz.ntmps9
  go_wp2_with (go_at_call 21; refine HCC.out.mono ?_; rintro e w2 ⟨rfl, hP2⟩)
  go_ret
  exact ⟨rfl, _, _, hP2, by omega, by omega⟩
set_option maxHeartbeats 1000000 in
theorem step_4 {w0 w : World} {pp nx k : Nat} {S : St} (h : PAll w0 w pp S nx k) (bl ct : Int) (dv : Value) (dl : List Nat) (hbl : i64ok bl) (hct : i64ok ct) (hdat : Dat w0 dv dl) (hb : ∀ k, (S.cache k).length + 2 ≤ 268435456) (hnx : nx ≤ 1152921504606846976) (hk : k ≤ 1152921504606) :
    Calls Tryz.prog 9 #[.pointer (some ⟨pp, 0, none⟩), .agg #[.int .i64 4, .int .i64 bl, .int .i64 ct, dv]] w fun e w' => StepPost w0 pp (S.zero bl ct).1 nx k e w' := by
  have HPA := hide (h.alloc (.cells #[.int .i64 4, .int .i64 bl, .int .i64 ct, dv] 43))
  have HBL := hide hbl
  have HCT := hide hct
  have HDA := hide hdat
  have HC2 := hide hb
  have HC1 : Hid (∀ k, (S.cache k).length + 1 ≤ 268435456) := hide fun k => by have := hb k; omega
  have HNX := hide hnx
  have HKK := hide hk
  clear h hbl hct hdat hb hnx hk
  have HCC := hide (act_4 HPA.out bl ct dv HBL.out HCT.out HC2.out)
  have hbox := Go.heap_alloc_new w (.cells #[.int .i64 4, .int .i64 bl, .int .i64 ct, dv] 43)
  have b0 : (w.alloc (.cells #[.int .i64 4, .int .i64 bl, .int .i64 ct, dv] 43)).cell? ⟨w.heap.size, 0, none⟩ = some (.int .i64 4) := by rw [cell_of_row _ _ _ _ _ _ hbox]; rfl
  have b1 : (w.alloc (.cells #[.int .i64 4, .int .i64 bl, .int .i64 ct, dv] 43)).cell? ⟨w.heap.size, 1, none⟩ = some (.int .i64 bl) := by rw [cell_of_row _ _ _ _ _ _ hbox]; rfl
  have b2 : (w.alloc (.cells #[.int .i64 4, .int .i64 bl, .int .i64 ct, dv] 43)).cell? ⟨w.heap.size, 2, none⟩ = some (.int .i64 ct) := by rw [cell_of_row _ _ _ _ _ _ hbox]; rfl
  have b3 : (w.alloc (.cells #[.int .i64 4, .int .i64 bl, .int .i64 ct, dv] 43)).cell? ⟨w.heap.size, 3, none⟩ = some dv := by rw [cell_of_row _ _ _ _ _ _ hbox]; rfl
  clear hbox
  go_enter Tryz.func9, Tryz.ntmps9
  go_wp2_with (go_at_call 22; refine HCC.out.mono ?_; rintro e w2 ⟨rfl, hP2⟩)
  go_ret
  exact ⟨rfl, _, _, hP2, by omega, by omega⟩
set_option maxHeartbeats 1000000 in
theorem step_5 {w0 w : World} {pp nx k : Nat} {S : St} (h : PAll w0 w pp S nx k) (bl ct : Int) (dv : Value) (dl : List Nat) (hbl : i64ok bl) (hct : i64ok ct) (hdat : Dat w0 dv dl) (hb : ∀ k, (S.cache k).length + 2 ≤ 268435456) (hnx : nx ≤ 1152921504606846976) (hk : k ≤ 1152921504606) :
    Calls Tryz.prog 9 #[.pointer (some ⟨pp, 0, none⟩), .agg #[.int .i64 5, .int .i64 bl, .int .i64 ct, dv]] w fun e w' => StepPost w0 pp S.flush nx k e w' := by
  have HPA := hide (h.alloc (.cells #[.int .i64 5, .int .i64 bl, .int .i64 ct, dv] 43))
  have HBL := hide hbl
  have HCT := hide hct
  have HDA := hide hdat
  have HC2 := hide hb
  have HC1 : Hid (∀ k, (S.cache k).length + 1 ≤ 268435456) := hide fun k => by have := hb k; omega
  have HNX := hide hnx
  have HKK := hide hk
  clear h hbl hct hdat hb hnx hk
  have HCC := hide (act_5 HPA.out bl ct dv HC1.out)
  have hbox := Go.heap_alloc_new w (.cells #[.int .i64 5, .int .i64 bl, .int .i64 ct, dv] 43)
  have b0 : (w.alloc (.cells #[.int .i64 5, .int .i64 bl, .int .i64 ct, dv] 43)).cell? ⟨w.heap.size, 0, none⟩ = some (.int .i64 5) := by rw [cell_of_row _ _ _ _ _ _ hbox]; rfl
  have b1 : (w.alloc (.cells #[.int .i64 5, .int .i64 bl, .int .i64 ct, dv] 43)).cell? ⟨w.heap.size, 1, none⟩ = some (.int .i64 bl) := by rw [cell_of_row _ _ _ _ _ _ hbox]; rfl
  have b2 : (w.alloc (.cells #[.int .i64 5, .int .i64 bl, .int .i64 ct, dv] 43)).cell? ⟨w.heap.size, 2, none⟩ = some (.int .i64 ct) := by rw [cell_of_row _ _ _ _ _ _ hbox]; rfl
  have b3 : (w.alloc (.cells #[.int .i64 5, .int .i64 bl, .int .i64 ct, dv] 43)).cell? ⟨w.heap.size, 3, none⟩ = some dv := by rw [cell_of_row _ _ _ _ _ _ hbox]; rfl
  clear hbox
  go_enter Tryz.func9, Tryz.ntmps9
  go_wp2_with (go_at_call 22; refine HCC.out.mono ?_; rintro e w2 ⟨rfl, hP2⟩)
  go_ret
  exact ⟨rfl, _, _, hP2, by omega, by omega⟩
set_option maxHeartbeats 1000000 in
theorem step_10 {w0 w : World} {pp nx k : Nat} {S : St} (h : PAll w0 w pp S nx k) (bl ct : Int) (dv : Value) (dl : List Nat) (hbl : i64ok bl) (hct : i64ok ct) (hdat : Dat w0 dv dl) (hb : ∀ k, (S.cache k).length + 2 ≤ 268435456) (hnx : nx ≤ 1152921504606846976) (hk : k ≤ 1152921504606) :
    Calls Tryz.prog 9 #[.pointer (some ⟨pp, 0, none⟩), .agg #[.int .i64 10, .int .i64 bl, .int .i64 ct, dv]] w fun e w' => StepPost w0 pp (S.spoil bl) nx k e w' := by
  have HPA := hide (h.alloc (.cells #[.int .i64 10, .int .i64 bl, .int .i64 ct, dv] 43))
  have HBL := hide hbl
  have HCT := hide hct
  have HDA := hide hdat
  have HC2 := hide hb
  have HC1 : Hid (∀ k, (S.cache k).length + 1 ≤ 268435456) := hide fun k => by have := hb k; omega
  have HNX := hide hnx
  have HKK := hide hk
  clear h hbl hct hdat hb hnx hk
  have HCC := hide (act_10 HPA.out bl ct dv HBL.out HCT.out HC2.out)
  have hbox := Go.heap_alloc_new w (.cells #[.int .i64 10, .int .i64 bl, .int .i64 ct, dv] 43)
  have b0 : (w.alloc (.cells #[.int .i64 10, .int .i64 bl, .int .i64 ct, dv] 43)).cell? ⟨w.heap.size, 0, none⟩ = some (.int .i64 10) := by rw [cell_of_row _ _ _ _ _ _ hbox]; rfl
  have b1 : (w.alloc (.cells #[.int .i64 10, .int .i64 bl, .int .i64 ct, dv] 43)).cell? ⟨w.heap.size, 1, none⟩ = some (.int .i64 bl) := by rw [cell_of_row _ _ _ _ _ _ hbox]; rfl
  have b2 : (w.alloc (.cells #[.int .i64 10, .int .i64 bl, .int .i64 ct, dv] 43)).cell? ⟨w.heap.size, 2, none⟩ = some (.int .i64 ct) := by rw [cell_of_row _ _ _ _ _ _ hbox]; rfl
  have b3 : (w.alloc (.cells #[.int .i64 10, .int .i64 bl, .int .i64 ct, dv] 43)).cell? ⟨w.heap.size, 3, none⟩ = some dv := by rw [cell_of_row _ _ _ _ _ _ hbox]; rfl
  clear hbox
  go_enter Tryz.func9, Tryz.ntmps9
  go_wp2_with (go_at_call 22; refine HCC.out.mono ?_; rintro e w2 ⟨rfl, hP2⟩)
  go_ret
  exact ⟨rfl, _, _, hP2, by omega, by omega⟩
set_option maxHeartbeats 1000000 in
theorem step_11 {w0 w : World} {pp nx k : Nat} {S : St} (h : PAll w0 w pp S nx k) (bl ct : Int) (dv : Value) (dl : List Nat) (hbl : i64ok bl) (hct : i64ok ct) (hdat : Dat w0 dv dl) (hb : ∀ k, (S.cache k).length + 2 ≤ 268435456) (hnx : nx ≤ 1152921504606846976) (hk : k ≤ 1152921504606) :
    Calls Tryz.prog 9 #[.pointer (some ⟨pp, 0, none⟩), .agg #[.int .i64 11, .int .i64 bl, .int .i64 ct, dv]] w fun e w' => StepPost w0 pp (S.fused ct) nx k e w' := by
  have HPA := hide (h.alloc (.cells #[.int .i64 11, .int .i64 bl, .int .i64 ct, dv] 43))
  have HBL := hide hbl
  have HCT := hide hct
  have HDA := hide hdat
  have HC2 := hide hb
  have HC1 : Hid (∀ k, (S.cache k).length + 1 ≤ 268435456) := hide fun k => by have := hb k; omega
  have HNX := hide hnx
  have HKK := hide hk
  clear h hbl hct hdat hb hnx hk
  have HCC := hide (act_11 HPA.out bl ct dv HCT.out)
  have hbox := Go.heap_alloc_new w (.cells #[.int .i64 11, .int .i64 bl, .int .i64 ct, dv] 43)
  have b0 : (w.alloc (.cells #[.int .i64 11, .int .i64 bl, .int .i64 ct, dv] 43)).cell? ⟨w.heap.size, 0, none⟩ = some (.int .i64 11) := by rw [cell_of_row _ _ _ _ _ _ hbox]; rfl
  have b1 : (w.alloc (.cells #[.int .i64 11, .int .i64 bl, .int .i64 ct, dv] 43)).cell? ⟨w.heap.size, 1, none⟩ = some (.int .i64 bl) := by rw [cell_of_row _ _ _ _ _ _ hbox]; rfl
  have b2 : (w.alloc (.cells #[.int .i64 11, .int .i64 bl, .int .i64 ct, dv] 43)).cell? ⟨w.heap.size, 2, none⟩ = some (.int .i64 ct) := by rw [cell_of_row _ _ _ _ _ _ hbox]; rfl
  have b3 : (w.alloc (.cells #[.int .i64 11, .int .i64 bl, .int .i64 ct, dv] 43)).cell? ⟨w.heap.size, 3, none⟩ = some dv := by rw [cell_of_row _ _ _ _ _ _ hbox]; rfl
  clear hbox
  go_enter Tryz.func9, Tryz.ntmps9
  go_wp2_with (go_at_call 22; refine HCC.out.mono ?_; rintro e w2 ⟨rfl, hP2⟩)
  go_ret
  exact ⟨rfl, _, _, hP2, by omega, by omega⟩
set_option maxHeartbeats 1000000 in
theorem step_13 {w0 w : World} {pp nx k : Nat} {S : St} (h : PAll w0 w pp S nx k) (bl ct : Int) (dv : Value) (dl : List Nat) (hbl : i64ok bl) (hct : i64ok ct) (hdat : Dat w0 dv dl) (hb : ∀ k, (S.cache k).length + 2 ≤ 268435456) (hnx : nx ≤ 1152921504606846976) (hk : k ≤ 1152921504606) :
    Calls Tryz.prog 9 #[.pointer (some ⟨pp, 0, none⟩), .agg #[.int .i64 13, .int .i64 bl, .int .i64 ct, dv]] w fun e w' => StepPost w0 pp (S.crash dl) nx k e w' := by
  have HPA := hide (h.alloc (.cells #[.int .i64 13, .int .i64 bl, .int .i64 ct, dv] 43))
  have HBL := hide hbl
  have HCT := hide hct
  have HDA := hide hdat
  have HC2 := hide hb
  have HC1 : Hid (∀ k, (S.cache k).length + 1 ≤ 268435456) := hide fun k => by have := hb k; omega
  have HNX := hide hnx
  have HKK := hide hk
  clear h hbl hct hdat hb hnx hk
  have HCC := hide (act_13 HPA.out bl ct dv dl HDA.out HC1.out HNX.out HKK.out)
  have hbox := Go.heap_alloc_new w (.cells #[.int .i64 13, .int .i64 bl, .int .i64 ct, dv] 43)
  have b0 : (w.alloc (.cells #[.int .i64 13, .int .i64 bl, .int .i64 ct, dv] 43)).cell? ⟨w.heap.size, 0, none⟩ = some (.int .i64 13) := by rw [cell_of_row _ _ _ _ _ _ hbox]; rfl
  have b1 : (w.alloc (.cells #[.int .i64 13, .int .i64 bl, .int .i64 ct, dv] 43)).cell? ⟨w.heap.size, 1, none⟩ = some (.int .i64 bl) := by rw [cell_of_row _ _ _ _ _ _ hbox]; rfl
  have b2 : (w.alloc (.cells #[.int .i64 13, .int .i64 bl, .int .i64 ct, dv] 43)).cell? ⟨w.heap.size, 2, none⟩ = some (.int .i64 ct) := by rw [cell_of_row _ _ _ _ _ _ hbox]; rfl
  have b3 : (w.alloc (.cells #[.int .i64 13, .int .i64 bl, .int .i64 ct, dv] 43)).cell? ⟨w.heap.size, 3, none⟩ = some dv := by rw [cell_of_row _ _ _ _ _ _ hbox]; rfl
  clear hbox
  go_enter Tryz.func9, Tryz.ntmps9
  go_wp2_with (go_at_call 22; refine HCC.out.mono ?_; rintro e w2 ⟨rfl, hP2⟩)
  go_ret
  exact ⟨rfl, _, _, hP2, by omega, by omega⟩
set_option maxHeartbeats 1000000 in
theorem step_no {w0 w : World} {pp nx k : Nat} {S : St} (h : PAll w0 w pp S nx k) (kd bl ct : Int) (dv : Value) (hn : ∀ n : Nat, 1 ≤ n → n ≤ 15 → kd ≠ (n : Int)) :
    Calls Tryz.prog 9 #[.pointer (some ⟨pp, 0, none⟩), .agg #[.int .i64 kd, .int .i64 bl, .int .i64 ct, dv]] w fun e w' => StepPost w0 pp S nx k e w' := by
  have HPA := hide (h.alloc (.cells #[.int .i64 kd, .int .i64 bl, .int .i64 ct, dv] 43))
  clear h
  have HCC := hide (act_no HPA.out kd bl ct dv (hn 4 (by omega) (by omega)) (hn 5 (by omega) (by omega)) (hn 10 (by omega) (by omega)) (hn 11 (by omega) (by omega)) (hn 13 (by omega) (by omega)))
  have n1 : ¬ kd = 1 := hn 1 (by omega) (by omega)
  have n2 : ¬ kd = 2 := hn 2 (by omega) (by omega)
  have n3 : ¬ kd = 3 := hn 3 (by omega) (by omega)
  have n6 : ¬ kd = 6 := hn 6 (by omega) (by omega)
  have n7 : ¬ kd = 7 := hn 7 (by omega) (by omega)
  have n8 : ¬ kd = 8 := hn 8 (by omega) (by omega)
  have n9 : ¬ kd = 9 := hn 9 (by omega) (by omega)
  have n12 : ¬ kd = 12 := hn 12 (by omega) (by omega)
  have n14 : ¬ kd = 14 := hn 14 (by omega) (by omega)
  have n15 : ¬ kd = 15 := hn 15 (by omega) (by omega)
  have hbox := Go.heap_alloc_new w (.cells #[.int .i64 kd, .int .i64 bl, .int .i64 ct, dv] 43)
  have b0 : (w.alloc (.cells #[.int .i64 kd, .int .i64 bl, .int .i64 ct, dv] 43)).cell? ⟨w.heap.size, 0, none⟩ = some (.int .i64 kd) := by rw [cell_of_row _ _ _ _ _ _ hbox]; rfl
  have b1 : (w.alloc (.cells #[.int .i64 kd, .int .i64 bl, .int .i64 ct, dv] 43)).cell? ⟨w.heap.size, 1, none⟩ = some (.int .i64 bl) := by rw [cell_of_row _ _ _ _ _ _ hbox]; rfl
  have b2 : (w.alloc (.cells #[.int .i64 kd, .int .i64 bl, .int .i64 ct, dv] 43)).cell? ⟨w.heap.size, 2, none⟩ = some (.int .i64 ct) := by rw [cell_of_row _ _ _ _ _ _ hbox]; rfl
  have b3 : (w.alloc (.cells #[.int .i64 kd, .int .i64 bl, .int .i64 ct, dv] 43)).cell? ⟨w.heap.size, 3, none⟩ = some dv := by rw [cell_of_row _ _ _ _ _ _ hbox]; rfl
  clear hbox hn
  go_enter Tryz.func9, Tryz.ntmps9
  go_wp2_with (go_at_call 22; refine HCC.out.mono ?_; rintro e w2 ⟨rfl, hP2⟩)
  go_ret
  exact ⟨rfl, _, _, hP2, by omega, by omega⟩
end Go.Proofs.YtlpmpicmpklaoacGreat
namespace Go.Proofs.YtlpmpicmpklaoacGreat
open Go.RowKit Go.Maps Go.Sort
set_option linter.unusedVariables false
set_option linter.unusedSimpArgs false
set_option maxRecDepth 20000

/-- a step of the pair, whatever the operation -/
theorem pstep_any {w0 w : World} {pp nx k : Nat} {S : St} (h : PAll w0 w pp S nx k) (o : OpV) (hbl : i64ok o.block) (hct : i64ok o.count) (hdat : Dat w0 o.dv o.dl) (hb : ∀ k, (S.cache k).length + 2 ≤ 268435456) (hnx : nx ≤ 1152921504606846976) (hk : k ≤ 1152921504606) :
    Calls Tryz.prog 9 #[.pointer (some ⟨pp, 0, none⟩), o.val] w fun e w' => StepPost w0 pp (S.call o) nx k e w' := by
  obtain ⟨kd, bl, ct, dv, dl⟩ := o
  unfold OpV.val
  dsimp only at *
  by_cases hn : ∀ n : Nat, 1 ≤ n → n ≤ 15 → kd ≠ (n : Int)
  · have e1 : S.call ⟨kd, bl, ct, dv, dl⟩ = S := by
      have n1 : ¬ kd = 1 := hn 1 (by omega) (by omega)
      have n2 : ¬ kd = 2 := hn 2 (by omega) (by omega)
      have n3 : ¬ kd = 3 := hn 3 (by omega) (by omega)
      have n4 : ¬ kd = 4 := hn 4 (by omega) (by omega)
      have n5 : ¬ kd = 5 := hn 5 (by omega) (by omega)
      have n10 : ¬ kd = 10 := hn 10 (by omega) (by omega)
      have n11 : ¬ kd = 11 := hn 11 (by omega) (by omega)
      have n13 : ¬ kd = 13 := hn 13 (by omega) (by omega)
      simp only [St.call, n1, n2, n3, n4, n5, n10, n11, n13, if_false]
    rw [e1]
    exact step_no h kd bl ct dv hn
  · have : ∃ n : Nat, 1 ≤ n ∧ n ≤ 15 ∧ kd = (n : Int) := by
      refine Classical.byContradiction fun hc => hn fun n h1 h2 h3 => hc ⟨n, h1, h2, h3⟩
    obtain ⟨n, h1, h2, rfl⟩ := this
    clear hn
    rcases (show n = 1 ∨ n = 2 ∨ n = 3 ∨ n = 4 ∨ n = 5 ∨ n = 6 ∨ n = 7 ∨ n = 8 ∨ n = 9 ∨ n = 10 ∨ n = 11 ∨ n = 12 ∨ n = 13 ∨ n = 14 ∨ n = 15 by omega) with e | e | e | e | e | e | e | e | e | e | e | e | e | e | e <;> subst e
    · exact step_1 h bl ct dv dl hbl hct hdat hb hnx hk
    · exact step_2 h bl ct dv dl hbl hct hdat hb hnx hk
    · exact step_3 h bl ct dv dl hbl hct hdat hb hnx hk
    · exact step_4 h bl ct dv dl hbl hct hdat hb hnx hk
    · exact step_5 h bl ct dv dl hbl hct hdat hb hnx hk
    · exact step_6 h bl ct dv dl hbl hct hdat hb hnx hk
    · exact step_7 h bl ct dv dl hbl hct hdat hb hnx hk
    · exact step_8 h bl ct dv dl hbl hct hdat hb hnx hk
    · exact step_9 h bl ct dv dl hbl hct hdat hb hnx hk
    · exact step_10 h bl ct dv dl hbl hct hdat hb hnx hk
    · exact step_11 h bl ct dv dl hbl hct hdat hb hnx hk
    · exact step_12 h bl ct dv dl hbl hct hdat hb hnx hk
    · exact step_13 h bl ct dv dl hbl hct hdat hb hnx hk
    · exact step_14 h bl ct dv dl hbl hct hdat hb hnx hk
    · exact step_15 h bl ct dv dl hbl hct hdat hb hnx hk
end Go.Proofs.YtlpmpicmpklaoacGreat
namespace Go.Proofs.YtlpmpicmpklaoacGreat
open Go.RowKit Go.Maps Go.Sort
set_option linter.unusedVariables false
set_option linter.unusedSimpArgs false
set_option maxRecDepth 20000

theorem geo_parts {n s : Int} (h : goodGeo n s = true) : ∃ nb sz : Nat, n = (nb : Int) ∧ s = (sz : Int) ∧ 1 ≤ nb ∧ nb ≤ 8192 ∧ (sz = 128 ∨ sz = 256 ∨ sz = 512 ∨ sz = 1024) := by
  have h' := of_decide_eq_true h
  refine ⟨n.toNat, s.toNat, ?_, ?_, ?_, ?_, ?_⟩ <;> omega
/-- New, at any geometry -/
theorem kNew (w : World) (n s : Int) :
    Calls Tryz.prog 18 #[.int .i64 n, .int .i64 s] w fun e w' => (goodGeo n s = false → e = .returned (.tuple #[.pointer none, .int .i64 1]) ∧ w' = w) ∧
      (goodGeo n s = true → NewPost w n.toNat s.toNat (fun _ => zeros s.toNat) e w') := by
  cases hg : goodGeo n s with
  | false =>
    refine (New_bad w n s hg).mono ?_
    rintro e w' ⟨rfl, rfl⟩
    exact ⟨fun _ => ⟨rfl, rfl⟩, fun h => absurd h (by decide)⟩
  | true =>
    obtain ⟨nb, sz, rfl, rfl, h1, h2, h3⟩ := geo_parts hg
    refine (New_any w nb sz h1 h2 h3).mono ?_
    intro e w' h
    exact ⟨fun h => absurd h (by decide), fun _ => h⟩
/-- Load, at any geometry and any image -/
theorem kLoad (w : World) (n s : Int) (v : Value) (m : List Nat) (hv : BSl w v m) :
    Calls Tryz.prog 14 #[.int .i64 n, .int .i64 s, v] w fun e w' => (goodGeo n s = false → e = .returned (.tuple #[.pointer none, .int .i64 1]) ∧ w' = w) ∧
      (goodGeo n s = true → ¬ m.length = n.toNat * s.toNat → e = .returned (.tuple #[.pointer none, .int .i64 3]) ∧ w' = w) ∧
      (goodGeo n s = true → m.length = n.toNat * s.toNat → NewPost w n.toNat s.toNat (cutOf m s.toNat) e w') := by
  cases hg : goodGeo n s with
  | false =>
    refine (Load_bad w n s v hg).mono ?_
    rintro e w' ⟨rfl, rfl⟩
    exact ⟨fun _ => ⟨rfl, rfl⟩, fun h => absurd h (by decide), fun h => absurd h (by decide)⟩
  | true =>
    obtain ⟨nb, sz, rfl, rfl, h1, h2, h3⟩ := geo_parts hg
    by_cases hm : m.length = nb * sz
    · refine (Load_any w nb sz v m hv hm h1 h2 h3).mono ?_
      intro e w' h
      exact ⟨fun h => absurd h (by decide), fun _ h2 => absurd hm h2, fun _ _ => h⟩
    · refine (Load_size w nb sz v m hv hm h1 h2 h3).mono ?_
      rintro e w' ⟨rfl, rfl⟩
      exact ⟨fun h => absurd h (by decide), fun _ _ => ⟨rfl, rfl⟩, fun _ h2 => absurd h2 hm⟩
/-- a pair is made -/
def MadePost (w : World) (e : Ending) (w' : World) : Prop :=
  ∃ pp, e = .returned (.tuple #[.pointer (some ⟨pp, 0, none⟩), .bool true]) ∧ Below w.heap.size w w' ∧ w.heap.size ≤ pp ∧
    ((w'.cell? ⟨pp, 0, none⟩ = some (.pointer none)) ∨ ∃ S, PAll w w' pp S 0 0 ∧ ∀ k, S.cache k = [])
theorem PAll.new {w0 w : World} {pp : Nat} {S : St} {L : Lay} {RL : RLay} (hd : Rep w L S) (hr : RD w RL S (-1)) (hrow : w.heap[pp]? = some (.cells (pairRow (PD L) (PR RL) 0 (.slice none 0 0)) 40 (0, 0))) (be : Below w0.heap.size w0 w)
    (uD : ∀ x, L.U x → w0.heap.size ≤ x) (uR : ∀ x, RL.U x → w0.heap.size ≤ x) (uP : w0.heap.size ≤ pp) (ap : ∀ x, L.U x → ¬ RL.U x) (pD : ¬ L.U pp) (pR : ¬ RL.U pp) : PAll w0 w pp S 0 0 :=
  ⟨L, RL, -1, .slice none 0 0, hd, hr, ⟨hrow, [], World.ownsRow_nil _ _ _ _⟩, be, uD, uR, uP, fun x hx => by simp [Value.ownBlock] at hx, ap, pD, pR, fun x hx => by simp [Value.ownBlock] at hx⟩
def madeBox (ld : Bool) (n s : Int) (iv : Value) : Obj := .cells #[.bool ld, .int .i64 n, .int .i64 s, iv] 24
/-- what a pair that is being made holds -/
structure MkAt (w w1 : World) (ld : Bool) (n s : Int) (iv D R : Value) : Prop where
  box : w1.heap[w.heap.size]? = some (.cells #[.bool ld, .int .i64 n, .int .i64 s, iv] 24 (0, 0))
  row : w1.heap[w.heap.size + 1]? = some (.cells (pairRow D R 0 (.slice none 0 0)) 40 (0, 0))
  be : Below w.heap.size w w1
theorem MkAt.kept {w w1 w2 : World} {ld : Bool} {n s : Int} {iv D R : Value} (h : MkAt w w1 ld n s iv D R) (hb : Below w1.heap.size w1 w2) : MkAt w w2 ld n s iv D R := by
  have l1 : w.heap.size < w1.heap.size := (Array.getElem?_eq_some_iff.1 h.box).1
  have l2 : w.heap.size + 1 < w1.heap.size := (Array.getElem?_eq_some_iff.1 h.row).1
  exact ⟨(hb.block _ l1).trans h.box, (hb.block _ l2).trans h.row, h.be.trans (hb.mono h.be.size)⟩
theorem MkAt.setD {w w1 : World} {ld : Bool} {n s : Int} {iv D R : Value} (h : MkAt w w1 ld n s iv D R) (D' : Value) : MkAt w (w1.setCell ⟨w.heap.size + 1, 0, none⟩ D') ld n s iv D' R :=
  ⟨(Go.heap_setCell_other _ _ _ _ (by simp)).trans h.box, Go.heap_setCell_same w1 _ 0 _ 40 _ h.row, h.be.setCell (p := ⟨w.heap.size + 1, 0, none⟩) (by simp) _⟩
theorem MkAt.setR {w w1 : World} {ld : Bool} {n s : Int} {iv D R : Value} (h : MkAt w w1 ld n s iv D R) (R' : Value) : MkAt w (w1.setCell ⟨w.heap.size + 1, 1, none⟩ R') ld n s iv D R' :=
  ⟨(Go.heap_setCell_other _ _ _ _ (by simp)).trans h.box, Go.heap_setCell_same w1 _ 1 _ 40 _ h.row, h.be.setCell (p := ⟨w.heap.size + 1, 1, none⟩) (by simp) _⟩
theorem MkAt.cells {w w1 : World} {ld : Bool} {n s : Int} {iv D R : Value} (h : MkAt w w1 ld n s iv D R) : w1.cell? ⟨w.heap.size, 0, none⟩ = some (.bool ld) ∧ w1.cell? ⟨w.heap.size, 1, none⟩ = some (.int .i64 n) ∧ w1.cell? ⟨w.heap.size, 2, none⟩ = some (.int .i64 s) ∧ w1.cell? ⟨w.heap.size, 3, none⟩ = some iv ∧ w1.cell? ⟨w.heap.size + 1, 0, none⟩ = some D ∧ w1.cell? ⟨w.heap.size + 1, 1, none⟩ = some R ∧ w1.frozen? ⟨w.heap.size + 1, 0, none⟩ = false ∧ w1.frozen? ⟨w.heap.size + 1, 1, none⟩ = false := by
  refine ⟨?_, ?_, ?_, ?_, ?_, ?_, frozen_of_row _ _ _ _ 40 h.row, frozen_of_row _ _ _ _ 40 h.row⟩
  · rw [cell_of_row _ _ _ _ _ _ h.box]; rfl
  · rw [cell_of_row _ _ _ _ _ _ h.box]; rfl
  · rw [cell_of_row _ _ _ _ _ _ h.box]; rfl
  · rw [cell_of_row _ _ _ _ _ _ h.box]; rfl
  · rw [cell_of_row _ _ _ _ _ _ h.row]; rfl
  · rw [cell_of_row _ _ _ _ _ _ h.row]; rfl
theorem MkAt.start (w : World) (ld : Bool) (n s : Int) (iv : Value) : MkAt w ((w.alloc (.cells #[.bool ld, .int .i64 n, .int .i64 s, iv] 24)).alloc (.cells #[.pointer none, .pointer none, .bool false, .slice none 0 0, .slice none 0 0, .slice none 0 0, .slice none 0 0, .int .i64 0, .bool false, .slice none 0 0, .slice none 0 0, .slice none 0 0, .slice none 0 0] 40)) ld n s iv (.pointer none) (.pointer none) := by
  have b1 : Below w.heap.size w (w.alloc (.cells #[.bool ld, .int .i64 n, .int .i64 s, iv] 24)) := (Below.refl _ _).alloc (Nat.le_refl _) _
  have z1 : (w.alloc (.cells #[.bool ld, .int .i64 n, .int .i64 s, iv] 24)).heap.size = w.heap.size + 1 := by simp
  refine ⟨?_, ?_, b1.alloc (by omega) _⟩
  · rw [Below.heap_alloc _ _ _ (by omega)]
    exact Go.heap_alloc_new w _
  · have := Go.heap_alloc_new (w.alloc (.cells #[.bool ld, .int .i64 n, .int .i64 s, iv] 24)) (.cells #[.pointer none, .pointer none, .bool false, .slice none 0 0, .slice none 0 0, .slice none 0 0, .slice none 0 0, .int .i64 0, .bool false, .slice none 0 0, .slice none 0 0, .slice none 0 0, .slice none 0 0] 40)
    rw [z1] at this
    exact this
set_option maxHeartbeats 1000000 in
theorem made_new_bad (w : World) (n s : Int) (iv : Value) (hn : i64ok n) (hs : i64ok s) (hg : goodGeo n s = false) :
    Calls Tryz.prog 8 #[.agg #[.bool false, .int .i64 n, .int .i64 s, iv]] w fun e w' => MadePost w e w' := by
  have HK := hide (fun w => kNew w n s)
  have HR := hide (fun w => rNew w n s hn hs)
  have HG := hide hg
  have M0 := hide (MkAt.start w false n s iv)
  clear hn hs hg
  go_enter Tryz.func8, Tryz.ntmps8
  go_wp2_with fail
  refine (HK.out _).mono ?_
  rintro e w1 ⟨h1, -⟩
  obtain ⟨rfl, rfl⟩ := h1 HG.out
  clear h1
  generalize hW : ((w.alloc (.cells #[.bool false, .int .i64 n, .int .i64 s, iv] 24)).alloc _) = wA at *
  have HW := hide hW
  clear hW
  have M1 := hide (M0.out.setD (.pointer none))
  obtain ⟨-, c01, c02, -, c04, c05, c06, c07⟩ := M0.out.cells
  obtain ⟨-, c11, c12, -, c14, c15, c16, c17⟩ := M1.out.cells
  go_wp2_with fail
  refine (HR.out _).mono ?_
  rintro e w2 ⟨h2, -⟩
  obtain ⟨rfl, rfl⟩ := h2 HG.out
  clear h2
  generalize hW1 : wA.setCell ⟨w.heap.size + 1, 0, none⟩ (.pointer none) = wB at *
  have HW1 := hide hW1
  clear hW1 c01 c02 c04 c05 c06 c07
  have M2 := hide (M1.out.setR (.pointer none))
  obtain ⟨-, c21, c22, -, c24, c25, c26, c27⟩ := M2.out.cells
  go_wp2_with fail
  go_region_held3 (fun w' => w'.cell? ⟨w.heap.size + 1, 0, none⟩ = some (.pointer none) ∧ w'.cell? ⟨w.heap.size + 1, 1, none⟩ = some (.pointer none)) (first | exact ⟨c24, c25⟩ | assumption) (fail)
  go_wp2
  go_ret2
  have M3 := M2.out.kept (Below.drew (Below.refl _ _))
  exact ⟨w.heap.size + 1, rfl, M3.be, by omega, .inl M3.cells.2.2.2.2.1⟩
set_option maxHeartbeats 1000000 in
theorem made_new_good (w : World) (n s : Int) (iv : Value) (hn : i64ok n) (hs : i64ok s) (hg : goodGeo n s = true) :
    Calls Tryz.prog 8 #[.agg #[.bool false, .int .i64 n, .int .i64 s, iv]] w fun e w' => MadePost w e w' := by
  have HK := hide (fun w => kNew w n s)
  have HR := hide (fun w => rNew w n s hn hs)
  have HG := hide hg
  have M0 := hide (MkAt.start w false n s iv)
  clear hn hs hg
  go_enter Tryz.func8, Tryz.ntmps8
  go_wp2_with fail
  refine (HK.out _).mono ?_
  rintro e w1 ⟨-, h1⟩
  obtain ⟨L, rfl, hD1, hB1, hU1⟩ := h1 HG.out
  clear h1
  generalize hW : ((w.alloc (.cells #[.bool false, .int .i64 n, .int .i64 s, iv] 24)).alloc _) = wA at *
  have HD1 := hide hD1
  have HB1 := hide hB1
  have HU1 := hide hU1
  clear hW hD1 hB1 hU1
  unfold PD
  have M0' := hide (M0.out.kept HB1.out)
  have M1 := hide (M0'.out.setD (PD L))
  have p1 : w.heap.size + 1 < wA.heap.size := (Array.getElem?_eq_some_iff.1 M0.out.row).1
  have HP1 := hide p1
  clear p1
  have HD2 : Hid (Rep (w1.setCell ⟨w.heap.size + 1, 0, none⟩ (PD L)) L (St.fresh n.toNat s.toNat fun _ => zeros s.toNat)) := hide (HD1.out.kept (fun x hx => Go.heap_setCell_other _ _ _ _ fun e : x = w.heap.size + 1 => by have := HU1.out x hx; have := HP1.out; omega) (by simp [World.setCell]))
  obtain ⟨-, c01, c02, -, c04, c05, c06, c07⟩ := M0'.out.cells
  obtain ⟨-, c11, c12, -, c14, c15, c16, c17⟩ := M1.out.cells
  unfold PD at M1 HD2 c11 c12 c14 c15 c16 c17
  go_wp2_with fail
  refine (HR.out _).mono ?_
  rintro e w2 ⟨-, h2⟩
  obtain ⟨RL, rfl, hD3, hB3, hU3⟩ := h2 HG.out
  clear h2
  generalize hW1 : w1.setCell ⟨w.heap.size + 1, 0, none⟩ (.pointer (some ⟨L.p, 0, none⟩)) = wB at *
  clear hW1 c01 c02 c04 c05 c06 c07 c11 c12 c14 c15 c16 c17
  have HD3 := hide hD3
  have HB3 := hide hB3
  have HU3 := hide hU3
  clear hD3 hB3 hU3
  unfold PR
  have M1' := hide (M1.out.kept HB3.out)
  have M2 := hide (M1'.out.setR (PR RL))
  obtain ⟨-, c11, c12, -, c14, c15, c16, c17⟩ := M1'.out.cells
  obtain ⟨-, c21, c22, -, c24, c25, c26, c27⟩ := M2.out.cells
  unfold PR at c21 c22 c24 c25 c26 c27
  go_wp2_with fail
  go_region_held3 (fun w' => w'.cell? ⟨w.heap.size + 1, 0, none⟩ = some (.pointer (some ⟨L.p, 0, none⟩)) ∧ w'.cell? ⟨w.heap.size + 1, 1, none⟩ = some (.pointer (some ⟨RL.p, 0, none⟩))) (first | exact ⟨c24, c25⟩ | assumption) (fail)
  go_wp2
  go_ret2
  have M3 := M2.out.kept (Below.drew (Below.refl _ _))
  have p1 := HP1.out
  have p2 : w.heap.size + 1 < wB.heap.size := (Array.getElem?_eq_some_iff.1 M1.out.row).1
  have nP : ¬ L.U (w.heap.size + 1) := fun hu => by have := HU1.out _ hu; omega
  have nR : ¬ RL.U (w.heap.size + 1) := fun hu => by have := HU3.out _ hu; omega
  have K : ∀ b, b ≠ w.heap.size + 1 → ((w2.setCell ⟨w.heap.size + 1, 1, none⟩ (PR RL)).drew).heap[b]? = w2.heap[b]? := fun b hb => Go.heap_setCell_other _ _ _ _ hb
  have hz : w2.heap.size ≤ ((w2.setCell ⟨w.heap.size + 1, 1, none⟩ (PR RL)).drew).heap.size := by simp [World.setCell, World.drew]
  refine ⟨w.heap.size + 1, rfl, M3.be, by omega, .inr ⟨St.fresh n.toNat s.toNat fun _ => zeros s.toNat, PAll.new (L := L) (RL := RL) ((HD2.out.below HB3.out).kept (fun x hx => K x fun e => nP (e ▸ hx)) hz) (HD3.out.kept (fun x hx => K x fun e => nR (e ▸ hx)) hz) M3.row M3.be ?_ ?_ (by omega) ?_ nP nR, fun k => rfl⟩⟩
  · intro x hx
    have := HU1.out x hx
    omega
  · intro x hx
    have := HU3.out x hx
    omega
  · intro x hx hx2
    have := HD2.out.uLt x hx
    have := HU3.out x hx2
    omega
end Go.Proofs.YtlpmpicmpklaoacGreat
namespace Go.Proofs.YtlpmpicmpklaoacGreat
open Go.RowKit Go.Maps Go.Sort
set_option linter.unusedVariables false
set_option linter.unusedSimpArgs false
set_option maxRecDepth 20000

theorem FInv2.xor {w wr : World} {pp g n i : Nat} (h : FInv2 w wr pp g n) (hi : i < n) : ∃ x : Nat, x < 256 ∧ wr.cell? ⟨g, i, none⟩ = some (.int .u8 (x : Int)) ∧ wr.frozen? ⟨g, i, none⟩ = false ∧ FInv2 w (wr.setCell ⟨g, i, none⟩ (.int .u8 ((x ^^^ 255 : Nat) : Int))) pp g n := by
  obtain ⟨l, hl, hp⟩ := h.pc
  refine ⟨l[i]'(by omega), hp.2.1 _ (List.getElem_mem _), ?_, frozen_of_row _ _ _ _ 5 hp.1, h.set hi (Nat.xor_lt_two_pow (n := 8) (hp.2.1 _ (List.getElem_mem _)) (by decide))⟩
  rw [cell_of_row _ _ _ _ _ _ hp.1]
  simp [byteV, List.getElem?_eq_getElem (show i < l.length by omega)]
set_option maxHeartbeats 2000000 in
theorem made_load_bad (w : World) (n s : Int) (iv : Value) (l : List Nat) (hn : i64ok n) (hs : i64ok s) (hv : BSl w iv l) (hl : l.length ≤ 140737488355000) (hg : goodGeo n s = false) :
    Calls Tryz.prog 8 #[.agg #[.bool true, .int .i64 n, .int .i64 s, iv]] w fun e w' => MadePost w e w' := by
  have M0 := hide (MkAt.start w true n s iv)
  have HV := hide hv
  have HL := hide hl
  have HG := hide hg
  have HN := hide hn
  have HS := hide hs
  clear hv hl hg hn hs
  go_enter Tryz.func8, Tryz.ntmps8
  go_wp2_with fail
  have HV1 := hide (HV.out.below M0.out.be)
  refine (hand_any _ iv l HV1.out (by have := HL.out; omega)).mono ?_
  rintro e w1 ⟨rfl, hp1, hb1⟩
  have M1 := hide (M0.out.kept hb1)
  have HV2 := hide (HV1.out.below hb1)
  generalize hW : ((w.alloc (.cells #[.bool true, .int .i64 n, .int .i64 s, iv] 24)).alloc _) = wA at *
  clear hW
  have HP1 := hide hp1
  have HB1 := hide hb1
  have HW1 : Hid (w.heap.size + 1 < wA.heap.size) := hide (Array.getElem?_eq_some_iff.1 M0.out.row).1
  clear hp1 hb1
  have bd : Below w1.heap.size w1 w1.drew := Below.drew (Below.refl _ _)
  have M2 := hide (M1.out.kept bd)
  have HP2 := hide (HP1.out.kept (w' := w1.drew) rfl)
  have HV3 := hide (HV2.out.below bd)
  have HA := hide (arg_any HV3.out HP2.out (by have := HL.out; omega))
  have HK := hide (fun u hu => kLoad w1.drew n s u l hu)
  clear bd
  have M3 := hide ((M1.out.setD (.pointer none)).kept (Below.drew (Below.refl _ _)))
  obtain ⟨e00, e01, e02, e03, e04, e05, e06, e07⟩ := M3.out.cells
  obtain ⟨c00, c01, c02, c03, c04, c05, c06, c07⟩ := M1.out.cells
  obtain ⟨d00, d01, d02, d03, d04, d05, d06, d07⟩ := M2.out.cells
  unfold sl at *
  go_wp2_with fail
  go_region_held3 (fun w' => w'.cell? ⟨w.heap.size, 1, none⟩ = some (.int .i64 n) ∧ w'.cell? ⟨w.heap.size, 2, none⟩ = some (.int .i64 s) ∧ w'.cell? ⟨w.heap.size, 3, none⟩ = some iv) (first | exact ⟨c01, c02, c03⟩ | exact ⟨d01, d02, d03⟩ | exact ⟨e01, e02, e03⟩ | exact ⟨g01, g02, g03⟩ | assumption)
    (first
      | (go_at_call 15; refine HA.out.mono ?_; rintro e w2 ⟨u, rfl, rfl, hu, hg⟩; have HU := hide hu; clear hu hg)
      | (go_at_call 14; refine (HK.out _ HU.out).mono ?_; rintro e w2 ⟨h1, -, -⟩; obtain ⟨rfl, rfl⟩ := h1 HG.out; clear h1))
  have HP3 : Hid (PieceAt ((w1.setCell ⟨w.heap.size + 1, 0, none⟩ (.pointer none)).drew) wA.heap.size (l ++ marks)) := hide (HP1.out.kept (Go.heap_setCell_other _ _ _ _ (show wA.heap.size ≠ w.heap.size + 1 by have := HW1.out; omega)))
  generalize hWB : (w1.setCell ⟨w.heap.size + 1, 0, none⟩ (.pointer none)).drew = wB at *
  clear hWB c00 c01 c02 c03 c04 c05 c06 c07 d00 d01 d02 d03 d04 d05 d06 d07
  have HR := hide (rLoad wB n s HN.out HS.out iv l (HV.out.below M3.out.be))
  go_wp2_with fail
  refine HR.out.mono ?_
  rintro e w3 ⟨h1, -, -⟩
  obtain ⟨rfl, rfl⟩ := h1 HG.out
  clear h1 HR e00 e01 e02 e03 e04 e05 e06 e07
  have M4 := hide (M3.out.setR (.pointer none))
  have HP4 : Hid (PieceAt (w3.setCell ⟨w.heap.size + 1, 1, none⟩ (.pointer none)) wA.heap.size (l ++ marks)) := hide (HP3.out.kept (Go.heap_setCell_other _ _ _ _ (show wA.heap.size ≠ w.heap.size + 1 by have := HW1.out; omega)))
  obtain ⟨e00, e01, e02, e03, e04, e05, e06, e07⟩ := M3.out.cells
  obtain ⟨f00, f01, f02, f03, f04, f05, f06, f07⟩ := M4.out.cells
  have HUN := hide (untouched_any (HV.out.below M4.out.be) HP4.out (by have := HL.out; omega))
  unfold sl at HUN
  go_wp2_with (go_at_call 17; refine HUN.out.mono ?_; rintro e w5 ⟨rfl, k5, hw5⟩; have HW5 := hide hw5; clear hw5)
  have hb5 : Below (w3.setCell ⟨w.heap.size + 1, 1, none⟩ (.pointer none)).heap.size (w3.setCell ⟨w.heap.size + 1, 1, none⟩ (.pointer none)) w5 := by rw [HW5.out]; exact below_drewN (Below.refl _ _) k5
  have M5 := hide (M4.out.kept hb5)
  have HP5 := hide (HP4.out.kept (hb5.block _ HP4.out.lt))
  clear hb5 e00 e01 e02 e03 e04 e05 e06 e07 f00 f01 f02 f03 f04 f05 f06 f07 HUN HA HK
  have hsz : (l ++ marks).length = l.length + 6 := by simp [marks]
  have ST : Hid (FInv2 w5 w5 0 wA.heap.size (l.length + 6)) := hide ⟨rfl, rfl, rfl, rfl, fun _ _ => rfl, _, hsz, HP5.out⟩
  clear hsz
  have HLL : Hid (l.length + 6 ≤ 140737488355006) := hide (by have := HL.out; omega)
  generalize l.length + 6 = ln at *
  go_loopw [8] (fun x wr => ∃ i : Nat, i ≤ ln ∧ x = .int .i64 (i : Int) ∧ FInv2 w5 wr 0 wA.heap.size ln) (fun x _ => ln - (intOf x).toNat)
  case atStart => exact ⟨0, Nat.zero_le _, rfl, ST.out⟩
  case round =>
    clear ST
    obtain ⟨i, hin, rfl, hF⟩ := hrel
    have HF := hide hF
    clear hF
    have hll := HLL.out
    by_cases hlt : i < ln
    · obtain ⟨x, hx, hcx, hfx, hN⟩ := HF.out.xor hlt
      have HNX := hide hN
      clear hN
      have hxo := u8_xor_nat x 255 hx (by decide)
      rw [show ((255 : Nat) : Int) = 255 from rfl] at hxo
      go_wp2
      go_roundw
      case rel => exact ⟨i + 1, by omega, by go_num, HNX.out⟩
      case measure => simp [intOf]; omega
    · have hkp : ∀ b, b ≠ wA.heap.size → wr.heap[b]? = w5.heap[b]? := HF.out.keep
      have M6 : Hid (MkAt w wr true n s iv (.pointer none) (.pointer none)) := hide ⟨(hkp _ (by have := HW1.out; omega)).trans M5.out.box, (hkp _ (by have := HW1.out; omega)).trans M5.out.row, ⟨HF.out.os.trans M5.out.be.os, HF.out.tape.trans M5.out.be.tape, HF.out.output.trans M5.out.be.output, by rw [HF.out.size]; exact M5.out.be.size, fun b hb => (hkp b (by have := HW1.out; omega)).trans (M5.out.be.block b hb)⟩⟩
      obtain ⟨-, -, -, -, c24, c25, -, -⟩ := M6.out.cells
      clear hkp
      go_wp2_with fail
      go_region_held3 (fun w' => w'.cell? ⟨w.heap.size + 1, 0, none⟩ = some (.pointer none) ∧ w'.cell? ⟨w.heap.size + 1, 1, none⟩ = some (.pointer none)) (first | exact ⟨c24, c25⟩ | assumption) (fail)
      go_wp2
      go_ret2
      have M7 := M6.out.kept (Below.drew (Below.refl _ _))
      exact ⟨w.heap.size + 1, rfl, M7.be, by omega, .inl M7.cells.2.2.2.2.1⟩
set_option maxHeartbeats 2000000 in
theorem made_load_size (w : World) (n s : Int) (iv : Value) (l : List Nat) (hn : i64ok n) (hs : i64ok s) (hv : BSl w iv l) (hl : l.length ≤ 140737488355000) (hg : goodGeo n s = true) (hm : ¬ l.length = n.toNat * s.toNat) :
    Calls Tryz.prog 8 #[.agg #[.bool true, .int .i64 n, .int .i64 s, iv]] w fun e w' => MadePost w e w' := by
  have M0 := hide (MkAt.start w true n s iv)
  have HV := hide hv
  have HL := hide hl
  have HG := hide hg
  have HM := hide hm
  clear hm
  have HN := hide hn
  have HS := hide hs
  clear hv hl hg hn hs
  go_enter Tryz.func8, Tryz.ntmps8
  go_wp2_with fail
  have HV1 := hide (HV.out.below M0.out.be)
  refine (hand_any _ iv l HV1.out (by have := HL.out; omega)).mono ?_
  rintro e w1 ⟨rfl, hp1, hb1⟩
  have M1 := hide (M0.out.kept hb1)
  have HV2 := hide (HV1.out.below hb1)
  generalize hW : ((w.alloc (.cells #[.bool true, .int .i64 n, .int .i64 s, iv] 24)).alloc _) = wA at *
  clear hW
  have HP1 := hide hp1
  have HB1 := hide hb1
  have HW1 : Hid (w.heap.size + 1 < wA.heap.size) := hide (Array.getElem?_eq_some_iff.1 M0.out.row).1
  clear hp1 hb1
  have bd : Below w1.heap.size w1 w1.drew := Below.drew (Below.refl _ _)
  have M2 := hide (M1.out.kept bd)
  have HP2 := hide (HP1.out.kept (w' := w1.drew) rfl)
  have HV3 := hide (HV2.out.below bd)
  have HA := hide (arg_any HV3.out HP2.out (by have := HL.out; omega))
  have HK := hide (fun u hu => kLoad w1.drew n s u l hu)
  clear bd
  have M3 := hide ((M1.out.setD (.pointer none)).kept (Below.drew (Below.refl _ _)))
  obtain ⟨e00, e01, e02, e03, e04, e05, e06, e07⟩ := M3.out.cells
  obtain ⟨c00, c01, c02, c03, c04, c05, c06, c07⟩ := M1.out.cells
  obtain ⟨d00, d01, d02, d03, d04, d05, d06, d07⟩ := M2.out.cells
  unfold sl at *
  go_wp2_with fail
  go_region_held3 (fun w' => w'.cell? ⟨w.heap.size, 1, none⟩ = some (.int .i64 n) ∧ w'.cell? ⟨w.heap.size, 2, none⟩ = some (.int .i64 s) ∧ w'.cell? ⟨w.heap.size, 3, none⟩ = some iv) (first | exact ⟨c01, c02, c03⟩ | exact ⟨d01, d02, d03⟩ | exact ⟨e01, e02, e03⟩ | exact ⟨g01, g02, g03⟩ | assumption)
    (first
      | (go_at_call 15; refine HA.out.mono ?_; rintro e w2 ⟨u, rfl, rfl, hu, hg⟩; have HU := hide hu; clear hu hg)
      | (go_at_call 14; refine (HK.out _ HU.out).mono ?_; rintro e w2 ⟨-, h1, -⟩; obtain ⟨rfl, rfl⟩ := h1 HG.out HM.out; clear h1))
  have HP3 : Hid (PieceAt ((w1.setCell ⟨w.heap.size + 1, 0, none⟩ (.pointer none)).drew) wA.heap.size (l ++ marks)) := hide (HP1.out.kept (Go.heap_setCell_other _ _ _ _ (show wA.heap.size ≠ w.heap.size + 1 by have := HW1.out; omega)))
  generalize hWB : (w1.setCell ⟨w.heap.size + 1, 0, none⟩ (.pointer none)).drew = wB at *
  clear hWB c00 c01 c02 c03 c04 c05 c06 c07 d00 d01 d02 d03 d04 d05 d06 d07
  have HR := hide (rLoad wB n s HN.out HS.out iv l (HV.out.below M3.out.be))
  go_wp2_with fail
  refine HR.out.mono ?_
  rintro e w3 ⟨-, h1, -⟩
  obtain ⟨rfl, rfl⟩ := h1 HG.out HM.out
  clear h1 HR e00 e01 e02 e03 e04 e05 e06 e07
  have M4 := hide (M3.out.setR (.pointer none))
  have HP4 : Hid (PieceAt (w3.setCell ⟨w.heap.size + 1, 1, none⟩ (.pointer none)) wA.heap.size (l ++ marks)) := hide (HP3.out.kept (Go.heap_setCell_other _ _ _ _ (show wA.heap.size ≠ w.heap.size + 1 by have := HW1.out; omega)))
  obtain ⟨e00, e01, e02, e03, e04, e05, e06, e07⟩ := M3.out.cells
  obtain ⟨f00, f01, f02, f03, f04, f05, f06, f07⟩ := M4.out.cells
  have HUN := hide (untouched_any (HV.out.below M4.out.be) HP4.out (by have := HL.out; omega))
  unfold sl at HUN
  go_wp2_with (go_at_call 17; refine HUN.out.mono ?_; rintro e w5 ⟨rfl, k5, hw5⟩; have HW5 := hide hw5; clear hw5)
  have hb5 : Below (w3.setCell ⟨w.heap.size + 1, 1, none⟩ (.pointer none)).heap.size (w3.setCell ⟨w.heap.size + 1, 1, none⟩ (.pointer none)) w5 := by rw [HW5.out]; exact below_drewN (Below.refl _ _) k5
  have M5 := hide (M4.out.kept hb5)
  have HP5 := hide (HP4.out.kept (hb5.block _ HP4.out.lt))
  clear hb5 e00 e01 e02 e03 e04 e05 e06 e07 f00 f01 f02 f03 f04 f05 f06 f07 HUN HA HK
  have hsz : (l ++ marks).length = l.length + 6 := by simp [marks]
  have ST : Hid (FInv2 w5 w5 0 wA.heap.size (l.length + 6)) := hide ⟨rfl, rfl, rfl, rfl, fun _ _ => rfl, _, hsz, HP5.out⟩
  clear hsz
  have HLL : Hid (l.length + 6 ≤ 140737488355006) := hide (by have := HL.out; omega)
  generalize l.length + 6 = ln at *
  go_loopw [8] (fun x wr => ∃ i : Nat, i ≤ ln ∧ x = .int .i64 (i : Int) ∧ FInv2 w5 wr 0 wA.heap.size ln) (fun x _ => ln - (intOf x).toNat)
  case atStart => exact ⟨0, Nat.zero_le _, rfl, ST.out⟩
  case round =>
    clear ST
    obtain ⟨i, hin, rfl, hF⟩ := hrel
    have HF := hide hF
    clear hF
    have hll := HLL.out
    by_cases hlt : i < ln
    · obtain ⟨x, hx, hcx, hfx, hN⟩ := HF.out.xor hlt
      have HNX := hide hN
      clear hN
      have hxo := u8_xor_nat x 255 hx (by decide)
      rw [show ((255 : Nat) : Int) = 255 from rfl] at hxo
      go_wp2
      go_roundw
      case rel => exact ⟨i + 1, by omega, by go_num, HNX.out⟩
      case measure => simp [intOf]; omega
    · have hkp : ∀ b, b ≠ wA.heap.size → wr.heap[b]? = w5.heap[b]? := HF.out.keep
      have M6 : Hid (MkAt w wr true n s iv (.pointer none) (.pointer none)) := hide ⟨(hkp _ (by have := HW1.out; omega)).trans M5.out.box, (hkp _ (by have := HW1.out; omega)).trans M5.out.row, ⟨HF.out.os.trans M5.out.be.os, HF.out.tape.trans M5.out.be.tape, HF.out.output.trans M5.out.be.output, by rw [HF.out.size]; exact M5.out.be.size, fun b hb => (hkp b (by have := HW1.out; omega)).trans (M5.out.be.block b hb)⟩⟩
      obtain ⟨-, -, -, -, c24, c25, -, -⟩ := M6.out.cells
      clear hkp
      go_wp2_with fail
      go_region_held3 (fun w' => w'.cell? ⟨w.heap.size + 1, 0, none⟩ = some (.pointer none) ∧ w'.cell? ⟨w.heap.size + 1, 1, none⟩ = some (.pointer none)) (first | exact ⟨c24, c25⟩ | assumption) (fail)
      go_wp2
      go_ret2
      have M7 := M6.out.kept (Below.drew (Below.refl _ _))
      exact ⟨w.heap.size + 1, rfl, M7.be, by omega, .inl M7.cells.2.2.2.2.1⟩
set_option maxHeartbeats 2000000 in
theorem made_load_good (w : World) (n s : Int) (iv : Value) (l : List Nat) (hn : i64ok n) (hs : i64ok s) (hv : BSl w iv l) (hl : l.length ≤ 140737488355000) (hg : goodGeo n s = true) (hm : l.length = n.toNat * s.toNat) :
    Calls Tryz.prog 8 #[.agg #[.bool true, .int .i64 n, .int .i64 s, iv]] w fun e w' => MadePost w e w' := by
  have M0 := hide (MkAt.start w true n s iv)
  have HV := hide hv
  have HL := hide hl
  have HG := hide hg
  have HM := hide hm
  clear hm
  have HN := hide hn
  have HS := hide hs
  clear hv hl hg hn hs
  go_enter Tryz.func8, Tryz.ntmps8
  go_wp2_with fail
  have HV1 := hide (HV.out.below M0.out.be)
  refine (hand_any _ iv l HV1.out (by have := HL.out; omega)).mono ?_
  rintro e w1 ⟨rfl, hp1, hb1⟩
  have M1 := hide (M0.out.kept hb1)
  have HV2 := hide (HV1.out.below hb1)
  generalize hW : ((w.alloc (.cells #[.bool true, .int .i64 n, .int .i64 s, iv] 24)).alloc _) = wA at *
  clear hW
  have HP1 := hide hp1
  have HB1 := hide hb1
  have HW1 : Hid (w.heap.size + 1 < wA.heap.size) := hide (Array.getElem?_eq_some_iff.1 M0.out.row).1
  clear hp1 hb1
  have bd : Below w1.heap.size w1 w1.drew := Below.drew (Below.refl _ _)
  have M2 := hide (M1.out.kept bd)
  have HP2 := hide (HP1.out.kept (w' := w1.drew) rfl)
  have HV3 := hide (HV2.out.below bd)
  have HA := hide (arg_any HV3.out HP2.out (by have := HL.out; omega))
  have HK := hide (fun u hu => kLoad w1.drew n s u l hu)
  clear bd
  obtain ⟨c00, c01, c02, c03, c04, c05, c06, c07⟩ := M1.out.cells
  obtain ⟨d00, d01, d02, d03, d04, d05, d06, d07⟩ := M2.out.cells
  unfold sl at *
  go_wp2_with fail
  go_region_held3 (fun w' => w'.cell? ⟨w.heap.size, 1, none⟩ = some (.int .i64 n) ∧ w'.cell? ⟨w.heap.size, 2, none⟩ = some (.int .i64 s) ∧ w'.cell? ⟨w.heap.size, 3, none⟩ = some iv) (first | exact ⟨c01, c02, c03⟩ | exact ⟨d01, d02, d03⟩ | exact ⟨e01, e02, e03⟩ | exact ⟨g01, g02, g03⟩ | assumption)
    (first
      | (go_at_call 15; refine HA.out.mono ?_; rintro e w2 ⟨u, rfl, rfl, hu, hg⟩; have HU := hide hu; clear hu hg)
      | (go_at_call 14; refine (HK.out _ HU.out).mono ?_; rintro e w2 ⟨-, -, h1⟩; obtain ⟨L, he, hD1, hB2, hU1⟩ := h1 HG.out HM.out; clear h1; unfold PD at he; subst he; have M2' := hide (M2.out.kept hB2); have M3 := hide (M2'.out.setD (.pointer (some ⟨L.p, 0, none⟩))); have HD1 := hide hD1; have HB2 := hide hB2; have HU1 := hide hU1; clear hD1 hB2 hU1; obtain ⟨g00, g01, g02, g03, g04, g05, g06, g07⟩ := M2'.out.cells; obtain ⟨e00, e01, e02, e03, e04, e05, e06, e07⟩ := M3.out.cells))
  have HP2' := hide (HP2.out.kept (HB2.out.block _ HP2.out.lt))
  have HP3 : Hid (PieceAt (w2.setCell ⟨w.heap.size + 1, 0, none⟩ (.pointer (some ⟨L.p, 0, none⟩))) wA.heap.size (l ++ marks)) := hide (HP2'.out.kept (Go.heap_setCell_other _ _ _ _ (show wA.heap.size ≠ w.heap.size + 1 by have := HW1.out; omega)))
  have nD : Hid (¬ L.U (w.heap.size + 1) ∧ ¬ L.U wA.heap.size) := hide ⟨fun hu => by have := HU1.out _ hu; have := HP2.out.lt; have := HW1.out; omega, fun hu => by have := HU1.out _ hu; have := HP2.out.lt; omega⟩
  have HDB : Hid (Rep (w2.setCell ⟨w.heap.size + 1, 0, none⟩ (.pointer (some ⟨L.p, 0, none⟩))) L (St.fresh n.toNat s.toNat (cutOf l s.toNat))) := hide (HD1.out.kept (fun x hx => Go.heap_setCell_other _ _ _ _ fun e : x = w.heap.size + 1 => nD.out.1 (e ▸ hx)) (by simp [World.setCell]))
  generalize hWB : w2.setCell ⟨w.heap.size + 1, 0, none⟩ (.pointer (some ⟨L.p, 0, none⟩)) = wB at *
  clear hWB c00 c01 c02 c03 c04 c05 c06 c07 d00 d01 d02 d03 d04 d05 d06 d07
  clear g00 g01 g02 g03 g04 g05 g06 g07
  have HR := hide (rLoad wB n s HN.out HS.out iv l (HV.out.below M3.out.be))
  go_wp2_with fail
  refine HR.out.mono ?_
  rintro e w3 ⟨-, -, h1⟩
  obtain ⟨RL, he, hD3, hB3, hU3⟩ := h1 HG.out HM.out
  unfold PR at he
  subst he
  have HB3 := hide hB3
  have HD3 := hide hD3
  have HU3 := hide hU3
  clear hB3 hD3 hU3
  have lB : w.heap.size + 1 < wB.heap.size := (Array.getElem?_eq_some_iff.1 M3.out.row).1
  have nR : Hid (¬ RL.U (w.heap.size + 1) ∧ ¬ RL.U wA.heap.size) := hide ⟨fun hu => by have := HU3.out _ hu; omega, fun hu => by have := HU3.out _ hu; have := HP3.out.lt; omega⟩
  have AP : Hid (∀ x, L.U x → ¬ RL.U x) := hide fun x h1 h2 => by have := HDB.out.uLt x h1; have := HU3.out x h2; omega
  have UD : Hid (∀ x, L.U x → w.heap.size ≤ x) := hide fun x h1 => by have := HU1.out x h1; have := HP2.out.lt; have := HW1.out; omega
  have UR : Hid (∀ x, RL.U x → w.heap.size ≤ x) := hide fun x h1 => by have := HU3.out x h1; omega
  clear lB
  clear h1 HR e00 e01 e02 e03 e04 e05 e06 e07
  have M3b := hide (M3.out.kept HB3.out)
  have HP3b := hide (HP3.out.kept (HB3.out.block _ HP3.out.lt))
  have HDC : Hid (Rep (w3.setCell ⟨w.heap.size + 1, 1, none⟩ (.pointer (some ⟨RL.p, 0, none⟩))) L (St.fresh n.toNat s.toNat (cutOf l s.toNat))) := hide ((HDB.out.below HB3.out).kept (fun x hx => Go.heap_setCell_other _ _ _ _ fun e : x = w.heap.size + 1 => nD.out.1 (e ▸ hx)) (by simp [World.setCell]))
  have HRC : Hid (RD (w3.setCell ⟨w.heap.size + 1, 1, none⟩ (.pointer (some ⟨RL.p, 0, none⟩))) RL (St.fresh n.toNat s.toNat (cutOf l s.toNat)) (-1)) := hide (HD3.out.kept (fun x hx => Go.heap_setCell_other _ _ _ _ fun e : x = w.heap.size + 1 => nR.out.1 (e ▸ hx)) (by simp [World.setCell]))
  have M4 := hide (M3b.out.setR (.pointer (some ⟨RL.p, 0, none⟩)))
  have HP4 : Hid (PieceAt (w3.setCell ⟨w.heap.size + 1, 1, none⟩ (.pointer (some ⟨RL.p, 0, none⟩))) wA.heap.size (l ++ marks)) := hide (HP3b.out.kept (Go.heap_setCell_other _ _ _ _ (show wA.heap.size ≠ w.heap.size + 1 by have := HW1.out; omega)))
  obtain ⟨e00, e01, e02, e03, e04, e05, e06, e07⟩ := M3b.out.cells
  obtain ⟨f00, f01, f02, f03, f04, f05, f06, f07⟩ := M4.out.cells
  have HUN := hide (untouched_any (HV.out.below M4.out.be) HP4.out (by have := HL.out; omega))
  unfold sl at HUN
  go_wp2_with (go_at_call 17; refine HUN.out.mono ?_; rintro e w5 ⟨rfl, k5, hw5⟩; have HW5 := hide hw5; clear hw5)
  have hb5 : Below (w3.setCell ⟨w.heap.size + 1, 1, none⟩ (.pointer (some ⟨RL.p, 0, none⟩))).heap.size (w3.setCell ⟨w.heap.size + 1, 1, none⟩ (.pointer (some ⟨RL.p, 0, none⟩))) w5 := by rw [HW5.out]; exact below_drewN (Below.refl _ _) k5
  have M5 := hide (M4.out.kept hb5)
  have HP5 := hide (HP4.out.kept (hb5.block _ HP4.out.lt))
  have HD5 := hide (HDC.out.below hb5)
  have HR5 := hide (HRC.out.below hb5)
  clear hb5 e00 e01 e02 e03 e04 e05 e06 e07 f00 f01 f02 f03 f04 f05 f06 f07 HUN HA HK
  have hsz : (l ++ marks).length = l.length + 6 := by simp [marks]
  have ST : Hid (FInv2 w5 w5 0 wA.heap.size (l.length + 6)) := hide ⟨rfl, rfl, rfl, rfl, fun _ _ => rfl, _, hsz, HP5.out⟩
  clear hsz
  have HLL : Hid (l.length + 6 ≤ 140737488355006) := hide (by have := HL.out; omega)
  generalize l.length + 6 = ln at *
  go_loopw [8] (fun x wr => ∃ i : Nat, i ≤ ln ∧ x = .int .i64 (i : Int) ∧ FInv2 w5 wr 0 wA.heap.size ln) (fun x _ => ln - (intOf x).toNat)
  case atStart => exact ⟨0, Nat.zero_le _, rfl, ST.out⟩
  case round =>
    clear ST
    obtain ⟨i, hin, rfl, hF⟩ := hrel
    have HF := hide hF
    clear hF
    have hll := HLL.out
    by_cases hlt : i < ln
    · obtain ⟨x, hx, hcx, hfx, hN⟩ := HF.out.xor hlt
      have HNX := hide hN
      clear hN
      have hxo := u8_xor_nat x 255 hx (by decide)
      rw [show ((255 : Nat) : Int) = 255 from rfl] at hxo
      go_wp2
      go_roundw
      case rel => exact ⟨i + 1, by omega, by go_num, HNX.out⟩
      case measure => simp [intOf]; omega
    · have hkp : ∀ b, b ≠ wA.heap.size → wr.heap[b]? = w5.heap[b]? := HF.out.keep
      have M6 : Hid (MkAt w wr true n s iv (.pointer (some ⟨L.p, 0, none⟩)) (.pointer (some ⟨RL.p, 0, none⟩))) := hide ⟨(hkp _ (by have := HW1.out; omega)).trans M5.out.box, (hkp _ (by have := HW1.out; omega)).trans M5.out.row, ⟨HF.out.os.trans M5.out.be.os, HF.out.tape.trans M5.out.be.tape, HF.out.output.trans M5.out.be.output, by rw [HF.out.size]; exact M5.out.be.size, fun b hb => (hkp b (by have := HW1.out; omega)).trans (M5.out.be.block b hb)⟩⟩
      have HD6 := hide (HD5.out.kept (w' := wr.drew) (fun x hx => hkp x fun e => nD.out.2 (e ▸ hx)) (Nat.le_of_eq HF.out.size.symm))
      have HR6 := hide (HR5.out.kept (w' := wr.drew) (fun x hx => hkp x fun e => nR.out.2 (e ▸ hx)) (Nat.le_of_eq HF.out.size.symm))
      obtain ⟨-, -, -, -, c24, c25, -, -⟩ := M6.out.cells
      clear hkp
      go_wp2_with fail
      go_region_held3 (fun w' => w'.cell? ⟨w.heap.size + 1, 0, none⟩ = some (.pointer (some ⟨L.p, 0, none⟩)) ∧ w'.cell? ⟨w.heap.size + 1, 1, none⟩ = some (.pointer (some ⟨RL.p, 0, none⟩))) (first | exact ⟨c24, c25⟩ | assumption) (fail)
      go_wp2
      go_ret2
      have M7 := M6.out.kept (Below.drew (Below.refl _ _))
      exact ⟨w.heap.size + 1, rfl, M7.be, by omega, .inr ⟨_, PAll.new (L := L) (RL := RL) HD6.out HR6.out M7.row M7.be UD.out UR.out (by omega) AP.out nD.out.1 nR.out.1, fun k => rfl⟩⟩
end Go.Proofs.YtlpmpicmpklaoacGreat
namespace Go.Proofs.YtlpmpicmpklaoacGreat
open Go.RowKit Go.Maps Go.Sort
set_option linter.unusedVariables false
set_option linter.unusedSimpArgs false
set_option maxRecDepth 20000

theorem pmade_any (w : World) (ld : Bool) (n s : Int) (iv : Value) (l : List Nat) (hn : i64ok n) (hs : i64ok s) (hv : BSl w iv l) (hl : l.length ≤ 140737488355000) :
    Calls Tryz.prog 8 #[.agg #[.bool ld, .int .i64 n, .int .i64 s, iv]] w fun e w' => MadePost w e w' := by
  cases ld <;> cases hg : goodGeo n s
  · exact made_new_bad w n s iv hn hs hg
  · exact made_new_good w n s iv hn hs hg
  · exact made_load_bad w n s iv l hn hs hv hl hg
  · by_cases hm : l.length = n.toNat * s.toNat
    · exact made_load_good w n s iv l hn hs hv hl hg hm
    · exact made_load_size w n s iv l hn hs hv hl hg hm
theorem nilDat (w : World) : Dat w (.slice none 0 0) [] := ⟨nilBSl w, by simp⟩
theorem zeroOk : i64ok 0 := ⟨by decide, by decide⟩
theorem PAll.be {w0 w : World} {pp nx k : Nat} {S : St} (h : PAll w0 w pp S nx k) : Below w0.heap.size w0 w := by
  obtain ⟨L, RL, wh, bv, h⟩ := h
  exact h.be
theorem PAll.cell0 {w0 w : World} {pp nx k : Nat} {S : St} (h : PAll w0 w pp S nx k) : ∃ a, w.cell? ⟨pp, 0, none⟩ = some (.pointer (some a)) := by
  obtain ⟨L, RL, wh, bv, h⟩ := h
  exact ⟨_, h.cells.1⟩
end Go.Proofs.YtlpmpicmpklaoacGreat
namespace Go.Proofs.YtlpmpicmpklaoacGreat
open Go.RowKit Go.Maps Go.Sort
set_option linter.unusedVariables false
set_option linter.unusedSimpArgs false
set_option maxRecDepth 20000

set_option maxHeartbeats 2000000 in
theorem play_any (w : World) (ld : Bool) (n s : Int) (iv : Value) (l : List Nat) (hn : i64ok n) (hs : i64ok s) (hv : BSl w iv l) (hl : l.length ≤ 140737488355000) (v : Value) (os : List OpV) (ho : OSl w v os) (hlen : os.length ≤ 1048576) (hdat : ∀ o ∈ os, o.dl.length ≤ 1048576) (lo hi : Int) :
    Calls Tryz.prog 6 #[.agg #[.bool ld, .int .i64 n, .int .i64 s, iv], v, .int .i64 lo, .int .i64 hi] w fun e w' => e = .returned (.bool true) ∧ Below w.heap.size w w' := by
  have b0 : Below w.heap.size w (w.alloc (.cells #[.bool ld, .int .i64 n, .int .i64 s, iv] 24)) := (Below.refl _ _).alloc (Nat.le_refl _) _
  have HM := hide (pmade_any (w.alloc (.cells #[.bool ld, .int .i64 n, .int .i64 s, iv] 24)) ld n s iv l hn hs (hv.below b0) hl)
  have HB0 := hide b0
  obtain ⟨a, cap, rfl, hcl, hcm, hall, hcell⟩ := ho
  unfold maxLen at hcm
  have HALL := hide hall
  have HCELL := hide hcell
  have HDT := hide hdat
  have HLN := hide hlen
  clear hn hs hl hv b0 hall hcell hdat
  go_enter Tryz.func6, Tryz.ntmps6
  go_wp2_with fail
  refine HM.out.mono ?_
  rintro e w1 ⟨pp, rfl, hb1, hpp, hD⟩
  generalize hW : w.alloc (.cells #[.bool ld, .int .i64 n, .int .i64 s, iv] 24) = wA at *
  clear hW HM
  have HBE : Hid (∀ w', Below wA.heap.size wA w' → Below w.heap.size w w') := hide fun w' h => HB0.out.trans (h.mono HB0.out.size)
  rcases hD with hD | ⟨S, hP, hE⟩
  · have HB1 := hide (HBE.out _ hb1)
    clear hb1
    go_wp2
    go_ret
    exact ⟨rfl, HB1.out⟩
  have HE := hide hE
  have HP0 := hide hP
  obtain ⟨a0, ha0⟩ := hP.cell0
  clear hP hE hb1
  go_wp2_with fail
  go_loopw [11] (fun x wr => ∃ (i nx k : Nat), i ≤ os.length ∧ x = .int .i64 (i : Int) ∧ PAll wA wr pp (S.calls (os.take i)) nx k ∧ nx ≤ i ∧ k ≤ 2 * i) (fun x _ => os.length - (intOf x).toNat)
  case atStart => exact ⟨0, 0, 0, Nat.zero_le _, rfl, HP0.out, Nat.le_refl _, Nat.le_refl _⟩
  case round =>
    clear HP0
    obtain ⟨i, nx, k, hi', rfl, hP, hnx, hk⟩ := hrel
    have HP := hide hP
    clear hP ha0
    by_cases hlt : i < os.length
    · obtain ⟨b, off, rfl, hc⟩ := HCELL.out (by omega)
      obtain ⟨x0, x1, x2, x3⟩ := hc i hlt
      have be := HBE.out _ HP.out.be
      have k0 : wr.cell? ⟨b, off + i * 4, none⟩ = some (.int .i64 os[i].kind) := by rw [be.cell (World.block_lt_of_cell? w _ x0)]; exact x0
      have k1 : wr.cell? ⟨b, off + i * 4 + 1, none⟩ = some (.int .i64 os[i].block) := by rw [be.cell (World.block_lt_of_cell? w _ x1)]; exact x1
      have k2 : wr.cell? ⟨b, off + i * 4 + 2, none⟩ = some (.int .i64 os[i].count) := by rw [be.cell (World.block_lt_of_cell? w _ x2)]; exact x2
      have k3 : wr.cell? ⟨b, off + i * 4 + 3, none⟩ = some os[i].dv := by rw [be.cell (World.block_lt_of_cell? w _ x3)]; exact x3
      obtain ⟨hbs, hkd, hbl, hct⟩ := HALL.out os[i] (List.getElem_mem hlt)
      have hcb : ∀ k, ((S.calls (os.take i)).cache k).length + 2 ≤ 268435456 := fun k => by
        have := cache_calls S k (os.take i)
        have e : (S.cache k).length = 0 := by rw [HE.out k]; rfl
        simp only [List.length_take] at this
        omega
      have HC := hide (pstep_any HP.out os[i] hbl hct ⟨hbs.below HB0.out, HDT.out _ (List.getElem_mem hlt)⟩ hcb (by omega) (by omega))
      have HSN := hide (calls_snoc S os hlt)
      clear hc x0 x1 x2 x3 hbs hkd hbl hct hcb be
      unfold OpV.val at HC
      generalize os[i].dv = dv at *
      generalize os[i].kind = kd at *
      generalize os[i].block = bl at *
      generalize os[i].count = ct at *
      go_wp2_with (go_at_call 9; refine HC.out.mono ?_; rintro e w2 ⟨rfl, nx2, k2', hP2, hnx2, hk2⟩; have HP2 := hide hP2; clear hP2)
      go_roundw
      case rel => exact ⟨i + 1, nx2, k2', by omega, by go_num, by rw [HSN.out]; exact HP2.out, by omega, by omega⟩
      case measure => simp [intOf]; omega
    · have HBF := hide (HBE.out _ HP.out.be)
      go_wp2
      go_ret
      exact ⟨rfl, HBF.out⟩
end Go.Proofs.YtlpmpicmpklaoacGreat
namespace Go.Proofs.YtlpmpicmpklaoacGreat
open Go.RowKit Go.Maps Go.Sort
set_option linter.unusedVariables false
set_option linter.unusedSimpArgs false
set_option maxRecDepth 20000

theorem OSl.belowE {w w' : World} {v : Value} {os : List OpV} (h : OSl w v os) (hb : Below w.heap.size w w') : OSl w' v os := by
  obtain ⟨a, cap, rfl, hl, hm, hall, hcell⟩ := h
  refine ⟨a, cap, rfl, hl, hm, fun p hp => ⟨(hall p hp).1.below hb, (hall p hp).2⟩, fun h0 => ?_⟩
  obtain ⟨b, off, rfl, hc⟩ := hcell h0
  refine ⟨b, off, rfl, fun i hi => ?_⟩
  obtain ⟨x0, x1, x2, x3⟩ := hc i hi
  exact ⟨by rw [hb.cell (World.block_lt_of_cell? w _ x0)]; exact x0, by rw [hb.cell (World.block_lt_of_cell? w _ x1)]; exact x1, by rw [hb.cell (World.block_lt_of_cell? w _ x2)]; exact x2, by rw [hb.cell (World.block_lt_of_cell? w _ x3)]; exact x3⟩

theorem play_DiskDurables (w : World) (ld : Bool) (n s : Int) (iv : Value) (l : List Nat) (hn : i64ok n) (hs : i64ok s) (hv : BSl w iv l) (hl : l.length ≤ 140737488355000) (v : Value) (os : List OpV) (ho : OSl w v os) (hlen : os.length ≤ 1048576) (hdat : ∀ o ∈ os, o.dl.length ≤ 1048576) :
    Calls Tryz.prog 3 #[.agg #[.bool ld, .int .i64 n, .int .i64 s, iv], v] w fun e w' => e = .returned (.bool true) ∧ Below w.heap.size w w' := by
  have HC := hide (fun w (hv : BSl w iv l) (ho : OSl w v os) => play_any w ld n s iv l hn hs hv hl v os ho hlen hdat 8 10)
  have H1 := hide hv
  have H2 := hide ho
  clear hn hs hv hl ho hlen hdat
  go_enter Tryz.func3, Tryz.ntmps3
  go_wp2_with fail
  have b0 : Below w.heap.size w (w.alloc (.cells #[.bool ld, .int .i64 n, .int .i64 s, iv] 24)) := (Below.refl _ _).alloc (Nat.le_refl _) _
  refine (HC.out _ (H1.out.below b0) (H2.out.belowE b0)).mono ?_
  rintro e w1 ⟨rfl, hb⟩
  have HB := hide (b0.trans (hb.mono b0.size))
  clear hb b0
  go_wp2
  go_ret
  exact ⟨rfl, HB.out⟩

theorem play_DiskPowers (w : World) (ld : Bool) (n s : Int) (iv : Value) (l : List Nat) (hn : i64ok n) (hs : i64ok s) (hv : BSl w iv l) (hl : l.length ≤ 140737488355000) (v : Value) (os : List OpV) (ho : OSl w v os) (hlen : os.length ≤ 1048576) (hdat : ∀ o ∈ os, o.dl.length ≤ 1048576) :
    Calls Tryz.prog 4 #[.agg #[.bool ld, .int .i64 n, .int .i64 s, iv], v] w fun e w' => e = .returned (.bool true) ∧ Below w.heap.size w w' := by
  have HC := hide (fun w (hv : BSl w iv l) (ho : OSl w v os) => play_any w ld n s iv l hn hs hv hl v os ho hlen hdat 12 15)
  have H1 := hide hv
  have H2 := hide ho
  clear hn hs hv hl ho hlen hdat
  go_enter Tryz.func4, Tryz.ntmps4
  go_wp2_with fail
  have b0 : Below w.heap.size w (w.alloc (.cells #[.bool ld, .int .i64 n, .int .i64 s, iv] 24)) := (Below.refl _ _).alloc (Nat.le_refl _) _
  refine (HC.out _ (H1.out.below b0) (H2.out.belowE b0)).mono ?_
  rintro e w1 ⟨rfl, hb⟩
  have HB := hide (b0.trans (hb.mono b0.size))
  clear hb b0
  go_wp2
  go_ret
  exact ⟨rfl, HB.out⟩
end Go.Proofs.YtlpmpicmpklaoacGreat
