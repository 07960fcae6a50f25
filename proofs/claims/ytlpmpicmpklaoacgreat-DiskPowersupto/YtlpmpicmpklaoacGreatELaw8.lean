import Derived.Test.YtlpmpicmpklaoacGreatELaw7
namespace Go.Proofs.YtlpmpicmpklaoacGreat
open Go.RowKit Go.Maps Go.Sort
set_option linter.unusedVariables false
set_option linter.unusedSimpArgs false
set_option maxRecDepth 20000

theorem assertErrno2 (v : Value) (xT : TypeId) (w : World) : (Instr.typeAssert (.iface 45 v) xT 45 true).run Tryz.prog w = .ok (.tuple #[v, .bool true]) w := by kernel_rfl
theorem assertNoPbe2 (v : Value) (xT : TypeId) (w : World) : (Instr.typeAssert (.iface 45 v) xT 58 true).run Tryz.prog w = .ok (.tuple #[.pointer none, .bool false]) w := by kernel_rfl
theorem trouble_22 (w : World) : Calls Tryz.prog 25 #[.iface 45 (.int .i64 22)] w fun e w' => e = .returned (.tuple #[.int .i64 22, .int .i64 (-1)]) ∧ ∃ k, w' = w.drewN k := by
  have q := ifaceEq
  have qa := assertErrno2
  have qb := assertNoPbe2
  go_enter Tryz.func25, Tryz.ntmps25
  go_wp2
  go_ret2
  exact ⟨rfl, 0, rfl⟩
theorem zeroN_err2 : ∀ (n : Nat) (S : St) (f : Nat), (S.zeroN f n).2.1 = 0 ∨ (S.zeroN f n).2.1 = 22
  | 0, S, f => .inl rfl
  | n + 1, S, f => by
    unfold St.zeroN
    split
    · exact zeroN_err2 n _ _
    · exact .inr rfl
theorem zero_err_le2 (S : St) (f c : Int) : -9223372036854775808 ≤ (S.zero f c).2.1 ∧ (S.zero f c).2.1 ≤ 9223372036854775807 := by
  unfold St.zero
  split
  · rcases zeroN_err2 c.toNat S f.toNat with e | e <;> rw [e] <;> omega
  · show -9223372036854775808 ≤ S.zeroBad f c ∧ S.zeroBad f c ≤ 9223372036854775807
    unfold St.zeroBad
    split
    · omega
    · split
      · omega
      · split <;> omega
theorem spoil_le (S : St) (b : Int) : -9223372036854775808 ≤ S.spoilErr b ∧ S.spoilErr b ≤ 9223372036854775807 := by
  unfold St.spoilErr
  split <;> omega

set_option maxHeartbeats 2000000 in
theorem act_4 {w0 w : World} {pp nx k : Nat} {S : St} (h : PAll w0 w pp S nx k) (bl ct : Int) (dv : Value) (hbl : i64ok bl) (hct : i64ok ct) (hb : ∀ k, (S.cache k).length + 2 ≤ 268435456) :
    Calls Tryz.prog 22 #[.pointer (some ⟨pp, 0, none⟩), .agg #[.int .i64 4, .int .i64 bl, .int .i64 ct, dv]] w fun e w' => e = .returned (.bool true) ∧ PAll w0 w' pp (S.zero bl ct).1 nx k := by
  obtain ⟨L, RL, wh, bv, hP⟩ := h
  have HB0 := hide (PBx.start hP 4 bl ct dv)
  have hd := HB0.out.cells
  unfold PCells at hd
  clear hP
  have HBL := hide hbl
  have HCT := hide hct
  have HCB := hide hb
  clear hbl hct hb
  go_enter Tryz.func22, Tryz.ntmps22
  have HB10 := hide (HB0.out.below (Below.drew (Below.refl _ _)))
  have hc0 := HB10.out.cells
  unfold PCells at hc0
  have HCC := hide (Zero_any HB10.out.p.d bl ct HBL.out HCT.out (fun k => by have := HCB.out k; omega))
  unfold PD at HCC
  have HNN := hide (zero_err_le2 S bl ct)
  go_wp2_with fail
  generalize hW0 : (w.alloc (.cells #[.int .i64 4, .int .i64 bl, .int .i64 ct, dv] 43)).drew = wA at HB10 HCC
  have HWA := hide hW0
  clear hW0
  go_region_held3 (fun w' => w'.cell? ⟨pp, 0, none⟩ = some (.pointer (some ⟨L.p, 0, none⟩)) ∧ w'.cell? ⟨pp, 1, none⟩ = some (.pointer (some ⟨RL.p, 0, none⟩)) ∧ w'.cell? ⟨pp, 2, none⟩ = some (.bool false) ∧ w'.cell? ⟨w.heap.size, 0, none⟩ = some (.int .i64 4) ∧ w'.cell? ⟨w.heap.size, 1, none⟩ = some (.int .i64 bl) ∧ w'.cell? ⟨w.heap.size, 2, none⟩ = some (.int .i64 ct) ∧ w'.cell? ⟨w.heap.size, 3, none⟩ = some dv) (first | exact hc0 | assumption)
    (first
      | (go_at_call 55; rw [HWA.out]; refine HCC.out.mono ?_; rintro e w1 ⟨eu, U1, rfl, hE, hR1, hG1⟩; have HB1 := hide (HB10.out.growD hR1 hG1); have hc1 := HB1.out.cells; unfold PCells at hc1; have HE := hide hE; clear hE hR1 hG1 HCC))
  have HB20 := hide (HB1.out.below (Below.drew (Below.refl _ _)))
  have hc2 := HB20.out.cells
  unfold PCells at hc2
  have HPR := hide (rZero HB20.out.p.r bl ct HBL.out HCT.out HCB.out)
  unfold PR at HPR
  have HNR : Hid (∀ x, wA.heap.size ≤ x → ¬ RL.U x) := hide fun x hx hu => by have := HB10.out.p.r.uLt x hu; omega
  go_wp2_with fail
  go_region_held3 (fun w' => w'.cell? ⟨pp, 0, none⟩ = some (.pointer (some ⟨L.p, 0, none⟩)) ∧ w'.cell? ⟨pp, 1, none⟩ = some (.pointer (some ⟨RL.p, 0, none⟩)) ∧ w'.cell? ⟨pp, 2, none⟩ = some (.bool false) ∧ w'.cell? ⟨w.heap.size, 0, none⟩ = some (.int .i64 4) ∧ w'.cell? ⟨w.heap.size, 1, none⟩ = some (.int .i64 bl) ∧ w'.cell? ⟨w.heap.size, 2, none⟩ = some (.int .i64 ct) ∧ w'.cell? ⟨w.heap.size, 3, none⟩ = some dv) (first | exact hc2 | assumption)
    (first
      | (go_at_call 56; refine HPR.out.mono ?_; rintro e w3 ⟨rfl, RL', hp', hD3, hG3⟩; have HB3 : Hid (PBx w0 w3 pp { L with U := U1 } (S.zero bl ct).1 RL' (S.zero bl ct).1 (WhIs ((S.zero bl ct).2.1) ((S.zero bl ct).2.2)) nx k bv w.heap.size 4 bl ct dv) := hide (HB20.out.growR hp' hD3 hG3); have hc5 := HB3.out.cells; unfold PCells at hc5; rw [hp'] at hc5; have HTR := hide (trouble_ex (w2 := w3) HE.out fun x h1 h2 h3 => hG3.keep x h2 (HNR.out x h1)); have HPP := hide hp'; clear hD3 hG3 hp'))
  obtain ⟨hn1, hn2⟩ := HNN.out
  clear HE HNR HPR
  generalize (S.zero bl ct).2.1 = en at *
  generalize WhIs en ((S.zero bl ct).2.2) = whn at *
  go_wp2_with fail
  refine HTR.out.mono ?_
  rintro e w4 ⟨rfl, k4, hw4⟩
  have hb4 : Below w3.heap.size w3 w4 := by rw [hw4]; exact below_drewN (Below.refl _ _) k4
  have HB4 := hide (HB3.out.below hb4)
  have hc6 := HB4.out.cells
  unfold PCells at hc6
  have hc7 := HB4.out.p.cells.2.2.2
  rw [HPP.out] at hc6 hc7
  clear hb4 hw4 HTR
  go_wp2
  go_ret
  exact ⟨by simp, HB4.out.all⟩

set_option maxHeartbeats 2000000 in
theorem act_10 {w0 w : World} {pp nx k : Nat} {S : St} (h : PAll w0 w pp S nx k) (bl ct : Int) (dv : Value) (hbl : i64ok bl) (hct : i64ok ct) (hb : ∀ k, (S.cache k).length + 2 ≤ 268435456) :
    Calls Tryz.prog 22 #[.pointer (some ⟨pp, 0, none⟩), .agg #[.int .i64 10, .int .i64 bl, .int .i64 ct, dv]] w fun e w' => e = .returned (.bool true) ∧ PAll w0 w' pp (S.spoil bl) nx k := by
  obtain ⟨L, RL, wh, bv, hP⟩ := h
  have HB0 := hide (PBx.start hP 10 bl ct dv)
  have hd := HB0.out.cells
  unfold PCells at hd
  clear hP
  have HBL := hide hbl
  have HCT := hide hct
  have HCB := hide hb
  clear hbl hct hb
  go_enter Tryz.func22, Tryz.ntmps22
  have HB10 := hide (HB0.out.below (Below.drew (Below.refl _ _)))
  have hc0 := HB10.out.cells
  unfold PCells at hc0
  have HCC := hide (Spoil_any HB10.out.p.d bl)
  unfold PD at HCC
  have HNN := hide (spoil_le S bl)
  go_wp2_with fail
  generalize hW0 : (w.alloc (.cells #[.int .i64 10, .int .i64 bl, .int .i64 ct, dv] 43)).drew = wA at HB10 HCC
  have HWA := hide hW0
  clear hW0
  go_region_held3 (fun w' => w'.cell? ⟨pp, 0, none⟩ = some (.pointer (some ⟨L.p, 0, none⟩)) ∧ w'.cell? ⟨pp, 1, none⟩ = some (.pointer (some ⟨RL.p, 0, none⟩)) ∧ w'.cell? ⟨pp, 2, none⟩ = some (.bool false) ∧ w'.cell? ⟨w.heap.size, 0, none⟩ = some (.int .i64 10) ∧ w'.cell? ⟨w.heap.size, 1, none⟩ = some (.int .i64 bl) ∧ w'.cell? ⟨w.heap.size, 2, none⟩ = some (.int .i64 ct) ∧ w'.cell? ⟨w.heap.size, 3, none⟩ = some dv) (first | exact hc0 | assumption)
    (first
      | (go_at_call 59; rw [HWA.out]; refine HCC.out.mono ?_; rintro e w1 ⟨eu, U1, rfl, hE, hR1, hG1⟩; have HB1 := hide (HB10.out.growD hR1 hG1); have hc1 := HB1.out.cells; unfold PCells at hc1; have HE := hide hE; clear hE hR1 hG1 HCC))
  have HB20 := hide (HB1.out.below (Below.drew (Below.refl _ _)))
  have hc2 := HB20.out.cells
  unfold PCells at hc2
  have HPR := hide (rSpoil HB20.out.p.r bl)
  unfold PR at HPR
  have HNR : Hid (∀ x, wA.heap.size ≤ x → ¬ RL.U x) := hide fun x hx hu => by have := HB10.out.p.r.uLt x hu; omega
  go_wp2_with fail
  go_region_held3 (fun w' => w'.cell? ⟨pp, 0, none⟩ = some (.pointer (some ⟨L.p, 0, none⟩)) ∧ w'.cell? ⟨pp, 1, none⟩ = some (.pointer (some ⟨RL.p, 0, none⟩)) ∧ w'.cell? ⟨pp, 2, none⟩ = some (.bool false) ∧ w'.cell? ⟨w.heap.size, 0, none⟩ = some (.int .i64 10) ∧ w'.cell? ⟨w.heap.size, 1, none⟩ = some (.int .i64 bl) ∧ w'.cell? ⟨w.heap.size, 2, none⟩ = some (.int .i64 ct) ∧ w'.cell? ⟨w.heap.size, 3, none⟩ = some dv) (first | exact hc2 | assumption)
    (first
      | (go_at_call 60; refine HPR.out.mono ?_; rintro e w3 ⟨rfl, hD3, hG3⟩; obtain ⟨RL', hRL⟩ : ∃ x, x = RL := ⟨_, rfl⟩; have hp' : RL'.p = RL.p := (by rw [hRL]); have hD3 : RD w3 RL' _ _ := (by rw [hRL]; exact hD3); have hG3 : Grow _ w3 RL.U RL'.U := (by rw [hRL]; exact hG3); clear hRL; have HB3 : Hid (PBx w0 w3 pp { L with U := U1 } (S.spoil bl) RL' (S.spoil bl) (WhIs (S.spoilErr bl) (bl)) nx k bv w.heap.size 10 bl ct dv) := hide (HB20.out.growR hp' hD3 hG3); have hc5 := HB3.out.cells; unfold PCells at hc5; rw [hp'] at hc5; have HTR := hide (trouble_ex (w2 := w3) HE.out fun x h1 h2 h3 => hG3.keep x h2 (HNR.out x h1)); have HPP := hide hp'; clear hD3 hG3 hp'))
  obtain ⟨hn1, hn2⟩ := HNN.out
  clear HE HNR HPR
  generalize S.spoilErr bl = en at *
  generalize WhIs en (bl) = whn at *
  go_wp2_with fail
  refine HTR.out.mono ?_
  rintro e w4 ⟨rfl, k4, hw4⟩
  have hb4 : Below w3.heap.size w3 w4 := by rw [hw4]; exact below_drewN (Below.refl _ _) k4
  have HB4 := hide (HB3.out.below hb4)
  have hc6 := HB4.out.cells
  unfold PCells at hc6
  have hc7 := HB4.out.p.cells.2.2.2
  rw [HPP.out] at hc6 hc7
  clear hb4 hw4 HTR
  go_wp2
  go_ret
  exact ⟨by simp, HB4.out.all⟩

end Go.Proofs.YtlpmpicmpklaoacGreat
