import Derived.Test.YtlpmpicmpklaoacGreatELaw3
namespace Go.Proofs.YtlpmpicmpklaoacGreat
open Go.RowKit Go.Maps Go.Sort
set_option linter.unusedVariables false
set_option linter.unusedSimpArgs false
set_option maxRecDepth 20000

theorem PBx.all {w0 w : World} {pp nx k bx : Nat} {L : Lay} {S : St} {RL : RLay} {wh kd bl ct : Int} {bv dv : Value} (h : PBx w0 w pp L S RL S wh nx k bv bx kd bl ct dv) : PAll w0 w pp S nx k := ⟨L, RL, wh, bv, h.p⟩

set_option maxHeartbeats 1000000 in
theorem tell_7 {w0 w : World} {pp nx k : Nat} {S : St} (h : PAll w0 w pp S nx k) (bl ct : Int) (dv : Value) (hbl : i64ok bl) (hb : ∀ k, (S.cache k).length + 1 ≤ 268435456) :
    Calls Tryz.prog 20 #[.pointer (some ⟨pp, 0, none⟩), .agg #[.int .i64 7, .int .i64 bl, .int .i64 ct, dv]] w fun e w' => e = .returned (.bool true) ∧ PAll w0 w' pp S nx k := by
  obtain ⟨L, RL, wh, bv, hP⟩ := h
  have HB0 := hide (PBx.start hP 7 bl ct dv)
  have hd := HB0.out.cells
  unfold PCells at hd
  have HBL := hide hbl
  have HCB := hide hb
  clear hP hbl hb
  go_enter Tryz.func20, Tryz.ntmps20
  have HB10 := hide (HB0.out.below (Below.drew (Below.refl _ _)))
  have hc0 := HB10.out.cells
  unfold PCells at hc0
  have HCC := hide (Waiting_any HB10.out.p.d bl HBL.out)
  unfold PD at HCC
  go_wp2_with fail
  go_region_held3 (fun w' => w'.cell? ⟨pp, 0, none⟩ = some (.pointer (some ⟨L.p, 0, none⟩)) ∧ w'.cell? ⟨pp, 1, none⟩ = some (.pointer (some ⟨RL.p, 0, none⟩)) ∧ w'.cell? ⟨pp, 2, none⟩ = some (.bool false) ∧ w'.cell? ⟨w.heap.size, 0, none⟩ = some (.int .i64 7) ∧ w'.cell? ⟨w.heap.size, 1, none⟩ = some (.int .i64 bl) ∧ w'.cell? ⟨w.heap.size, 2, none⟩ = some (.int .i64 ct) ∧ w'.cell? ⟨w.heap.size, 3, none⟩ = some dv) (first | exact hc0 | assumption)
    (first
      | (go_at_call 43; refine HCC.out.mono ?_; rintro e w' ⟨rfl, hw⟩; cases hw; clear HCC))
  generalize hW : (w.alloc (.cells #[.int .i64 7, .int .i64 bl, .int .i64 ct, dv] 43)).drew = w1 at *
  clear hW hd
  have HB20 := hide (HB10.out.below (Below.drew (Below.refl _ _)))
  have hc0 := HB20.out.cells
  unfold PCells at hc0
  obtain ⟨R, r1, r2, r3⟩ := HB20.out.p.r
  have HCC := hide (rWaiting r1 r2 bl HBL.out (by have := items_lt r1 r2 HCB.out; omega))
  unfold PR at HCC
  clear r1 r2 r3
  go_wp2_with fail
  go_region_held3 (fun w' => w'.cell? ⟨pp, 0, none⟩ = some (.pointer (some ⟨L.p, 0, none⟩)) ∧ w'.cell? ⟨pp, 1, none⟩ = some (.pointer (some ⟨RL.p, 0, none⟩)) ∧ w'.cell? ⟨pp, 2, none⟩ = some (.bool false) ∧ w'.cell? ⟨w.heap.size, 0, none⟩ = some (.int .i64 7) ∧ w'.cell? ⟨w.heap.size, 1, none⟩ = some (.int .i64 bl) ∧ w'.cell? ⟨w.heap.size, 2, none⟩ = some (.int .i64 ct) ∧ w'.cell? ⟨w.heap.size, 3, none⟩ = some dv) (first | exact hc0 | assumption)
    (first
      | (go_at_call 44; refine HCC.out.mono ?_; rintro e w2 ⟨rfl, hb2⟩; have HB3 := hide (HB20.out.below hb2); have hc1 := HB3.out.cells; unfold PCells at hc1; clear HCC hb2))
  go_wp2
  go_ret
  exact ⟨by simp, HB3.out.all⟩

set_option maxHeartbeats 1000000 in
theorem tell_12 {w0 w : World} {pp nx k : Nat} {S : St} (h : PAll w0 w pp S nx k) (bl ct : Int) (dv : Value) (hbl : i64ok bl) (hb : ∀ k, (S.cache k).length + 1 ≤ 268435456) :
    Calls Tryz.prog 20 #[.pointer (some ⟨pp, 0, none⟩), .agg #[.int .i64 12, .int .i64 bl, .int .i64 ct, dv]] w fun e w' => e = .returned (.bool true) ∧ PAll w0 w' pp S nx k := by
  obtain ⟨L, RL, wh, bv, hP⟩ := h
  have HB0 := hide (PBx.start hP 12 bl ct dv)
  have hd := HB0.out.cells
  unfold PCells at hd
  have HBL := hide hbl
  have HCB := hide hb
  clear hP hbl hb
  go_enter Tryz.func20, Tryz.ntmps20
  have HC1 := hide (On_any HB0.out.p.d)
  have HC2 := hide (rOn HB0.out.p.r)
  unfold PD at HC1
  unfold PR at HC2
  go_wp2_with (first
    | (go_at_call 45; refine HC1.out.mono ?_; rintro e w' ⟨rfl, hw⟩; cases hw)
    | (go_at_call 46; refine HC2.out.mono ?_; rintro e w' ⟨rfl, hw⟩; cases hw))
  go_ret
  exact ⟨by simp, HB0.out.all⟩

set_option maxHeartbeats 1000000 in
theorem tell_15 {w0 w : World} {pp nx k : Nat} {S : St} (h : PAll w0 w pp S nx k) (bl ct : Int) (dv : Value) (hbl : i64ok bl) (hb : ∀ k, (S.cache k).length + 1 ≤ 268435456) :
    Calls Tryz.prog 20 #[.pointer (some ⟨pp, 0, none⟩), .agg #[.int .i64 15, .int .i64 bl, .int .i64 ct, dv]] w fun e w' => e = .returned (.bool true) ∧ PAll w0 w' pp S nx k := by
  obtain ⟨L, RL, wh, bv, hP⟩ := h
  have HB0 := hide (PBx.start hP 15 bl ct dv)
  have hd := HB0.out.cells
  unfold PCells at hd
  have HBL := hide hbl
  have HCB := hide hb
  clear hP hbl hb
  go_enter Tryz.func20, Tryz.ntmps20
  have HC1 := hide (Geometry_any HB0.out.p.d)
  unfold PD at HC1
  go_wp2_with (first
    | (go_at_call 49; refine HC1.out.mono ?_; rintro e w1 ⟨rfl, n1, hw1⟩; have HB1 := hide (HB0.out.below (show Below _ _ w1 by rw [hw1]; exact below_drewN (Below.refl _ _) n1)); have hc1 := HB1.out.cells; unfold PCells at hc1; have HC2 := hide (rGeometry HB1.out.p.r); unfold PR at HC2; clear hw1)
    | (go_at_call 50; refine HC2.out.mono ?_; rintro e w2 ⟨rfl, n2, hw2⟩; have HB2 := hide (HB1.out.below (show Below _ _ w2 by rw [hw2]; exact below_drewN (Below.refl _ _) n2)); clear hw2))
  go_ret
  exact ⟨by simp, HB2.out.all⟩

set_option maxHeartbeats 1000000 in
theorem tell_14 {w0 w : World} {pp nx k : Nat} {S : St} (h : PAll w0 w pp S nx k) (bl ct : Int) (dv : Value) (hbl : i64ok bl) (hb : ∀ k, (S.cache k).length + 1 ≤ 268435456) :
    Calls Tryz.prog 20 #[.pointer (some ⟨pp, 0, none⟩), .agg #[.int .i64 14, .int .i64 bl, .int .i64 ct, dv]] w fun e w' => e = .returned (.bool true) ∧ PAll w0 w' pp S nx k := by
  obtain ⟨L, RL, wh, bv, hP⟩ := h
  have HB0 := hide (PBx.start hP 14 bl ct dv)
  have hd := HB0.out.cells
  unfold PCells at hd
  have HBL := hide hbl
  have HCB := hide hb
  clear hP hbl hb
  go_enter Tryz.func20, Tryz.ntmps20
  have HC1 := hide (Counts_any HB0.out.p.d)
  unfold PD at HC1
  have qc := countsEq
  go_wp2_with (first
    | (go_at_call 47; refine HC1.out.mono ?_; rintro e w1 ⟨rfl, hb1⟩; have HB1 := hide (HB0.out.below hb1); have HB2 := hide (HB1.out.below ((Below.refl _ _).alloc (Nat.le_refl _) (.cells #[.int .i64 S.rd, .int .i64 S.wr, .int .i64 S.th, .int .i64 S.fl] 70))); have hc2 := HB2.out.cells; unfold PCells at hc2; have HC2 := hide (rCounts HB2.out.p.r); unfold PR at HC2; clear hb1)
    | (go_at_call 48; refine HC2.out.mono ?_; rintro e w2 ⟨rfl, hb2⟩; have HB3 := hide (HB2.out.below hb2); have hr2 := (hb2.block w1.heap.size (by simp)).trans (Go.heap_alloc_new w1 _); have hb3 := (Below.refl w2.heap.size w2).alloc (Nat.le_refl _) (.cells #[.int .i64 S.rd, .int .i64 S.wr, .int .i64 S.th, .int .i64 S.fl] 70); have HB4 := hide (HB3.out.below hb3); have hr3 := (hb3.block w1.heap.size (by have := hb2.size; simp at this; omega)).trans hr2; have z0 : (w2.alloc (.cells #[.int .i64 S.rd, .int .i64 S.wr, .int .i64 S.th, .int .i64 S.fl] 70)).cell? ⟨w1.heap.size, 0, none⟩ = some (.int .i64 S.rd) := (by rw [cell_of_row _ _ _ _ _ _ hr3]; rfl); have z1 : (w2.alloc (.cells #[.int .i64 S.rd, .int .i64 S.wr, .int .i64 S.th, .int .i64 S.fl] 70)).cell? ⟨w1.heap.size, 1, none⟩ = some (.int .i64 S.wr) := (by rw [cell_of_row _ _ _ _ _ _ hr3]; rfl); have z2 : (w2.alloc (.cells #[.int .i64 S.rd, .int .i64 S.wr, .int .i64 S.th, .int .i64 S.fl] 70)).cell? ⟨w1.heap.size, 2, none⟩ = some (.int .i64 S.th) := (by rw [cell_of_row _ _ _ _ _ _ hr3]; rfl); have z3 : (w2.alloc (.cells #[.int .i64 S.rd, .int .i64 S.wr, .int .i64 S.th, .int .i64 S.fl] 70)).cell? ⟨w1.heap.size, 3, none⟩ = some (.int .i64 S.fl) := (by rw [cell_of_row _ _ _ _ _ _ hr3]; rfl); clear hb2 hr2 hb3 hr3))
  go_ret
  exact ⟨by simp, HB4.out.all⟩

set_option maxHeartbeats 1000000 in
theorem tell_no {w0 w : World} {pp nx k : Nat} {S : St} (h : PAll w0 w pp S nx k) (kd bl ct : Int) (dv : Value) (h7 : kd ≠ 7) (h12 : kd ≠ 12) (h14 : kd ≠ 14) (h15 : kd ≠ 15) :
    Calls Tryz.prog 20 #[.pointer (some ⟨pp, 0, none⟩), .agg #[.int .i64 kd, .int .i64 bl, .int .i64 ct, dv]] w fun e w' => e = .returned (.bool true) ∧ PAll w0 w' pp S nx k := by
  obtain ⟨L, RL, wh, bv, hP⟩ := h
  have HB0 := hide (PBx.start hP kd bl ct dv)
  have hd := HB0.out.cells
  unfold PCells at hd
  clear hP
  go_enter Tryz.func20, Tryz.ntmps20
  go_wp2
  go_ret
  exact ⟨rfl, HB0.out.all⟩
end Go.Proofs.YtlpmpicmpklaoacGreat
