import Derived.Test.YtlkccencilhacaaARp4
namespace Go.Proofs.Ytlkccencilhacaa
open Go.RowKit Go.Sort
open Num
set_option linter.unusedVariables false
set_option linter.unusedSimpArgs false
set_option maxRecDepth 20000

theorem part_int (xs : Array Value) (off : Nat) (v : Value) (h : xs[off]? = some v) (W : World) : (part 3 xs off).run Try.prog W = .ok v W := by
  have hi : (isAgg 3).run Try.prog W = .ok false W := by kernel_rfl
  simp [part, hi, h]
theorem eqInt (d : Nat) (a b : Int) (W : World) : (Op.equalIn (d + 1) 3 (.int .i64 a) (.int .i64 b)).run Try.prog W = .ok (a == b) W := run_equalIn_int W d 3 .i64 .i64 a b Try.underlying3
theorem eqFourD (d : Nat) (he : ∀ (a b : Int) (W : World), (Op.equalIn d 3 (.int .i64 a) (.int .i64 b)).run Try.prog W = .ok (a == b) W) (a0 a1 a2 a3 z0 z1 z2 z3 : Int) (W : World) : (Op.equalIn (d + 1) 88 (.agg #[.int .i64 a0, .int .i64 a1, .int .i64 a2, .int .i64 a3]) (.agg #[.int .i64 z0, .int .i64 z1, .int .i64 z2, .int .i64 z3])).run Try.prog W = .ok (decide ([a0, a1, a2, a3] = [z0, z1, z2, z3])) W := by
  have hs : (sizeOf 3).run Try.prog W = .ok 1 W := by kernel_rfl
  have p0 : ∀ a0 a1 a2 a3 : Int, (part 3 #[.int .i64 a0, .int .i64 a1, .int .i64 a2, .int .i64 a3] 0).run Try.prog W = .ok (.int .i64 a0) W := fun _ _ _ _ => part_int _ _ _ rfl W
  have p1 : ∀ a0 a1 a2 a3 : Int, (part 3 #[.int .i64 a0, .int .i64 a1, .int .i64 a2, .int .i64 a3] 1).run Try.prog W = .ok (.int .i64 a1) W := fun _ _ _ _ => part_int _ _ _ rfl W
  have p2 : ∀ a0 a1 a2 a3 : Int, (part 3 #[.int .i64 a0, .int .i64 a1, .int .i64 a2, .int .i64 a3] 2).run Try.prog W = .ok (.int .i64 a2) W := fun _ _ _ _ => part_int _ _ _ rfl W
  have p3 : ∀ a0 a1 a2 a3 : Int, (part 3 #[.int .i64 a0, .int .i64 a1, .int .i64 a2, .int .i64 a3] 3).run Try.prog W = .ok (.int .i64 a3) W := fun _ _ _ _ => part_int _ _ _ rfl W
  simp only [Op.equalIn, Sem.run_bind, run_underlying Try.underlying88, Result.andThen_ok, hs]
  by_cases h0 : a0 = z0
  · by_cases h1 : a1 = z1
    · by_cases h2 : a2 = z2
      · by_cases h3 : a3 = z3
        · simp [List.range', p0, p1, p2, p3, he, Result.andThen, h0, h1, h2, h3]
        · simp [List.range', p0, p1, p2, p3, he, Result.andThen, h0, h1, h2, h3]
      · simp [List.range', p0, p1, p2, p3, he, Result.andThen, h0, h1, h2]
    · simp [List.range', p0, p1, p2, p3, he, Result.andThen, h0, h1]
  · simp [List.range', p0, p1, p2, p3, he, Result.andThen, h0]
theorem eqFour (a0 a1 a2 a3 z0 z1 z2 z3 : Int) (W : World) : (Op.equalIn 10000 88 (.agg #[.int .i64 a0, .int .i64 a1, .int .i64 a2, .int .i64 a3]) (.agg #[.int .i64 z0, .int .i64 z1, .int .i64 z2, .int .i64 z3])).run Try.prog W = .ok (decide ([a0, a1, a2, a3] = [z0, z1, z2, z3])) W := eqFourD 9999 (fun a b W => eqInt 9998 a b W) a0 a1 a2 a3 z0 z1 z2 z3 W
/-- what stands in contextAgrees -/
structure AgW (w x : World) (R : Array Value) (g : Nat) (zs : List Int) : Prop where
  box : x.heap[w.heap.size]? = some (.cells R 90 (0, 0))
  row : x.heap[g]? = some (.cells (ints zs) 3 (0, 0))
  be : Below w.heap.size w x
  lo : w.heap.size < g
theorem AgW.below {w x y : World} {R : Array Value} {g : Nat} {zs : List Int} (h : AgW w x R g zs) (hb : Below x.heap.size x y) : AgW w y R g zs :=
  ⟨(hb.block _ (Array.getElem?_eq_some_iff.1 h.box).1).trans h.box, (hb.block _ (Array.getElem?_eq_some_iff.1 h.row).1).trans h.row, h.be.trans (hb.mono h.be.size), h.lo⟩
set_option maxHeartbeats 2000000 in
theorem cag_any (w : World) (num age slots c0 : Nat) (c1 c2 : Int) (s0 : Nat) (z0 z1 z2 z3 : Int) (h1 : 1 ≤ slots) (h2 : slots ≤ 16) (h3 : c0 < slots) (h4 : s0 < slots) :
    Calls Try.prog 93 #[.agg (recV num age slots (c0 : Int) c1 c2 (s0 : Int) z0 z1 z2 z3)] w (BoolP w (ctxL (layR ⟨num, age, slots, (c0 : Int), c1, c2, (s0 : Int), [z0, z1, z2, z3]⟩ (List.replicate slots (-1))) s0 = [z0, z1, z2, z3])) := by
  have HFR := hide fun x => freeRow_any x slots h1 h2
  have HLY : Hid (∀ x g, AgW w x (recV num age slots (c0 : Int) c1 c2 (s0 : Int) z0 z1 z2 z3) g (List.replicate slots (-1)) → Calls Try.prog 41 #[.agg (recV num age slots (c0 : Int) c1 c2 (s0 : Int) z0 z1 z2 z3), .slice (some ⟨g, 0, none⟩) slots slots] x fun e y => e = .returned (.tuple #[]) ∧ AgW w y (recV num age slots (c0 : Int) c1 c2 (s0 : Int) z0 z1 z2 z3) g (layR ⟨num, age, slots, (c0 : Int), c1, c2, (s0 : Int), [z0, z1, z2, z3]⟩ (List.replicate slots (-1)))) := hide fun x g hx => by
    have h := lay_any (g := g) (zs := List.replicate slots (-1)) num age slots c0 c1 c2 s0 z0 z1 z2 z3 hx.row (by simpa using h1) (by simpa using h2) (by simpa using h4) (by simpa using h3)
    rw [List.length_replicate] at h
    refine h.mono ?_
    rintro e y ⟨rfl, hr, hc⟩
    have hgl := hx.lo
    exact ⟨rfl, (hc.keep _ (Array.getElem?_eq_some_iff.1 hx.box).1 (by omega)).trans hx.box, hr, hx.be.trans (hc.below hx.be.size fun b e => by omega), hgl⟩
  have HST : Hid (∀ y, y.heap[w.heap.size + 1]? = some (.cells (ints (List.replicate slots (-1))) 3 (0, 0)) → Below (w.heap.size + 1) (w.alloc (.cells (recV num age slots (c0 : Int) c1 c2 (s0 : Int) z0 z1 z2 z3) 90)) y → AgW w y (recV num age slots (c0 : Int) c1 c2 (s0 : Int) z0 z1 z2 z3) (w.heap.size + 1) (List.replicate slots (-1))) := hide fun y hr hb => by
    have hb0 := (Below.refl w.heap.size w).alloc (Nat.le_refl _) (.cells (recV num age slots (c0 : Int) c1 c2 (s0 : Int) z0 z1 z2 z3) 90)
    exact ⟨(hb.block _ (by omega)).trans (Go.heap_alloc_new _ _), hr, hb0.trans (hb.mono (by omega)), by omega⟩
  have HLL : Hid ((layR ⟨num, age, slots, (c0 : Int), c1, c2, (s0 : Int), [z0, z1, z2, z3]⟩ (List.replicate slots (-1))).length = slots) := hide (by rw [layR_len, List.length_replicate])
  generalize layR ⟨num, age, slots, (c0 : Int), c1, c2, (s0 : Int), [z0, z1, z2, z3]⟩ (List.replicate slots (-1)) = LZ at *
  have HCX : Hid (∀ x, AgW w x (recV num age slots (c0 : Int) c1 c2 (s0 : Int) z0 z1 z2 z3) (w.heap.size + 1) LZ → _) := hide fun x (hx : AgW w x (recV num age slots (c0 : Int) c1 c2 (s0 : Int) z0 z1 z2 z3) (w.heap.size + 1) LZ) => ctxF_any (start := s0) hx.row (by rw [HLL.out]; exact h1) (by rw [HLL.out]; exact h2) (by rw [HLL.out]; exact h4)
  rw [HLL.out] at HCX
  have HC4 : Hid (ctxL LZ s0 = [(ctxL LZ s0).getD 0 0, (ctxL LZ s0).getD 1 0, (ctxL LZ s0).getD 2 0, (ctxL LZ s0).getD 3 0]) := hide (by unfold ctxL; rfl)
  generalize ctxL LZ s0 = CC at *
  generalize CC.getD 0 0 = a0 at *
  generalize CC.getD 1 0 = a1 at *
  generalize CC.getD 2 0 = a2 at *
  generalize CC.getD 3 0 = a3 at *
  clear h1 h2 h3 h4
  go_enter Try.func93, Try.ntmps93
  go_wp2_with (first
    | (go_at_call 38; refine (HFR.out _).mono ?_; rintro e y ⟨rfl, hy1, hy2⟩; rw [World.size_alloc] at hy1 hy2; have HA := hide (HST.out _ hy1 hy2); clear hy1 hy2)
    | (go_at_call 41; refine (HLY.out _ _ HA.out).mono ?_; rintro e y2 ⟨rfl, hb2⟩; have HA2 := hide hb2; clear hb2)
    | (refine wpList_load_row rfl 90 (.tmp 1) rfl w.heap.size rfl 90 (recV num age slots (c0 : Int) c1 c2 (s0 : Int) z0 z1 z2 z3) (0, 0) _ HA.out.box Try.underlying90 rfl recSize ?_))
  have d6 : y2.cell? ⟨w.heap.size, 6, none⟩ = some (.int .i64 (s0 : Int)) := cell_of_row _ _ _ _ _ _ HA2.out.box
  have d7 : y2.cell? ⟨w.heap.size, 7, none⟩ = some (.int .i64 z0) := cell_of_row _ _ _ _ _ _ HA2.out.box
  have d8 : y2.cell? ⟨w.heap.size, 8, none⟩ = some (.int .i64 z1) := cell_of_row _ _ _ _ _ _ HA2.out.box
  have d9 : y2.cell? ⟨w.heap.size, 9, none⟩ = some (.int .i64 z2) := cell_of_row _ _ _ _ _ _ HA2.out.box
  have d10 : y2.cell? ⟨w.heap.size, 10, none⟩ = some (.int .i64 z3) := cell_of_row _ _ _ _ _ _ HA2.out.box
  have HD : Hid (∀ x, Below y2.drew.heap.size y2.drew x → x.cell? ⟨w.heap.size, 6, none⟩ = some (.int .i64 (s0 : Int)) ∧ x.cell? ⟨w.heap.size, 7, none⟩ = some (.int .i64 z0) ∧ x.cell? ⟨w.heap.size, 8, none⟩ = some (.int .i64 z1) ∧ x.cell? ⟨w.heap.size, 9, none⟩ = some (.int .i64 z2) ∧ x.cell? ⟨w.heap.size, 10, none⟩ = some (.int .i64 z3)) := hide fun x hx => by
    have hb := (HA2.out.below (y := x) ⟨hx.os, hx.tape, hx.output, hx.size, hx.block⟩).box
    exact ⟨cell_of_row _ _ _ _ _ _ hb, cell_of_row _ _ _ _ _ _ hb, cell_of_row _ _ _ _ _ _ hb, cell_of_row _ _ _ _ _ _ hb, cell_of_row _ _ _ _ _ _ hb⟩
  clear HA HLY HST HFR
  have heq := eqFour a0 a1 a2 a3 z0 z1 z2 z3
  have HAD : Hid (AgW w y2.drew (recV num age slots (c0 : Int) c1 c2 (s0 : Int) z0 z1 z2 z3) (w.heap.size + 1) LZ) := hide ⟨HA2.out.box, HA2.out.row, HA2.out.be.drew, HA2.out.lo⟩
  go_region_held3 (fun x => x.cell? ⟨w.heap.size, 6, none⟩ = some (.int .i64 (s0 : Int)) ∧ x.cell? ⟨w.heap.size, 7, none⟩ = some (.int .i64 z0) ∧ x.cell? ⟨w.heap.size, 8, none⟩ = some (.int .i64 z1) ∧ x.cell? ⟨w.heap.size, 9, none⟩ = some (.int .i64 z2) ∧ x.cell? ⟨w.heap.size, 10, none⟩ = some (.int .i64 z3)) (first | exact ⟨d6, d7, d8, d9, d10⟩ | exact hcs)
    ((go_at_call 78; refine (HCX.out _ HAD.out).mono ?_; rintro e y3 ⟨rfl, hb3⟩; have hcs := HD.out _ hb3; have HB3 := hide (HAD.out.be.trans (hb3.mono HAD.out.be.size)); clear hb3))
  go_wp2_with fail
  go_ret
  exact ⟨_, rfl, by rw [HC4.out]; simp, HB3.out⟩
set_option maxHeartbeats 2000000 in
theorem valid_any (w : World) (num age slots0 : Nat) (c0 c1 c2 st z0 z1 z2 z3 : Int) (slots ext : Nat) (h1 : 1 ≤ slots) (h2 : slots ≤ 16) (h3 : age < 65536) :
    Calls Try.prog 66 #[.agg (recV num age slots0 c0 c1 c2 st z0 z1 z2 z3), .int .i64 (slots : Int), .int .i64 (ext : Int)] w (BoolP w ((Rc.mk num age slots0 c0 c1 c2 st [z0, z1, z2, z3]).Ok slots ext)) := by
  by_cases hall : slots0 = slots ∧ 0 ≤ c0 ∧ c0 < (slots : Int) ∧ 0 ≤ st ∧ st < (slots : Int)
  · obtain ⟨rfl, q1, q2, q3, q4⟩ := hall
    obtain ⟨cn, rfl⟩ : ∃ k : Nat, c0 = (k : Int) := ⟨c0.toNat, by omega⟩
    obtain ⟨sn, rfl⟩ : ∃ k : Nat, st = (k : Int) := ⟨st.toNat, by omega⟩
    have HB0 : Hid (Below w.heap.size w (w.alloc (.cells (recV num age slots0 (cn : Int) c1 c2 (sn : Int) z0 z1 z2 z3) 90)) ∧ (w.alloc (.cells (recV num age slots0 (cn : Int) c1 c2 (sn : Int) z0 z1 z2 z3) 90)).heap[w.heap.size]? = some (.cells (recV num age slots0 (cn : Int) c1 c2 (sn : Int) z0 z1 z2 z3) 90 (0, 0))) := hide ⟨(Below.refl w.heap.size w).alloc (Nat.le_refl _) _, Go.heap_alloc_new _ _⟩
    have HS1 := hide fun x => sfa_any x num age slots0 (cn : Int) c1 c2 (sn : Int) z0 z1 z2 z3 h1 h2 h3
    have HS2 := hide fun x => exb_any x num age slots0 ext (cn : Int) c1 c2 (sn : Int) z0 z1 z2 z3
    have HS3 := hide fun x => cag_any x num age slots0 cn c1 c2 sn z0 z1 z2 z3 h1 h2 (by omega) (by omega)
    have HK : Hid (∀ x y, Below w.heap.size w x ∧ x.heap[w.heap.size]? = some (.cells (recV num age slots0 (cn : Int) c1 c2 (sn : Int) z0 z1 z2 z3) 90 (0, 0)) → Below x.heap.size x y → Below w.heap.size w y ∧ y.heap[w.heap.size]? = some (.cells (recV num age slots0 (cn : Int) c1 c2 (sn : Int) z0 z1 z2 z3) 90 (0, 0))) := hide fun x y hx hb => ⟨hx.1.trans (hb.mono hx.1.size), (hb.block _ (Array.getElem?_eq_some_iff.1 hx.2).1).trans hx.2⟩
    have HOK : Hid ((Rc.mk num age slots0 (cn : Int) c1 c2 (sn : Int) [z0, z1, z2, z3]).Ok slots0 ext ↔ (age = 65535 ∨ (sn : Int) = ((age * 4 % slots0 : Nat) : Int)) ∧ ((∀ i, i < 4 → -1 ≤ [z0, z1, z2, z3].getD i 0 ∧ [z0, z1, z2, z3].getD i 0 < (ext : Int)) ∧ 0 ≤ c1 ∧ c1 < (ext : Int) ∧ -1 ≤ c2 ∧ c2 < (ext : Int) ∧ c2 ≠ c1) ∧ ctxL (layR ⟨num, age, slots0, (cn : Int), c1, c2, (sn : Int), [z0, z1, z2, z3]⟩ (List.replicate slots0 (-1))) sn = [z0, z1, z2, z3]) := hide (by
      constructor
      · intro h
        exact ⟨h.ag, ⟨h.cx, h.e0, h.e1, h.o0, h.o1, h.ne⟩, by simpa using h.ca⟩
      · rintro ⟨g1, ⟨g2, g3, g4, g5, g6, g7⟩, g8⟩
        exact ⟨rfl, q1, q2, q3, q4, g1, g2, g3, g4, g5, g6, g7, by simpa using g8⟩)
    have s1 : (cn : Int) < (slots0 : Int) := q2
    have s2 : (sn : Int) < (slots0 : Int) := q4
    clear h1 h2 h3 q1 q3 q2 q4
    generalize (Rc.mk num age slots0 (cn : Int) c1 c2 (sn : Int) [z0, z1, z2, z3]).Ok slots0 ext = OK at *
    generalize (age = 65535 ∨ (sn : Int) = ((age * 4 % slots0 : Nat) : Int)) = P1 at *
    generalize ((∀ i, i < 4 → -1 ≤ [z0, z1, z2, z3].getD i 0 ∧ [z0, z1, z2, z3].getD i 0 < (ext : Int)) ∧ 0 ≤ c1 ∧ c1 < (ext : Int) ∧ -1 ≤ c2 ∧ c2 < (ext : Int) ∧ c2 ≠ c1) = P2 at *
    generalize (ctxL (layR ⟨num, age, slots0, (cn : Int), c1, c2, (sn : Int), [z0, z1, z2, z3]⟩ (List.replicate slots0 (-1))) sn = [z0, z1, z2, z3]) = P3 at *
    go_enter Try.func66, Try.ntmps66
    go_wp2_with (first
      | (go_at_call 91; refine (HS1.out _).mono ?_; rintro e x1 ⟨b1, rfl, hb1, hx1⟩; have HX1 := hide (HK.out _ _ HB0.out hx1); have HP1 := hide hb1; clear hx1 hb1 HS1; have x10 : x1.cell? ⟨w.heap.size, 0, none⟩ = some (.int .u32 (num : Int)) := cell_of_row _ _ _ _ _ _ HX1.out.2; have x11 : x1.cell? ⟨w.heap.size, 1, none⟩ = some (.int .i64 (age : Int)) := cell_of_row _ _ _ _ _ _ HX1.out.2; have x12 : x1.cell? ⟨w.heap.size, 2, none⟩ = some (.int .i64 (slots0 : Int)) := cell_of_row _ _ _ _ _ _ HX1.out.2; have x13 : x1.cell? ⟨w.heap.size, 3, none⟩ = some (.int .i64 (cn : Int)) := cell_of_row _ _ _ _ _ _ HX1.out.2; have x14 : x1.cell? ⟨w.heap.size, 4, none⟩ = some (.int .i64 c1) := cell_of_row _ _ _ _ _ _ HX1.out.2; have x15 : x1.cell? ⟨w.heap.size, 5, none⟩ = some (.int .i64 c2) := cell_of_row _ _ _ _ _ _ HX1.out.2; have x16 : x1.cell? ⟨w.heap.size, 6, none⟩ = some (.int .i64 (sn : Int)) := cell_of_row _ _ _ _ _ _ HX1.out.2; have x17 : x1.cell? ⟨w.heap.size, 7, none⟩ = some (.int .i64 z0) := cell_of_row _ _ _ _ _ _ HX1.out.2; have x18 : x1.cell? ⟨w.heap.size, 8, none⟩ = some (.int .i64 z1) := cell_of_row _ _ _ _ _ _ HX1.out.2; have x19 : x1.cell? ⟨w.heap.size, 9, none⟩ = some (.int .i64 z2) := cell_of_row _ _ _ _ _ _ HX1.out.2; have x110 : x1.cell? ⟨w.heap.size, 10, none⟩ = some (.int .i64 z3) := cell_of_row _ _ _ _ _ _ HX1.out.2; cases b1)
      | (go_at_call 92; refine (HS2.out _).mono ?_; rintro e x2 ⟨b2, rfl, hb2, hx2⟩; have HX2 := hide (HK.out _ _ HX1.out hx2); have HP2 := hide hb2; clear hx2 hb2 HS2; have x20 : x2.cell? ⟨w.heap.size, 0, none⟩ = some (.int .u32 (num : Int)) := cell_of_row _ _ _ _ _ _ HX2.out.2; have x21 : x2.cell? ⟨w.heap.size, 1, none⟩ = some (.int .i64 (age : Int)) := cell_of_row _ _ _ _ _ _ HX2.out.2; have x22 : x2.cell? ⟨w.heap.size, 2, none⟩ = some (.int .i64 (slots0 : Int)) := cell_of_row _ _ _ _ _ _ HX2.out.2; have x23 : x2.cell? ⟨w.heap.size, 3, none⟩ = some (.int .i64 (cn : Int)) := cell_of_row _ _ _ _ _ _ HX2.out.2; have x24 : x2.cell? ⟨w.heap.size, 4, none⟩ = some (.int .i64 c1) := cell_of_row _ _ _ _ _ _ HX2.out.2; have x25 : x2.cell? ⟨w.heap.size, 5, none⟩ = some (.int .i64 c2) := cell_of_row _ _ _ _ _ _ HX2.out.2; have x26 : x2.cell? ⟨w.heap.size, 6, none⟩ = some (.int .i64 (sn : Int)) := cell_of_row _ _ _ _ _ _ HX2.out.2; have x27 : x2.cell? ⟨w.heap.size, 7, none⟩ = some (.int .i64 z0) := cell_of_row _ _ _ _ _ _ HX2.out.2; have x28 : x2.cell? ⟨w.heap.size, 8, none⟩ = some (.int .i64 z1) := cell_of_row _ _ _ _ _ _ HX2.out.2; have x29 : x2.cell? ⟨w.heap.size, 9, none⟩ = some (.int .i64 z2) := cell_of_row _ _ _ _ _ _ HX2.out.2; have x210 : x2.cell? ⟨w.heap.size, 10, none⟩ = some (.int .i64 z3) := cell_of_row _ _ _ _ _ _ HX2.out.2; cases b2)
      | (go_at_call 93; refine (HS3.out _).mono ?_; rintro e x3 ⟨b3, rfl, hb3, hx3⟩; have HX3 := hide (HK.out _ _ HX2.out hx3); have HP3 := hide hb3; clear hx3 hb3 HS3; cases b3))
    all_goals
      go_ret
      refine ⟨_, rfl, ?_, by first | exact HX3.out.1 | exact HX2.out.1 | exact HX1.out.1⟩
      rw [HOK.out]
      first
        | exact ⟨fun _ => ⟨HP1.out.1 (by first | trivial | rfl), HP2.out.1 (by first | trivial | rfl), HP3.out.1 (by first | trivial | rfl)⟩, fun _ => rfl⟩
        | exact ⟨fun h => absurd (show false = true from h) (by decide), fun h => absurd (HP3.out.2 h.2.2) (by decide)⟩
        | exact ⟨fun h => absurd (show false = true from h) (by decide), fun h => absurd (HP2.out.2 h.2.1) (by decide)⟩
        | exact ⟨fun h => absurd (show false = true from h) (by decide), fun h => absurd (HP1.out.2 h.1) (by decide)⟩
  · have HB0 : Hid (Below w.heap.size w (w.alloc (.cells (recV num age slots0 c0 c1 c2 st z0 z1 z2 z3) 90))) := hide ((Below.refl w.heap.size w).alloc (Nat.le_refl _) _)
    have HNO : Hid (¬ (Rc.mk num age slots0 c0 c1 c2 st [z0, z1, z2, z3]).Ok slots ext) := hide fun h => hall ⟨h.sl, h.a0, h.a1, h.s0, h.s1⟩
    generalize (Rc.mk num age slots0 c0 c1 c2 st [z0, z1, z2, z3]).Ok slots ext = OK at *
    have HALL := hide hall
    clear hall
    go_enter Try.func66, Try.ntmps66
    go_wp2_with fail
    all_goals first
      | (go_ret; exact ⟨false, rfl, by simp only [Bool.false_eq_true, false_iff]; exact HNO.out, HB0.out⟩)
      | (exfalso; have := HALL.out; omega)
end Go.Proofs.Ytlkccencilhacaa
