import Derived.Test.YtlkccencilhacaaARp3
namespace Go.Proofs.Ytlkccencilhacaa
open Go.RowKit Go.Sort
open Num
set_option linter.unusedVariables false
set_option linter.unusedSimpArgs false
set_option maxRecDepth 20000

/-- an answer that says whether p -/
def BoolP (w : World) (p : Prop) (e : Ending) (w' : World) : Prop := ∃ b : Bool, e = .returned (.bool b) ∧ (b = true ↔ p) ∧ Below w.heap.size w w'
set_option maxHeartbeats 2000000 in
theorem sfa_any (w : World) (num age slots : Nat) (c0 c1 c2 st z0 z1 z2 z3 : Int) (h1 : 1 ≤ slots) (h2 : slots ≤ 16) (h3 : age < 65536) :
    Calls Try.prog 91 #[.agg (recV num age slots c0 c1 c2 st z0 z1 z2 z3)] w (BoolP w (age = 65535 ∨ st = ((age * 4 % slots : Nat) : Int))) := by
  have HB : Hid (∀ k, Below w.heap.size w ((w.alloc (.cells (recV num age slots c0 c1 c2 st z0 z1 z2 z3) 90)).drewN k)) := hide fun k => by
    have hb := (Below.refl w.heap.size w).alloc (Nat.le_refl _) (.cells (recV num age slots c0 c1 c2 st z0 z1 z2 z3) 90)
    exact hb.trans (((Qt.refl _).drewN k).2.mono hb.size)
  have hrow : (w.alloc (.cells (recV num age slots c0 c1 c2 st z0 z1 z2 z3) 90)).heap[w.heap.size]? = some (.cells (recV num age slots c0 c1 c2 st z0 z1 z2 z3) 90 (0, 0)) := Go.heap_alloc_new _ _
  generalize hw1 : w.alloc (.cells (recV num age slots c0 c1 c2 st z0 z1 z2 z3) 90) = w1 at *
  have d1 : w1.cell? ⟨w.heap.size, 1, none⟩ = some (.int .i64 (age : Int)) := cell_of_row _ _ _ _ _ _ hrow
  have d2 : w1.cell? ⟨w.heap.size, 2, none⟩ = some (.int .i64 (slots : Int)) := cell_of_row _ _ _ _ _ _ hrow
  have d6 : w1.cell? ⟨w.heap.size, 6, none⟩ = some (.int .i64 st) := cell_of_row _ _ _ _ _ _ hrow
  clear hrow
  by_cases ha : age = 65535
  · subst ha
    have e1 : ((65535 : Nat) : Int) = 65535 := rfl
    rw [e1] at d1
    go_enter Try.func91, Try.ntmps91
    go_wp2_with fail
    try clear hw1
    go_quiet (fail)
    go_wp2_with fail
    go_ret
    exact ⟨true, rfl, by simp, HB.out _⟩
  · have a1 : ((age : Int) = 65535) = False := by simp; omega
    have a2 : ¬ (slots : Int) = 0 := by omega
    have a3 : IntKind.i64.wrap ((age : Int) * 4) = (age : Int) * 4 := by simp [IntKind.wrap, IntKind.bits, IntKind.signed]; omega
    have a4 : ((age : Int) * 4).tmod (slots : Int) = ((age * 4 % slots : Nat) : Int) := by rw [Int.tmod_eq_emod_of_nonneg (by omega)]; simp
    have HA := hide ha
    have hrr : ((age * 4 % slots : Nat) : Int) < 16 := by have := Nat.mod_lt (age * 4) (show 0 < slots by omega); omega
    have hrr0 : 0 ≤ ((age * 4 % slots : Nat) : Int) := by omega
    have a5 : (age : Int) * 4 % (slots : Int) = ((age * 4 % slots : Nat) : Int) := by simp
    generalize ((age * 4 % slots : Nat) : Int) = rr at *
    have a6 : IntKind.i64.wrap rr = rr := by simp [IntKind.wrap, IntKind.bits, IntKind.signed]; omega
    have a7 : IntKind.i64.wrap ((age : Int) * 4 % (slots : Int)) = rr := by rw [a5, a6]
    have a8 : ¬ slots = 0 := by omega
    go_enter Try.func91, Try.ntmps91
    go_wp2_with fail
    try clear hw1
    go_quiet (fail)
    go_wp2_with fail
    go_ret
    refine ⟨_, rfl, ?_, HB.out _⟩
    have := HA.out
    simp only [Bool.or_eq_true, beq_iff_eq]
    omega
set_option maxHeartbeats 2000000 in
theorem exb_any (w : World) (num age slots ext : Nat) (c0 c1 c2 st z0 z1 z2 z3 : Int) :
    Calls Try.prog 92 #[.agg (recV num age slots c0 c1 c2 st z0 z1 z2 z3), .int .i64 (ext : Int)] w (BoolP w ((∀ i, i < 4 → -1 ≤ [z0, z1, z2, z3].getD i 0 ∧ [z0, z1, z2, z3].getD i 0 < (ext : Int)) ∧ 0 ≤ c1 ∧ c1 < (ext : Int) ∧ -1 ≤ c2 ∧ c2 < (ext : Int) ∧ c2 ≠ c1)) := by
  have HB : Hid (Below w.heap.size w (w.alloc (.cells (recV num age slots c0 c1 c2 st z0 z1 z2 z3) 90))) := hide ((Below.refl w.heap.size w).alloc (Nat.le_refl _) _)
  have hrow : (w.alloc (.cells (recV num age slots c0 c1 c2 st z0 z1 z2 z3) 90)).heap[w.heap.size]? = some (.cells (recV num age slots c0 c1 c2 st z0 z1 z2 z3) 90 (0, 0)) := Go.heap_alloc_new _ _
  go_enter Try.func92, Try.ntmps92
  go_wp2_with fail
  generalize w.alloc _ = w1 at *
  have d4 : w1.cell? ⟨w.heap.size, 4, none⟩ = some (.int .i64 c1) := cell_of_row _ _ _ _ _ _ hrow
  have d5 : w1.cell? ⟨w.heap.size, 5, none⟩ = some (.int .i64 c2) := cell_of_row _ _ _ _ _ _ hrow
  clear hrow
  go_loop [9] (fun i => ∃ k : Nat, k ≤ 4 ∧ i = .int .i64 k ∧ ∀ j, j < k → -1 ≤ [z0, z1, z2, z3].getD j 0 ∧ [z0, z1, z2, z3].getD j 0 < (ext : Int)) (fun i => 4 - (intOf i).toNat)
  case atStart => exact ⟨0, Nat.zero_le _, rfl, fun j hj => by omega⟩
  case round =>
    obtain ⟨k, hk, rfl, hz⟩ := hrel
    have HZ := hide hz
    clear hz
    by_cases hlt : k < 4
    · have hix := idx4i z0 z1 z2 z3 k hlt
      have HG : Hid (∀ z, [z0, z1, z2, z3].getD k 0 = z → -1 ≤ z → z < (ext : Int) → ∀ j, j < k + 1 → -1 ≤ [z0, z1, z2, z3].getD j 0 ∧ [z0, z1, z2, z3].getD j 0 < (ext : Int)) := hide fun z e h1 h2 j hj => by
        by_cases ej : j = k
        · subst ej; rw [e]; exact ⟨h1, h2⟩
        · exact HZ.out j (by omega)
      have HG2 : Hid (∀ z, [z0, z1, z2, z3].getD k 0 = z → ¬ (-1 ≤ z ∧ z < (ext : Int)) → ¬ ∀ j, j < 4 → -1 ≤ [z0, z1, z2, z3].getD j 0 ∧ [z0, z1, z2, z3].getD j 0 < (ext : Int)) := hide fun z e h1 h => h1 (by have := h k hlt; rwa [e] at this)
      generalize hzz : [z0, z1, z2, z3].getD k 0 = zz at *
      have HZZ : Hid ([z0, z1, z2, z3].getD k 0 = zz) := hide hzz
      clear hzz
      by_cases hlo : zz < -1
      · go_wp2_with fail
        go_ret
        exact ⟨false, rfl, by simp only [Bool.false_eq_true, false_iff]; exact fun h => HG2.out zz rfl (by omega) h.1, HB.out⟩
      · by_cases hhi : (ext : Int) ≤ zz
        · go_wp2_with fail
          go_ret
          exact ⟨false, rfl, by simp only [Bool.false_eq_true, false_iff]; exact fun h => HG2.out zz rfl (by omega) h.1, HB.out⟩
        · go_wp2_with fail
          go_round
          case rel => exact ⟨k + 1, by omega, by go_num, HG.out zz rfl (by omega) (by omega)⟩
          case measure => simp [intOf]; omega
    · have HA : Hid (∀ i, i < 4 → -1 ≤ [z0, z1, z2, z3].getD i 0 ∧ [z0, z1, z2, z3].getD i 0 < (ext : Int)) := hide fun i hi => HZ.out i (by omega)
      clear HZ
      go_wp2_with fail
      all_goals
        go_ret
        refine ⟨_, rfl, ?_, HB.out⟩
        simp only [Bool.false_eq_true, false_iff, Bool.true_eq, true_iff, iff_true, decide_eq_true_eq, bne_iff_ne, ne_eq, Bool.not_eq_true', beq_eq_false_iff_ne]
        first
          | omega
          | (intro h; omega)
          | exact ⟨fun h => ⟨fun i hi => HA.out i hi, h⟩, fun h => h.2⟩
theorem ctxF_any {w : World} {g : Nat} {zs : List Int} {start : Nat} (hr : w.heap[g]? = some (.cells (ints zs) 3 (0, 0))) (h1 : 1 ≤ zs.length) (h2 : zs.length ≤ 16) (hs : start < zs.length) :
    Calls Try.prog 78 #[.slice (some ⟨g, 0, none⟩) zs.length zs.length, .int .i64 (start : Int)] w fun e w' => e = .returned (.agg #[.int .i64 ((ctxL zs start).getD 0 0), .int .i64 ((ctxL zs start).getD 1 0), .int .i64 ((ctxL zs start).getD 2 0), .int .i64 ((ctxL zs start).getD 3 0)]) ∧ Below w.heap.size w w' := by
  refine (ctx_any hr h1 h2 hs).mono ?_
  rintro e w' ⟨C, rfl, hC, hi, hb⟩
  rw [← ctxL_of h1 hC hi]
  match C, hC with
  | [a, b, c, d], _ => exact ⟨rfl, hb⟩
end Go.Proofs.Ytlkccencilhacaa
