import Derived.Test.YtkjaaknlhmneoacDoorMtSame
import Derived.Laws.CopyOwn
import Derived.Laws.Cover3
namespace Go.Proofs.YtkjaaknlhmneoacDoor
open Go.RowKit Go.Lib
open Num
set_option linter.unusedVariables false
set_option linter.unusedSimpArgs false
set_option maxRecDepth 20000

theorem ext_getD {l1 l2 : List Nat} (hl : l1.length = l2.length) (h : ∀ i, i < l1.length → l1.getD i 0 = l2.getD i 0) : l1 = l2 := by
  apply List.ext_getElem hl
  intro i h1 h2
  have := h i h1
  simpa [List.getD, h1, h2] using this
set_option maxHeartbeats 600000 in
theorem same_any (w : World) (v1 v2 : Value) (l1 l2 : List Nat) (h1 : BSl w v1 l1) (h2 : BSl w v2 l2) : Calls Tryd.prog 31 #[v1, v2] w fun e w' => e = .returned (.bool (decide (l1 = l2))) ∧ Below w.heap.size w w' := by
  by_cases hl : l1.length = l2.length
  case neg =>
    rw [decide_eq_false fun e => hl (by rw [e])]
    obtain ⟨a1, c1, rfl, p1, q1, -⟩ := h1
    obtain ⟨a2, c2, rfl, p2, q2, -⟩ := h2
    unfold maxLen at q1 q2
    generalize l1.length = n1 at *
    generalize l2.length = n2 at *
    go_enter Tryd.func31, Tryd.ntmps31
    go_wp2_with fail
    go_ret
    exact ⟨rfl, Below.refl _ _⟩
  by_cases he : l1 = l2
  · subst he
    simpa using same_eq w v1 v2 l1 h1 h2
  rw [decide_eq_false he]
  obtain ⟨a1, c1, rfl, p1, q1, r1, s1, t1⟩ := h1
  obtain ⟨a2, c2, rfl, p2, q2, r2, s2, t2⟩ := h2
  unfold maxLen at q1 q2
  have HC : Hid (∀ i, i < l1.length → ∃ b1 o1 b2 o2, a1 = some ⟨b1, o1, none⟩ ∧ a2 = some ⟨b2, o2, none⟩ ∧ l1.getD i 0 < 256 ∧ l2.getD i 0 < 256 ∧ (∀ n, (w.drewN n).cell? ⟨b1, o1 + i, none⟩ = some (.int .u8 (l1.getD i 0 : Nat))) ∧ ∀ n, (w.drewN n).cell? ⟨b2, o2 + i, none⟩ = some (.int .u8 (l2.getD i 0 : Nat))) := hide fun i hi => by
    obtain ⟨b1, o1, e1, d1⟩ := t1 (by omega)
    obtain ⟨b2, o2, e2, d2⟩ := t2 (by omega)
    exact ⟨b1, o1, b2, o2, e1, e2, s1 _ (by rw [show l1.getD i 0 = l1[i] by simp [List.getD, hi]]; exact List.getElem_mem _), s2 _ (by rw [show l2.getD i 0 = l2[i]'(by omega) by simp [List.getD, show i < l2.length by omega]]; exact List.getElem_mem _), fun n => d1 i hi, fun n => d2 i (by omega)⟩
  have HNE : Hid (∀ k, (∀ i, i < k → l1.getD i 0 = l2.getD i 0) → k < l1.length) := hide fun k h => by
    false_or_by_contra
    exact he (ext_getD hl fun i hi => h i (by omega))
  clear r1 r2 s1 s2 t1 t2 he
  rw [← hl] at *
  clear hl
  generalize l1.length = n at *
  go_enter Tryd.func31, Tryd.ntmps31
  go_wp2_with fail
  go_loopw [5] (fun i wr => ∃ k : Nat, i = .int .i64 k ∧ (∀ i, i < k → l1.getD i 0 = l2.getD i 0) ∧ ∃ m, wr = w.drewN m) (fun i _ => n - (intOf i).toNat)
  case atStart => exact ⟨0, rfl, fun i hi => by omega, 0, rfl⟩
  case round =>
    obtain ⟨k, rfl, hpre, m, rfl⟩ := hrel
    have hlt := HNE.out k hpre
    have HP := hide hpre
    clear hpre
    obtain ⟨b1, o1, b2, o2, rfl, rfl, hx, hy, d3, d4⟩ := HC.out k hlt
    obtain ⟨x, hxe⟩ : ∃ x, l1.getD k 0 = x := ⟨_, rfl⟩
    obtain ⟨y, hye⟩ : ∃ y, l2.getD k 0 = y := ⟨_, rfl⟩
    have HXE := hide hxe
    have HYE := hide hye
    have d1 : w.cell? ⟨b1, o1 + k, none⟩ = some (.int .u8 (x : Nat)) := by have := d3 0; rw [hxe] at this; exact this
    have d2 : w.cell? ⟨b2, o2 + k, none⟩ = some (.int .u8 (y : Nat)) := by have := d4 0; rw [hye] at this; exact this
    rw [hxe] at hx
    rw [hye] at hy
    clear hxe hye d3 d4
    by_cases hxy : x = y
    · subst hxy
      go_wp2
      go_quiet (fail)
      go_wp2
      go_roundw
      case rel =>
        refine ⟨k + 1, by go_num, ?_, _, rfl⟩
        intro i hi
        rcases (show i < k ∨ i = k by omega) with h | rfl
        · exact HP.out i h
        · rw [HXE.out, HYE.out]
      case measure => simp [intOf]; omega
    · have hn1 : ((x : Int) == (y : Int)) = false := by rw [beq_eq_false_iff_ne]; omega
      have hn2 : (x == y) = false := by rw [beq_eq_false_iff_ne]; exact hxy
      go_wp2
      go_quiet (fail)
      go_wp2
      go_ret
      exact ⟨rfl, below_drewN (below_drewN (Below.refl _ _) m) _⟩
theorem run_zeros (n : Nat) (hn : n ≤ 8388608) : ∃ Z : Array Value, (∀ w : World, (Instr.makeSlice 22 (.int .i64 (n : Int)) (.int .i64 (n : Int))).run Tryd.prog w = .ok (.slice (some ⟨w.heap.size, 0, none⟩) n n) (w.alloc (.cells Z 5))) ∧ Z.size = n := by
  obtain ⟨i0, hi, hz0, hz1, hz2⟩ := info_parts Tryd.info5
  refine ⟨madeCells (Value.int .u8 0).cells (n * 1), fun w => ?_, by simp [madeCells, Value.cells]⟩
  have hr := run_make (P := Tryd.prog) w 22 5 i0 (.int .u8 0) Tryd.underlying22 hi hz0 .i64 .i64 (n : Int) (n : Int) (by omega) (by omega) (by rw [hz2]; omega) (by omega)
  simp only [Int.toNat_natCast] at hr
  rw [hz1] at hr
  exact hr
theorem info_u8' : (Tryd.prog.info? 5).map (·.size) = some 1 := by kernel_rfl
end Go.Proofs.YtkjaaknlhmneoacDoor
