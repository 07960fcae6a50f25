import Derived.Test.YtkjaaknlhmneoacDoorMtSup
namespace Go.Proofs.YtkjaaknlhmneoacDoor
open Go.RowKit Go.Lib
set_option linter.unusedVariables false
set_option linter.unusedSimpArgs false
set_option maxRecDepth 20000

def wid (f : Nat) : Nat := if f = 0 ∨ (5 ≤ f ∧ f ≤ 8) then 8 else 4
def plc : Nat → Nat
  | 0 => 8
  | f + 1 => plc f + wid f
theorem wid_le (f : Nat) : wid f ≤ 8 := by unfold wid; split <;> omega
theorem plc_le : ∀ f, plc f ≤ 8 + 8 * f
  | 0 => by simp [plc]
  | f + 1 => by have := plc_le f; have := wid_le f; simp only [plc]; omega
theorem wide_any (w : World) (f : Nat) (hf : f < 10) : Calls Tryd.prog 27 #[.int .i64 (f : Int)] w fun e w' => e = .returned (.int .i64 (wid f : Nat)) ∧ w' = w := by
  rcases (show f = 0 ∨ f = 1 ∨ f = 2 ∨ f = 3 ∨ f = 4 ∨ f = 5 ∨ f = 6 ∨ f = 7 ∨ f = 8 ∨ f = 9 by omega) with rfl | rfl | rfl | rfl | rfl | rfl | rfl | rfl | rfl | rfl
  all_goals
    go_enter Tryd.func27, Tryd.ntmps27
    go_wp2_with fail
    go_ret
    exact ⟨rfl, rfl⟩
theorem place_any (w : World) (f : Nat) (hf : f < 10) : Calls Tryd.prog 26 #[.int .i64 (f : Int)] w fun e w' => e = .returned (.int .i64 (plc f : Nat)) ∧ w' = w := by
  have HW := hide fun x i (h : i < 10) => wide_any x i h
  have HL := hide plc_le
  have HWL := hide wid_le
  have HPS : Hid (∀ f, plc (f + 1) = plc f + wid f) := hide fun f => rfl
  have HP0 : Hid (plc 0 = 8) := hide rfl
  go_enter Tryd.func26, Tryd.ntmps26
  go_wp2_with fail
  go_loopw [3, 4] (fun a i wr => ∃ j : Nat, j ≤ f ∧ i = .int .i64 j ∧ a = .int .i64 (plc j : Nat) ∧ wr = w) (fun _ i _ => f - (intOf i).toNat)
  case atStart => exact ⟨0, Nat.zero_le _, rfl, rfl, rfl⟩
  case round =>
    obtain ⟨j, hj, rfl, rfl, rfl⟩ := hrel
    by_cases hlt : j < f
    · have h1 := HL.out j
      have h2 := HWL.out j
      have HW' := hide (HW.out wr j (by omega))
      have HE := hide (HPS.out j)
      generalize wid j = a at *
      generalize plc j = b at *
      go_wp2_with (go_at_call 27; refine HW'.out.mono ?_; rintro e w2 ⟨rfl, rfl⟩)
      go_roundw
      case rel => exact ⟨j + 1, by omega, by go_num, by rw [HE.out]; simp, trivial⟩
      case measure => simp [intOf]; omega
    · have hjf : j = f := by omega
      subst hjf
      go_wp2
      go_ret
      exact ⟨rfl, rfl⟩
end Go.Proofs.YtkjaaknlhmneoacDoor
