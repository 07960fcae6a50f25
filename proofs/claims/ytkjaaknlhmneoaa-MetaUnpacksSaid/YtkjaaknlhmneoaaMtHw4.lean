import Derived.Test.YtkjaaknlhmneoaaMtHw3
namespace Go.Proofs.Ytkjaaknlhmneoaa
open Go.RowKit
open Num
set_option linter.unusedVariables false
set_option linter.unusedSimpArgs false
set_option maxRecDepth 20000

set_option maxHeartbeats 1000000 in
theorem untouchedWords_any {w : World} {g : Nat} {v : Value} {l : List Nat} (hv : USl w v l) (hp : WRow w g (l ++ wmarks)) (hl : l.length ≤ 17592186044416) :
    Calls Try.prog 24 #[.slice (some ⟨g, 0, none⟩) (l.length + 6) (l.length + 6), v] w fun e w' => e = .returned (.bool true) ∧ ∃ q, w' = w.drewN q := by
  have HV := hide hv
  obtain ⟨a, cap, rfl, h1, h2, h3, h4⟩ := hv
  have HU : Hid (USl w (.slice (some ⟨g, 0, none⟩) l.length (l.length + 6)) l) := hide (USl.part hp h3 (by simp [wmarks]; omega))
  have HC : Hid (∀ q i, i < 6 → (w.drewN q).cell? ⟨g, l.length + i, none⟩ = some (.int .u64 ((1000 + i : Nat) : Int))) := hide fun q i hi => by
    have := (hp.cell (i := l.length + i) (by simp [wmarks]; omega)).1
    rw [List.getD_eq_getElem?_getD, List.getElem?_append_right (by omega), Nat.add_sub_cancel_left, ← List.getD_eq_getElem?_getD, wmarks_at hi] at this
    exact this
  have HSA : Hid (∀ q, Calls Try.prog 18 #[.slice (some ⟨g, 0, none⟩) l.length (l.length + 6), .slice a l.length cap] (w.drewN q) fun e w' => e = .returned (.bool true) ∧ ∃ q', w' = (w.drewN q).drewN q') := hide fun q => sameW_any (w.drewN q) _ _ l HU.out HV.out
  unfold maxLen at h2
  clear h3 h4 hp HV HU
  generalize l.length = K at *
  have hn6 : ¬ K + 6 = 0 := by omega
  go_enter Try.func24, Try.ntmps24
  go_wp2_with fail
  go_loopw [5] (fun x wr => ∃ i n : Nat, i ≤ 6 ∧ x = .int .i64 (i : Int) ∧ wr = w.drewN n) (fun x _ => 6 - (intOf x).toNat)
  case atStart => exact ⟨0, 0, Nat.zero_le _, rfl, rfl⟩
  case round =>
    obtain ⟨i, n, hin, rfl, rfl⟩ := hrel
    by_cases hlt : i < 6
    · have hc := HC.out n i hlt
      have hwu : IntKind.u64.wrap (1000 + (i : Int)) = ((1000 + i : Nat) : Int) := by rw [IntKind.wrap_u64]; omega
      generalize ((1000 + i : Nat) : Int) = mkv at *
      have hmm : (mkv != mkv) = false := by simp
      go_wp2_with fail
      go_roundw
      case rel => exact ⟨i + 1, n, by omega, by go_num, rfl⟩
      case measure => simp [intOf]; omega
    · have e : i = 6 := by omega
      subst e
      have HS := hide (HSA.out n)
      go_wp2_with (go_at_call 18; refine HS.out.mono ?_; rintro e w' ⟨rfl, q', hw'⟩; have HW' := hide hw'; clear hw')
      go_ret
      exact ⟨rfl, _, by rw [HW'.out]; exact World.drewN_drewN ..⟩
end Go.Proofs.Ytkjaaknlhmneoaa
