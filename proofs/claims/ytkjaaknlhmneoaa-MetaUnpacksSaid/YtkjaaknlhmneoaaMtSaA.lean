import Derived.Test.YtkjaaknlhmneoaaMtPo
namespace Go.Proofs.Ytkjaaknlhmneoaa
open Go.RowKit Go.Lib
open Num
set_option linter.unusedVariables false
set_option linter.unusedSimpArgs false
set_option maxRecDepth 20000

set_option maxHeartbeats 600000 in
theorem same_eq (w : World) (v1 v2 : Value) (l : List Nat) (h1 : BSl w v1 l) (h2 : BSl w v2 l) : Calls Try.prog 19 #[v1, v2] w fun e w' => e = .returned (.bool true) ∧ Below w.heap.size w w' := by
  obtain ⟨a1, c1, rfl, p1, q1, r1, s1, t1⟩ := h1
  obtain ⟨a2, c2, rfl, p2, q2, r2, s2, t2⟩ := h2
  unfold maxLen at q1 q2
  have HC : Hid (∀ i, i < l.length → ∃ b1 o1 b2 o2 x, a1 = some ⟨b1, o1, none⟩ ∧ a2 = some ⟨b2, o2, none⟩ ∧ x < 256 ∧ (∀ n, (w.drewN n).cell? ⟨b1, o1 + i, none⟩ = some (.int .u8 (x : Nat))) ∧ ∀ n, (w.drewN n).cell? ⟨b2, o2 + i, none⟩ = some (.int .u8 (x : Nat))) := hide fun i hi => by
    obtain ⟨b1, o1, e1, d1⟩ := t1 (by omega)
    obtain ⟨b2, o2, e2, d2⟩ := t2 (by omega)
    exact ⟨b1, o1, b2, o2, l.getD i 0, e1, e2, s1 _ (by rw [show l.getD i 0 = l[i] by simp [List.getD, hi]]; exact List.getElem_mem _), fun n => d1 i hi, fun n => d2 i hi⟩
  clear r1 r2 s1 s2 t1 t2
  generalize l.length = n at *
  go_enter Try.func19, Try.ntmps19
  go_wp2_with fail
  go_loopw [5] (fun i wr => ∃ k : Nat, k ≤ n ∧ i = .int .i64 k ∧ ∃ m, wr = w.drewN m) (fun i _ => n - (intOf i).toNat)
  case atStart => exact ⟨0, Nat.zero_le _, rfl, 0, rfl⟩
  case round =>
    obtain ⟨k, hk, rfl, m, rfl⟩ := hrel
    by_cases hlt : k < n
    · obtain ⟨b1, o1, b2, o2, x, rfl, rfl, hx, d1, d2⟩ := HC.out k hlt
      have d1 := d1 m
      have d2 := d2 m
      go_wp2
      go_quiet (fail)
      go_wp2
      go_roundw
      case rel => exact ⟨k + 1, by omega, by go_num, _, rfl⟩
      case measure => simp [intOf]; omega
    · have hkn : k = n := by omega
      subst hkn
      go_wp2
      go_ret
      exact ⟨rfl, ⟨rfl, rfl, rfl, Nat.le_refl _, fun _ _ => rfl⟩⟩
end Go.Proofs.Ytkjaaknlhmneoaa
