import Derived.Test.YtcjilmafdpnfeaaDoorWBlank2
namespace Go.Proofs.YtcjilmafdpnfeaaDoor
open Go.RowKit
set_option linter.unusedVariables false
set_option linter.unusedSimpArgs false
set_option maxRecDepth 20000

/-- why the bytes are not just one packet -/
def why (n at' : Nat) (stuck : Bool) : Nat := if stuck = true then (if at' = n then 71 else if at' = 0 then 74 else 75) else (if at' < n then 76 else 0)

set_option maxHeartbeats 1000000 in
theorem reason_any (w : World) (rb : Nat) (ba : Option Addr) (n cap at' : Nat) (stuck : Bool) (h0 : w.cell? ⟨rb, 0, none⟩ = some (.slice ba n cap)) (h1 : w.cell? ⟨rb, 1, none⟩ = some (.int .i64 (at' : Int))) (h2 : w.cell? ⟨rb, 2, none⟩ = some (.bool stuck)) (hn : n ≤ cap) (hc : cap ≤ maxLen) (ha : at' ≤ n) :
    Calls Tryd.prog 15 #[.pointer (some ⟨rb, 0, none⟩)] w fun e' w' => e' = .returned (.int .i64 (why n at' stuck : Nat)) ∧ Below w.heap.size w w' ∧ w'.heap = w.heap := by
  unfold maxLen at hc
  cases stuck with
  | true =>
    by_cases e1 : at' = n
    · rw [show why n at' true = 71 from by unfold why; simp [e1]]
      have b1 : ((at' : Int) == (n : Int)) = true := by simp [e1]
      go_enter Tryd.func15, Tryd.ntmps15
      go_wp2
      repeat (go_quiet (fail); go_wp2)
      go_ret
      exact ⟨rfl, by first | exact bel_drewN (Below.refl _ _) _ | exact bel_drewN (bel_drewN (Below.refl _ _) _) _, rfl⟩
    · by_cases e2 : at' = 0
      · rw [show why n at' true = 74 from by unfold why; simp [e2]; omega]
        have b1 : ((at' : Int) == (n : Int)) = false := by simp only [beq_eq_false_iff_ne]; omega
        have b2 : ((at' : Int) == 0) = true := by simp [e2]
        go_enter Tryd.func15, Tryd.ntmps15
        go_wp2
        repeat (go_quiet (fail); go_wp2)
        go_ret
        exact ⟨rfl, by first | exact bel_drewN (Below.refl _ _) _ | exact bel_drewN (bel_drewN (Below.refl _ _) _) _, rfl⟩
      · rw [show why n at' true = 75 from by unfold why; simp [e1, e2]]
        have b1 : ((at' : Int) == (n : Int)) = false := by simp only [beq_eq_false_iff_ne]; omega
        have b2 : ((at' : Int) == 0) = false := by simp only [beq_eq_false_iff_ne]; omega
        go_enter Tryd.func15, Tryd.ntmps15
        go_wp2
        repeat (go_quiet (fail); go_wp2)
        go_ret
        exact ⟨rfl, by first | exact bel_drewN (Below.refl _ _) _ | exact bel_drewN (bel_drewN (Below.refl _ _) _) _, rfl⟩
  | false =>
    by_cases e1 : at' < n
    · rw [show why n at' false = 76 from by unfold why; simp [e1]]
      go_enter Tryd.func15, Tryd.ntmps15
      go_wp2
      repeat (go_quiet (fail); go_wp2)
      go_ret
      exact ⟨rfl, by first | exact bel_drewN (Below.refl _ _) _ | exact bel_drewN (bel_drewN (Below.refl _ _) _) _, rfl⟩
    · rw [show why n at' false = 0 from by unfold why; simp [e1]]
      go_enter Tryd.func15, Tryd.ntmps15
      go_wp2
      repeat (go_quiet (fail); go_wp2)
      go_ret
      exact ⟨rfl, by first | exact bel_drewN (Below.refl _ _) _ | exact bel_drewN (bel_drewN (Below.refl _ _) _) _, rfl⟩
end Go.Proofs.YtcjilmafdpnfeaaDoor
