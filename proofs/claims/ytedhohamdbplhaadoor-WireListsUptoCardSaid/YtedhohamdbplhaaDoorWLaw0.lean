import Derived.Test.YtedhohamdbplhaaDoorWRefG
namespace Go.Proofs.YtedhohamdbplhaaDoor
open Go.RowKit
open Num
set_option linter.unusedVariables false
set_option linter.unusedSimpArgs false

theorem num_any (w : World) (x : Int) : Calls Tryd.prog 10 #[.int .i64 x] w fun e w' => e = .returned (.int .i64 x) ∧ w' = w := by
  go_enter Tryd.func10, Tryd.ntmps10
  go_wp2
  go_ret
  exact ⟨rfl, rfl⟩

set_option maxHeartbeats 1000000 in
theorem sameFrame_eq (w : World) (k : Int) (a b c d : Nat) (v1 v2 : Value) (l : List Nat) (h1 : BSl w v1 l) (h2 : BSl w v2 l) :
    Calls Tryd.prog 16 #[frV k a b c d v1, frV k a b c d v2] w fun e w' => e = .returned (.bool true) ∧ Below w.heap.size w w' := by
  unfold frV
  have HB := fun o1 o2 => (((Below.refl w.heap.size w).alloc (Nat.le_refl _) o1).alloc (by simp) o2)
  have HS := hide fun o1 o2 => same_eq v1 v2 l _ (h1.below (HB o1 o2)) (h2.below (HB o1 o2))
  have HBB := hide HB
  clear HB
  obtain ⟨pa, pcap, rfl, hl1, hl2, hl3, _, _⟩ := id h1
  obtain ⟨pa2, pcap2, rfl, hl1', hl2', hl3', _, _⟩ := id h2
  unfold maxLen at hl2 hl2'
  clear h1 h2 hl3 hl3'
  rename_i dead1 dead2 dead3 dead4
  clear dead1 dead2 dead3 dead4
  go_enter Tryd.func16, Tryd.ntmps16
  go_wp2_with (go_at_call 19; refine (HS.out _ _).mono ?_; rintro e w' ⟨rfl, n, rfl⟩)
  go_ret
  exact ⟨rfl, below_drewN (HBB.out _ _) n⟩
end Go.Proofs.YtedhohamdbplhaaDoor
