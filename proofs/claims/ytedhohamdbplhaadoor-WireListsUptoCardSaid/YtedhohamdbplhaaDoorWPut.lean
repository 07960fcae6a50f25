import Derived.Test.YtedhohamdbplhaaDoorWApp
import Derived.Deep.RegionHeld3
import Derived.StillTailTactics
namespace Go.Proofs.YtedhohamdbplhaaDoor
open Go.RowKit
open Num
set_option linter.unusedVariables false

theorem shr_of {x n k : Nat} (h : k < n) : (x : Int) / (2 : Int) ^ ((8 * ((n : Int) - 1 - (k : Int))).toNat) = ((x / 256 ^ (n - 1 - k) : Nat) : Int) := by
  have : (8 * ((n : Int) - 1 - (k : Int))).toNat = 8 * (n - 1 - k) := by omega
  rw [this, Int.pow_mul]; rfl

set_option maxHeartbeats 1000000 in
theorem appendNumber_any (w : World) (base : Nat) (v : Value) (l : List Nat) (x n : Nat) (hx : x < 18446744073709551616) (hn : n ≤ 8) (ho : Own w base v l) (hbase : base ≤ w.heap.size) (hl : l.length + 8 ≤ 140737488355328) :
    Calls Tryd.prog 31 #[v, .int .u64 (x : Int), .int .i64 (n : Int)] w fun e w' => ∃ v', e = .returned v' ∧ Own w' base v' (l ++ be x n) ∧ Below base w w' ∧ base ≤ w'.heap.size := by
  have HO := hide ho
  clear ho
  go_enter Tryd.func31, Tryd.ntmps31
  go_wp2_with fail
  go_loopw [0, 9] (fun u i wr => ∃ k : Nat, k ≤ n ∧ i = .int .i64 k ∧ Own wr base u (l ++ (be x n).take k) ∧ Below base w wr ∧ base ≤ wr.heap.size) (fun _ i _ => n - (intOf i).toNat)
  case atStart => exact ⟨0, Nat.zero_le _, rfl, by simpa using HO.out, Below.refl _ _, hbase⟩
  case round =>
    obtain ⟨k, hk, rfl, hown, hbel, hsz⟩ := hrel
    by_cases hlt : k < n
    · have hs := shr_of (x := x) hlt
      have hlen : (l ++ (be x n).take k).length = l.length + k := by simp [be_len]; omega
      have HT := hide (be_take x n k hlt)
      have HW := hide hown
      clear hown
      have HB := hide (Nat.mod_lt (x / 256 ^ (n - 1 - k)) (show 256 > 0 by decide))
      generalize x / 256 ^ (n - 1 - k) = y at *
      go_wp2_with (at_builtin; refine wpList_app rfl (.tmp 12) (.tmp 21) rfl base _ _ _ [y % 256] rfl rfl ⟨HW.out.1.alloc _, HW.out.2⟩ (BSl.one _ HB.out _) (by simp; omega) (by simp; omega) ?_)
      intro v' w1 hown' hbl hb1 _
      have R : Own w1 base v' (l ++ (be x n).take (k + 1)) := by rw [HT.out]; exact hown'
      have RB : Below base w w1 := (hbel.alloc hsz _).trans hbl
      clear hown' hbl
      go_wp2
      go_roundw
      case rel => exact ⟨k + 1, by omega, by go_num, R, RB, hb1⟩
      case measure => simp [intOf]; omega
    · go_wp2
      go_ret
      obtain rfl : k = n := by omega
      exact ⟨_, rfl, by rwa [List.take_of_length_le (by rw [be_len]; exact Nat.le_refl _)] at hown, hbel, hsz⟩

theorem shr_of2 {x n k : Nat} (h : k < n) : (x : Int) / (2 : Int) ^ ((8 * ((n : Int) - 1 - (k : Int))).toNat) = ((x / 256 ^ (n - 1 - k) : Nat) : Int) := shr_of h

end Go.Proofs.YtedhohamdbplhaaDoor
