import Derived.Test.YtedhohamdbplhaaDoorWPut
import Derived.Test.YtedhohamdbplhaaDoorRefCrc
namespace Go.Proofs.YtedhohamdbplhaaDoor
open Go.RowKit
open Num
set_option linter.unusedVariables false
set_option linter.unusedSimpArgs false

theorem ferr_74 {k : Int} {n : Nat} (h : k < 1 ∨ 4 < k) : ferr k n = 74 := by unfold ferr; rw [if_pos h]
theorem ferr_75 {k : Int} {n : Nat} (h : 1 ≤ k ∧ k ≤ 4) (h2 : (k = 2 ∧ n = 0) ∨ (k ≠ 2 ∧ 0 < n) ∨ 2048 < n) : ferr k n = 75 := by unfold ferr; rw [if_neg (by omega), if_pos h2]
theorem ferr_0 {k : Int} {n : Nat} (h : 1 ≤ k ∧ k ≤ 4) (h2 : ¬ ((k = 2 ∧ n = 0) ∨ (k ≠ 2 ∧ 0 < n) ∨ 2048 < n)) : ferr k n = 0 := by unfold ferr; rw [if_neg (by omega), if_neg h2]
theorem ret_err {a b : Nat} (h : b = a) : Ending.returned (.int .i64 (a : Int)) = .returned (.int .i64 (b : Int)) := by rw [h]

set_option maxHeartbeats 1000000 in
theorem checkHead_any (w : World) (k : Int) (n : Nat) (hk : -9223372036854775808 ≤ k ∧ k ≤ 9223372036854775807) (hn : n ≤ 281474976710656) :
    Calls Tryd.prog 30 #[.int .i64 k, .int .i64 (n : Int)] w fun e w' => e = .returned (.int .i64 (ferr k n : Nat)) ∧ w' = w := by
  by_cases h1 : k < 1 ∨ 4 < k
  · have HE := hide (ferr_74 (n := n) h1)
    generalize ferr k n = q at *
    by_cases h2 : k < 1
    · go_enter Tryd.func30, Tryd.ntmps30
      go_wp2
      go_ret
      exact ⟨ret_err HE.out, rfl⟩
    · go_enter Tryd.func30, Tryd.ntmps30
      go_wp2
      go_ret
      exact ⟨ret_err HE.out, rfl⟩
  · by_cases h2 : (k = 2 ∧ n = 0) ∨ (k ≠ 2 ∧ 0 < n) ∨ 2048 < n
    · have HE := hide (ferr_75 (by omega) h2)
      generalize ferr k n = q at *
      have h3 : ¬ k < 1 := by omega
      have h4 : ¬ 4 < k := by omega
      clear h1
      by_cases h5 : k = 2
      · by_cases h6 : 0 < n
        · go_enter Tryd.func30, Tryd.ntmps30
          go_wp2
          go_ret
          exact ⟨ret_err HE.out, rfl⟩
        · go_enter Tryd.func30, Tryd.ntmps30
          go_wp2
          go_ret
          exact ⟨ret_err HE.out, rfl⟩
      · by_cases h6 : 0 < n
        · go_enter Tryd.func30, Tryd.ntmps30
          go_wp2
          go_ret
          exact ⟨ret_err HE.out, rfl⟩
        · exact absurd h2 (by omega)
    · have HE := hide (ferr_0 (by omega) h2)
      generalize ferr k n = q at *
      have h3 : ¬ k < 1 := by omega
      have h4 : ¬ 4 < k := by omega
      clear h1
      by_cases h5 : k = 2
      · have h6 : 0 < n := by omega
        go_enter Tryd.func30, Tryd.ntmps30
        go_wp2
        go_ret
        exact ⟨ret_err HE.out, rfl⟩
      · have h6 : ¬ 0 < n := by omega
        have h7 : (k == 2) = false := by simp [h5]
        have h8 : ¬ 2048 < n := by omega
        clear h2
        go_enter Tryd.func30, Tryd.ntmps30
        go_wp2
        go_ret
        exact ⟨ret_err HE.out, rfl⟩

/-- 'wrong': must such a frame be refused? -/
def wro (k : Int) (n : Nat) : Bool := decide ((k = 2 ∧ n = 0) ∨ (k ≠ 2 ∧ 0 < n) ∨ 2048 < n)

theorem BSl.four0 {w : World} (t : TypeId) : BSl (w.alloc (.cells #[.int .u8 0, .int .u8 0, .int .u8 0, .int .u8 0] t)) (.slice (some ⟨w.heap.size, 0, none⟩) 4 4) [0, 0, 0, 0] := by
  refine ⟨_, 4, rfl, Nat.le_refl _, by decide, by simp, by simp, fun _ => ⟨_, 0, rfl, fun i hi => ?_⟩⟩
  have hi : i < 4 := hi
  rw [cell_of_row _ _ _ _ _ _ (Go.heap_alloc_new w _)]
  obtain rfl | rfl | rfl | rfl : i = 0 ∨ i = 1 ∨ i = 2 ∨ i = 3 := by omega
  all_goals rfl

set_option maxHeartbeats 1000000 in
theorem frameSum_any (w : World) (vh vp : Value) (h p : List Nat) (hh : BSl w vh h) (hp : BSl w vp p) :
    Calls Tryd.prog 32 #[vh, vp] w fun e w' => e = .returned (.int .u32 (crcM (crcM (crcM 0 h) [0, 0, 0, 0]) p : Nat)) ∧ Below w.heap.size w w' := by
  have HB := hide ((Below.refl w.heap.size w).alloc (Nat.le_refl _) (.cells #[.int .u8 0, .int .u8 0, .int .u8 0, .int .u8 0] 110))
  have HC : Hid (∀ n, Calls Tryd.prog 46 #[vh] ((w.alloc (.cells #[.int .u8 0, .int .u8 0, .int .u8 0, .int .u8 0] 110)).drewN n) fun e w' => e = .returned (.int .u32 (crcM 0 h : Nat)) ∧ w' = (w.alloc (.cells #[.int .u8 0, .int .u8 0, .int .u8 0, .int .u8 0] 110)).drewN n) := hide fun n => crc_any vh h _ ((hh.below HB.out).drewN n)
  have hc0 : crcM 0 h < 4294967296 := crcM_lt _ (by decide) hh.bytes
  have HD : Hid (∀ n, Calls Tryd.prog 45 #[.int .u32 (crcM 0 h : Nat), .slice (some ⟨w.heap.size, 0, none⟩) 4 4] ((w.alloc (.cells #[.int .u8 0, .int .u8 0, .int .u8 0, .int .u8 0] 110)).drewN n) fun e w' => e = .returned (.int .u32 (crcM (crcM 0 h) [0, 0, 0, 0] : Nat)) ∧ w' = (w.alloc (.cells #[.int .u8 0, .int .u8 0, .int .u8 0, .int .u8 0] 110)).drewN n) := hide fun n => crcMore_any _ hc0 _ [0, 0, 0, 0] _ ((BSl.four0 _).drewN n)
  have hc1 : crcM (crcM 0 h) [0, 0, 0, 0] < 4294967296 := crcM_lt _ hc0 (by simp)
  have HE : Hid (∀ n, Calls Tryd.prog 45 #[.int .u32 (crcM (crcM 0 h) [0, 0, 0, 0] : Nat), vp] ((w.alloc (.cells #[.int .u8 0, .int .u8 0, .int .u8 0, .int .u8 0] 110)).drewN n) fun e w' => e = .returned (.int .u32 (crcM (crcM (crcM 0 h) [0, 0, 0, 0]) p : Nat)) ∧ w' = (w.alloc (.cells #[.int .u8 0, .int .u8 0, .int .u8 0, .int .u8 0] 110)).drewN n) := hide fun n => crcMore_any _ hc1 vp p _ ((hp.below HB.out).drewN n)
  clear hh hp
  generalize crcM (crcM (crcM 0 h) [0, 0, 0, 0]) p = z3 at *
  generalize crcM (crcM 0 h) [0, 0, 0, 0] = z2 at *
  generalize crcM 0 h = z1 at *
  go_enter Tryd.func32, Tryd.ntmps32
  go_wp2_with fail
  go_region_held3 (fun _ => True) (trivial)
    ((first
      | (go_at_call 46; refine (HC.out 1).mono ?_; rintro e w' ⟨rfl, rfl⟩; clear HC)
      | (go_at_call 45; refine (HD.out 1).mono ?_; rintro e w' ⟨rfl, rfl⟩; clear HD)
      | (go_at_call 45; refine (HE.out 1).mono ?_; rintro e w' ⟨rfl, rfl⟩; clear HE)))
  all_goals
    go_wp2_with fail
    go_ret
    exact ⟨rfl, Below.drew HB.out⟩
end Go.Proofs.YtedhohamdbplhaaDoor
