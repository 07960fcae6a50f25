import Derived.Test.YtbkcenpohcjgnabDoorByt
import Derived.Test.YtbkcenpohcjgnabDoorOddMath
namespace Go.Proofs.YtbkcenpohcjgnabDoor
open Go.RowKit
open Num
set_option linter.unusedVariables false
set_option linter.unusedSimpArgs false

set_option maxHeartbeats 1000000 in
theorem ones_any (v : Value) (l : List Nat) (w : World) (hv : BSl w v l) (hr : l.length ≤ 140737488355328) :
    Calls Tryd.prog 20 #[v] w fun e w' => e = .returned (.int .i64 (onesL l : Nat)) ∧ w' = w := by
  obtain ⟨a, cap, rfl, hl, hm, hn, hb, hcell⟩ := hv
  unfold maxLen at hm
  have HB : Hid (∀ b ∈ l, b < 256) := hb
  clear hb hn
  have HC : Hid (0 < l.length → ∃ b off, a = some ⟨b, off, none⟩ ∧ ∀ i, i < l.length → w.cell? ⟨b, off + i, none⟩ = some (.int .u8 (l.getD i 0 : Nat))) := hcell
  clear hcell
  go_enter Tryd.func20, Tryd.ntmps20
  go_wp2
  go_loop [3, 4] (fun t i => ∃ k : Nat, k ≤ l.length ∧ i = .int .i64 k ∧ t = .int .i64 (onesL (l.take k) : Nat)) (fun _ i => l.length - (intOf i).toNat)
  case atStart => exact ⟨0, Nat.zero_le _, rfl, rfl⟩
  case round =>
    obtain ⟨k, hk, rfl, rfl⟩ := hrel
    have HS : Hid (k < l.length → onesL (l.take (k + 1)) = onesL (l.take k) + bitsUp (l.getD k 0) 8) := by
      intro h; rw [take_snoc l 0 k h, onesL_append]; rfl
    have HE : Hid (¬ k < l.length → onesL l = onesL (l.take k)) := by
      intro h; rw [List.take_of_length_le (by omega)]
    have hy : onesL (l.take k) ≤ 8 * l.length := Nat.le_trans (onesL_le _) (by simp; omega)
    generalize onesL (l.take k) = y at *
    by_cases hlt : k < l.length
    · obtain ⟨b, off, rfl, hcell⟩ := HC.out (by omega)
      have hck := hcell k hlt
      have hx : l.getD k 0 < 256 := HB.out _ (mem_getD hlt)
      have HS' := hide (HS.out hlt)
      clear hcell HS HE HC
      generalize l.getD k 0 = x at *
      go_wp2
      go_loop [3, 5] (fun t i => ∃ j : Nat, j ≤ 8 ∧ i = .int .i64 j ∧ t = .int .i64 (y + bitsUp x j : Nat)) (fun _ i => 8 - (intOf i).toNat)
      case atStart => exact ⟨0, Nat.zero_le _, rfl, rfl⟩
      case round =>
        obtain ⟨j, hj, rfl, rfl⟩ := hrel
        have hub := bitsUp_le x j
        have HS2 : Hid (bitsUp x (j + 1) = bitsUp x j + x / 2 ^ j % 2) := rfl
        have HE2 : Hid (j = 8 → bitsUp x 8 = bitsUp x j) := by intro h; rw [h]
        have hmd : (x : Int) / 2 ^ j = ((x / 2 ^ j : Nat) : Int) := by rw [Int.natCast_ediv]; simp
        have hml : x / 2 ^ j < 256 := Nat.lt_of_le_of_lt (Nat.div_le_self _ _) hx
        have hand : bits BinOp.and IntKind.u8 ((x : Int) / 2 ^ j) 1 = ((x / 2 ^ j % 2 : Nat) : Int) := by
          rw [hmd, show (1 : Int) = ((1 : Nat) : Int) from rfl, u8_and_nat _ _ hml (by omega), Nat.and_one_is_mod]
        have hm2 : x / 2 ^ j % 2 < 2 := Nat.mod_lt _ (by omega)
        generalize x / 2 ^ j % 2 = bt at *
        generalize bitsUp x j = u at *
        clear hmd hml
        by_cases hlt8 : j < 8
        · go_wp2
          go_round
          case rel => exact ⟨j + 1, by omega, by go_num, by rw [HS2.out]; go_num⟩
          case measure => simp [intOf]; omega
        · go_wp2
          go_round
          case rel => exact ⟨k + 1, by omega, by go_num, by rw [HS'.out, HE2.out (by omega)]⟩
          case measure => simp [intOf]; omega
    · go_wp2
      go_ret
      refine ⟨?_, rfl⟩
      rw [HE.out hlt]; rfl
end Go.Proofs.YtbkcenpohcjgnabDoor
