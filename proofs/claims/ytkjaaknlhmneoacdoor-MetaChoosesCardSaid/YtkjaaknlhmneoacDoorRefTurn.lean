import Derived.Test.YtkjaaknlhmneoacDoorShaFn
namespace Go.Proofs.YtkjaaknlhmneoacDoor
open Go.RowKit
open Num
set_option linter.unusedVariables false

set_option maxHeartbeats 1000000 in
theorem turn_2 (x : Nat) (hx : x < 4294967296) (w : World) :
    Calls Tryd.prog 71 #[.int .u32 (x : Int), .int .u32 2] w fun e w' => e = .returned (.int .u32 (rot 2 x : Nat)) ∧ w' = w := by
  have h2 : bits BinOp.or IntKind.u32 ((x : Int) / 4) ((x : Int) * 1073741824 % 4294967296) = ((rot 2 x : Nat) : Int) := by
    have h := or_u32 (c := x / 4) (d := x * 1073741824 % 4294967296) (by omega) (by omega)
    have e1 : ((x * 1073741824 % 4294967296 : Nat) : Int) = (x : Int) * 1073741824 % 4294967296 := by omega
    have e2 : ((x / 4 : Nat) : Int) = (x : Int) / 4 := by omega
    rw [e1, e2, Nat.or_comm] at h
    exact h
  go_enter Tryd.func71, Tryd.ntmps71
  go_wp2
  go_ret
  exact ⟨rfl, rfl⟩

set_option maxHeartbeats 1000000 in
theorem turn_6 (x : Nat) (hx : x < 4294967296) (w : World) :
    Calls Tryd.prog 71 #[.int .u32 (x : Int), .int .u32 6] w fun e w' => e = .returned (.int .u32 (rot 6 x : Nat)) ∧ w' = w := by
  have h2 : bits BinOp.or IntKind.u32 ((x : Int) / 64) ((x : Int) * 67108864 % 4294967296) = ((rot 6 x : Nat) : Int) := by
    have h := or_u32 (c := x / 64) (d := x * 67108864 % 4294967296) (by omega) (by omega)
    have e1 : ((x * 67108864 % 4294967296 : Nat) : Int) = (x : Int) * 67108864 % 4294967296 := by omega
    have e2 : ((x / 64 : Nat) : Int) = (x : Int) / 64 := by omega
    rw [e1, e2, Nat.or_comm] at h
    exact h
  go_enter Tryd.func71, Tryd.ntmps71
  go_wp2
  go_ret
  exact ⟨rfl, rfl⟩

set_option maxHeartbeats 1000000 in
theorem turn_7 (x : Nat) (hx : x < 4294967296) (w : World) :
    Calls Tryd.prog 71 #[.int .u32 (x : Int), .int .u32 7] w fun e w' => e = .returned (.int .u32 (rot 7 x : Nat)) ∧ w' = w := by
  have h2 : bits BinOp.or IntKind.u32 ((x : Int) / 128) ((x : Int) * 33554432 % 4294967296) = ((rot 7 x : Nat) : Int) := by
    have h := or_u32 (c := x / 128) (d := x * 33554432 % 4294967296) (by omega) (by omega)
    have e1 : ((x * 33554432 % 4294967296 : Nat) : Int) = (x : Int) * 33554432 % 4294967296 := by omega
    have e2 : ((x / 128 : Nat) : Int) = (x : Int) / 128 := by omega
    rw [e1, e2, Nat.or_comm] at h
    exact h
  go_enter Tryd.func71, Tryd.ntmps71
  go_wp2
  go_ret
  exact ⟨rfl, rfl⟩

set_option maxHeartbeats 1000000 in
theorem turn_11 (x : Nat) (hx : x < 4294967296) (w : World) :
    Calls Tryd.prog 71 #[.int .u32 (x : Int), .int .u32 11] w fun e w' => e = .returned (.int .u32 (rot 11 x : Nat)) ∧ w' = w := by
  have h2 : bits BinOp.or IntKind.u32 ((x : Int) / 2048) ((x : Int) * 2097152 % 4294967296) = ((rot 11 x : Nat) : Int) := by
    have h := or_u32 (c := x / 2048) (d := x * 2097152 % 4294967296) (by omega) (by omega)
    have e1 : ((x * 2097152 % 4294967296 : Nat) : Int) = (x : Int) * 2097152 % 4294967296 := by omega
    have e2 : ((x / 2048 : Nat) : Int) = (x : Int) / 2048 := by omega
    rw [e1, e2, Nat.or_comm] at h
    exact h
  go_enter Tryd.func71, Tryd.ntmps71
  go_wp2
  go_ret
  exact ⟨rfl, rfl⟩

set_option maxHeartbeats 1000000 in
theorem turn_13 (x : Nat) (hx : x < 4294967296) (w : World) :
    Calls Tryd.prog 71 #[.int .u32 (x : Int), .int .u32 13] w fun e w' => e = .returned (.int .u32 (rot 13 x : Nat)) ∧ w' = w := by
  have h2 : bits BinOp.or IntKind.u32 ((x : Int) / 8192) ((x : Int) * 524288 % 4294967296) = ((rot 13 x : Nat) : Int) := by
    have h := or_u32 (c := x / 8192) (d := x * 524288 % 4294967296) (by omega) (by omega)
    have e1 : ((x * 524288 % 4294967296 : Nat) : Int) = (x : Int) * 524288 % 4294967296 := by omega
    have e2 : ((x / 8192 : Nat) : Int) = (x : Int) / 8192 := by omega
    rw [e1, e2, Nat.or_comm] at h
    exact h
  go_enter Tryd.func71, Tryd.ntmps71
  go_wp2
  go_ret
  exact ⟨rfl, rfl⟩

set_option maxHeartbeats 1000000 in
theorem turn_17 (x : Nat) (hx : x < 4294967296) (w : World) :
    Calls Tryd.prog 71 #[.int .u32 (x : Int), .int .u32 17] w fun e w' => e = .returned (.int .u32 (rot 17 x : Nat)) ∧ w' = w := by
  have h2 : bits BinOp.or IntKind.u32 ((x : Int) / 131072) ((x : Int) * 32768 % 4294967296) = ((rot 17 x : Nat) : Int) := by
    have h := or_u32 (c := x / 131072) (d := x * 32768 % 4294967296) (by omega) (by omega)
    have e1 : ((x * 32768 % 4294967296 : Nat) : Int) = (x : Int) * 32768 % 4294967296 := by omega
    have e2 : ((x / 131072 : Nat) : Int) = (x : Int) / 131072 := by omega
    rw [e1, e2, Nat.or_comm] at h
    exact h
  go_enter Tryd.func71, Tryd.ntmps71
  go_wp2
  go_ret
  exact ⟨rfl, rfl⟩

set_option maxHeartbeats 1000000 in
theorem turn_18 (x : Nat) (hx : x < 4294967296) (w : World) :
    Calls Tryd.prog 71 #[.int .u32 (x : Int), .int .u32 18] w fun e w' => e = .returned (.int .u32 (rot 18 x : Nat)) ∧ w' = w := by
  have h2 : bits BinOp.or IntKind.u32 ((x : Int) / 262144) ((x : Int) * 16384 % 4294967296) = ((rot 18 x : Nat) : Int) := by
    have h := or_u32 (c := x / 262144) (d := x * 16384 % 4294967296) (by omega) (by omega)
    have e1 : ((x * 16384 % 4294967296 : Nat) : Int) = (x : Int) * 16384 % 4294967296 := by omega
    have e2 : ((x / 262144 : Nat) : Int) = (x : Int) / 262144 := by omega
    rw [e1, e2, Nat.or_comm] at h
    exact h
  go_enter Tryd.func71, Tryd.ntmps71
  go_wp2
  go_ret
  exact ⟨rfl, rfl⟩

set_option maxHeartbeats 1000000 in
theorem turn_19 (x : Nat) (hx : x < 4294967296) (w : World) :
    Calls Tryd.prog 71 #[.int .u32 (x : Int), .int .u32 19] w fun e w' => e = .returned (.int .u32 (rot 19 x : Nat)) ∧ w' = w := by
  have h2 : bits BinOp.or IntKind.u32 ((x : Int) / 524288) ((x : Int) * 8192 % 4294967296) = ((rot 19 x : Nat) : Int) := by
    have h := or_u32 (c := x / 524288) (d := x * 8192 % 4294967296) (by omega) (by omega)
    have e1 : ((x * 8192 % 4294967296 : Nat) : Int) = (x : Int) * 8192 % 4294967296 := by omega
    have e2 : ((x / 524288 : Nat) : Int) = (x : Int) / 524288 := by omega
    rw [e1, e2, Nat.or_comm] at h
    exact h
  go_enter Tryd.func71, Tryd.ntmps71
  go_wp2
  go_ret
  exact ⟨rfl, rfl⟩

set_option maxHeartbeats 1000000 in
theorem turn_22 (x : Nat) (hx : x < 4294967296) (w : World) :
    Calls Tryd.prog 71 #[.int .u32 (x : Int), .int .u32 22] w fun e w' => e = .returned (.int .u32 (rot 22 x : Nat)) ∧ w' = w := by
  have h2 : bits BinOp.or IntKind.u32 ((x : Int) / 4194304) ((x : Int) * 1024 % 4294967296) = ((rot 22 x : Nat) : Int) := by
    have h := or_u32 (c := x / 4194304) (d := x * 1024 % 4294967296) (by omega) (by omega)
    have e1 : ((x * 1024 % 4294967296 : Nat) : Int) = (x : Int) * 1024 % 4294967296 := by omega
    have e2 : ((x / 4194304 : Nat) : Int) = (x : Int) / 4194304 := by omega
    rw [e1, e2, Nat.or_comm] at h
    exact h
  go_enter Tryd.func71, Tryd.ntmps71
  go_wp2
  go_ret
  exact ⟨rfl, rfl⟩

set_option maxHeartbeats 1000000 in
theorem turn_25 (x : Nat) (hx : x < 4294967296) (w : World) :
    Calls Tryd.prog 71 #[.int .u32 (x : Int), .int .u32 25] w fun e w' => e = .returned (.int .u32 (rot 25 x : Nat)) ∧ w' = w := by
  have h2 : bits BinOp.or IntKind.u32 ((x : Int) / 33554432) ((x : Int) * 128 % 4294967296) = ((rot 25 x : Nat) : Int) := by
    have h := or_u32 (c := x / 33554432) (d := x * 128 % 4294967296) (by omega) (by omega)
    have e1 : ((x * 128 % 4294967296 : Nat) : Int) = (x : Int) * 128 % 4294967296 := by omega
    have e2 : ((x / 33554432 : Nat) : Int) = (x : Int) / 33554432 := by omega
    rw [e1, e2, Nat.or_comm] at h
    exact h
  go_enter Tryd.func71, Tryd.ntmps71
  go_wp2
  go_ret
  exact ⟨rfl, rfl⟩
end Go.Proofs.YtkjaaknlhmneoacDoor
