import Derived.Test.YtepgiomgkgfioaaDoorByt
import Derived.Test.YtepgiomgkgfioaaDoorSha
namespace Go.Proofs.YtepgiomgkgfioaaDoor
open Go.RowKit
open Num
set_option linter.unusedVariables false

theorem or_u32 {c d : Nat} (hc : c < 4294967296) (hd : d < 4294967296) : bits BinOp.or IntKind.u32 (c : Int) (d : Int) = (c ||| d : Nat) := u32_or_nat c d hc hd
theorem and_u32 {c d : Nat} (hc : c < 4294967296) (hd : d < 4294967296) : bits BinOp.and IntKind.u32 (c : Int) (d : Int) = (c &&& d : Nat) := u32_and_nat c d hc hd

set_option maxHeartbeats 1000000 in
theorem rotr_2 (x : Nat) (hx : x < 4294967296) (w : World) :
    Calls Tryd.prog 57 #[.int .u32 (x : Int), .int .i64 2] w fun e w' => e = .returned (.int .u32 (rot 2 x : Nat)) ∧ w' = w := by
  have h1 : bits BinOp.and IntKind.u64 (IntKind.u64.wrap (-2)) 31 = 30 := by decide +kernel
  have h2 : bits BinOp.or IntKind.u32 ((x : Int) * 1073741824 % 4294967296) ((x : Int) / 4) = ((rot 2 x : Nat) : Int) := by
    have h := or_u32 (c := x * 1073741824 % 4294967296) (d := x / 4) (by omega) (by omega)
    have e1 : ((x * 1073741824 % 4294967296 : Nat) : Int) = (x : Int) * 1073741824 % 4294967296 := by omega
    have e2 : ((x / 4 : Nat) : Int) = (x : Int) / 4 := by omega
    rw [e1, e2] at h
    exact h
  go_enter Tryd.func57, Tryd.ntmps57
  go_wp2
  go_ret
  exact ⟨rfl, rfl⟩

set_option maxHeartbeats 1000000 in
theorem rotr_6 (x : Nat) (hx : x < 4294967296) (w : World) :
    Calls Tryd.prog 57 #[.int .u32 (x : Int), .int .i64 6] w fun e w' => e = .returned (.int .u32 (rot 6 x : Nat)) ∧ w' = w := by
  have h1 : bits BinOp.and IntKind.u64 (IntKind.u64.wrap (-6)) 31 = 26 := by decide +kernel
  have h2 : bits BinOp.or IntKind.u32 ((x : Int) * 67108864 % 4294967296) ((x : Int) / 64) = ((rot 6 x : Nat) : Int) := by
    have h := or_u32 (c := x * 67108864 % 4294967296) (d := x / 64) (by omega) (by omega)
    have e1 : ((x * 67108864 % 4294967296 : Nat) : Int) = (x : Int) * 67108864 % 4294967296 := by omega
    have e2 : ((x / 64 : Nat) : Int) = (x : Int) / 64 := by omega
    rw [e1, e2] at h
    exact h
  go_enter Tryd.func57, Tryd.ntmps57
  go_wp2
  go_ret
  exact ⟨rfl, rfl⟩

set_option maxHeartbeats 1000000 in
theorem rotr_7 (x : Nat) (hx : x < 4294967296) (w : World) :
    Calls Tryd.prog 57 #[.int .u32 (x : Int), .int .i64 7] w fun e w' => e = .returned (.int .u32 (rot 7 x : Nat)) ∧ w' = w := by
  have h1 : bits BinOp.and IntKind.u64 (IntKind.u64.wrap (-7)) 31 = 25 := by decide +kernel
  have h2 : bits BinOp.or IntKind.u32 ((x : Int) * 33554432 % 4294967296) ((x : Int) / 128) = ((rot 7 x : Nat) : Int) := by
    have h := or_u32 (c := x * 33554432 % 4294967296) (d := x / 128) (by omega) (by omega)
    have e1 : ((x * 33554432 % 4294967296 : Nat) : Int) = (x : Int) * 33554432 % 4294967296 := by omega
    have e2 : ((x / 128 : Nat) : Int) = (x : Int) / 128 := by omega
    rw [e1, e2] at h
    exact h
  go_enter Tryd.func57, Tryd.ntmps57
  go_wp2
  go_ret
  exact ⟨rfl, rfl⟩

set_option maxHeartbeats 1000000 in
theorem rotr_11 (x : Nat) (hx : x < 4294967296) (w : World) :
    Calls Tryd.prog 57 #[.int .u32 (x : Int), .int .i64 11] w fun e w' => e = .returned (.int .u32 (rot 11 x : Nat)) ∧ w' = w := by
  have h1 : bits BinOp.and IntKind.u64 (IntKind.u64.wrap (-11)) 31 = 21 := by decide +kernel
  have h2 : bits BinOp.or IntKind.u32 ((x : Int) * 2097152 % 4294967296) ((x : Int) / 2048) = ((rot 11 x : Nat) : Int) := by
    have h := or_u32 (c := x * 2097152 % 4294967296) (d := x / 2048) (by omega) (by omega)
    have e1 : ((x * 2097152 % 4294967296 : Nat) : Int) = (x : Int) * 2097152 % 4294967296 := by omega
    have e2 : ((x / 2048 : Nat) : Int) = (x : Int) / 2048 := by omega
    rw [e1, e2] at h
    exact h
  go_enter Tryd.func57, Tryd.ntmps57
  go_wp2
  go_ret
  exact ⟨rfl, rfl⟩

set_option maxHeartbeats 1000000 in
theorem rotr_13 (x : Nat) (hx : x < 4294967296) (w : World) :
    Calls Tryd.prog 57 #[.int .u32 (x : Int), .int .i64 13] w fun e w' => e = .returned (.int .u32 (rot 13 x : Nat)) ∧ w' = w := by
  have h1 : bits BinOp.and IntKind.u64 (IntKind.u64.wrap (-13)) 31 = 19 := by decide +kernel
  have h2 : bits BinOp.or IntKind.u32 ((x : Int) * 524288 % 4294967296) ((x : Int) / 8192) = ((rot 13 x : Nat) : Int) := by
    have h := or_u32 (c := x * 524288 % 4294967296) (d := x / 8192) (by omega) (by omega)
    have e1 : ((x * 524288 % 4294967296 : Nat) : Int) = (x : Int) * 524288 % 4294967296 := by omega
    have e2 : ((x / 8192 : Nat) : Int) = (x : Int) / 8192 := by omega
    rw [e1, e2] at h
    exact h
  go_enter Tryd.func57, Tryd.ntmps57
  go_wp2
  go_ret
  exact ⟨rfl, rfl⟩

set_option maxHeartbeats 1000000 in
theorem rotr_17 (x : Nat) (hx : x < 4294967296) (w : World) :
    Calls Tryd.prog 57 #[.int .u32 (x : Int), .int .i64 17] w fun e w' => e = .returned (.int .u32 (rot 17 x : Nat)) ∧ w' = w := by
  have h1 : bits BinOp.and IntKind.u64 (IntKind.u64.wrap (-17)) 31 = 15 := by decide +kernel
  have h2 : bits BinOp.or IntKind.u32 ((x : Int) * 32768 % 4294967296) ((x : Int) / 131072) = ((rot 17 x : Nat) : Int) := by
    have h := or_u32 (c := x * 32768 % 4294967296) (d := x / 131072) (by omega) (by omega)
    have e1 : ((x * 32768 % 4294967296 : Nat) : Int) = (x : Int) * 32768 % 4294967296 := by omega
    have e2 : ((x / 131072 : Nat) : Int) = (x : Int) / 131072 := by omega
    rw [e1, e2] at h
    exact h
  go_enter Tryd.func57, Tryd.ntmps57
  go_wp2
  go_ret
  exact ⟨rfl, rfl⟩

set_option maxHeartbeats 1000000 in
theorem rotr_18 (x : Nat) (hx : x < 4294967296) (w : World) :
    Calls Tryd.prog 57 #[.int .u32 (x : Int), .int .i64 18] w fun e w' => e = .returned (.int .u32 (rot 18 x : Nat)) ∧ w' = w := by
  have h1 : bits BinOp.and IntKind.u64 (IntKind.u64.wrap (-18)) 31 = 14 := by decide +kernel
  have h2 : bits BinOp.or IntKind.u32 ((x : Int) * 16384 % 4294967296) ((x : Int) / 262144) = ((rot 18 x : Nat) : Int) := by
    have h := or_u32 (c := x * 16384 % 4294967296) (d := x / 262144) (by omega) (by omega)
    have e1 : ((x * 16384 % 4294967296 : Nat) : Int) = (x : Int) * 16384 % 4294967296 := by omega
    have e2 : ((x / 262144 : Nat) : Int) = (x : Int) / 262144 := by omega
    rw [e1, e2] at h
    exact h
  go_enter Tryd.func57, Tryd.ntmps57
  go_wp2
  go_ret
  exact ⟨rfl, rfl⟩

set_option maxHeartbeats 1000000 in
theorem rotr_19 (x : Nat) (hx : x < 4294967296) (w : World) :
    Calls Tryd.prog 57 #[.int .u32 (x : Int), .int .i64 19] w fun e w' => e = .returned (.int .u32 (rot 19 x : Nat)) ∧ w' = w := by
  have h1 : bits BinOp.and IntKind.u64 (IntKind.u64.wrap (-19)) 31 = 13 := by decide +kernel
  have h2 : bits BinOp.or IntKind.u32 ((x : Int) * 8192 % 4294967296) ((x : Int) / 524288) = ((rot 19 x : Nat) : Int) := by
    have h := or_u32 (c := x * 8192 % 4294967296) (d := x / 524288) (by omega) (by omega)
    have e1 : ((x * 8192 % 4294967296 : Nat) : Int) = (x : Int) * 8192 % 4294967296 := by omega
    have e2 : ((x / 524288 : Nat) : Int) = (x : Int) / 524288 := by omega
    rw [e1, e2] at h
    exact h
  go_enter Tryd.func57, Tryd.ntmps57
  go_wp2
  go_ret
  exact ⟨rfl, rfl⟩

set_option maxHeartbeats 1000000 in
theorem rotr_22 (x : Nat) (hx : x < 4294967296) (w : World) :
    Calls Tryd.prog 57 #[.int .u32 (x : Int), .int .i64 22] w fun e w' => e = .returned (.int .u32 (rot 22 x : Nat)) ∧ w' = w := by
  have h1 : bits BinOp.and IntKind.u64 (IntKind.u64.wrap (-22)) 31 = 10 := by decide +kernel
  have h2 : bits BinOp.or IntKind.u32 ((x : Int) * 1024 % 4294967296) ((x : Int) / 4194304) = ((rot 22 x : Nat) : Int) := by
    have h := or_u32 (c := x * 1024 % 4294967296) (d := x / 4194304) (by omega) (by omega)
    have e1 : ((x * 1024 % 4294967296 : Nat) : Int) = (x : Int) * 1024 % 4294967296 := by omega
    have e2 : ((x / 4194304 : Nat) : Int) = (x : Int) / 4194304 := by omega
    rw [e1, e2] at h
    exact h
  go_enter Tryd.func57, Tryd.ntmps57
  go_wp2
  go_ret
  exact ⟨rfl, rfl⟩

set_option maxHeartbeats 1000000 in
theorem rotr_25 (x : Nat) (hx : x < 4294967296) (w : World) :
    Calls Tryd.prog 57 #[.int .u32 (x : Int), .int .i64 25] w fun e w' => e = .returned (.int .u32 (rot 25 x : Nat)) ∧ w' = w := by
  have h1 : bits BinOp.and IntKind.u64 (IntKind.u64.wrap (-25)) 31 = 7 := by decide +kernel
  have h2 : bits BinOp.or IntKind.u32 ((x : Int) * 128 % 4294967296) ((x : Int) / 33554432) = ((rot 25 x : Nat) : Int) := by
    have h := or_u32 (c := x * 128 % 4294967296) (d := x / 33554432) (by omega) (by omega)
    have e1 : ((x * 128 % 4294967296 : Nat) : Int) = (x : Int) * 128 % 4294967296 := by omega
    have e2 : ((x / 33554432 : Nat) : Int) = (x : Int) / 33554432 := by omega
    rw [e1, e2] at h
    exact h
  go_enter Tryd.func57, Tryd.ntmps57
  go_wp2
  go_ret
  exact ⟨rfl, rfl⟩

set_option maxHeartbeats 1000000 in
theorem sSig0_any (x : Nat) (hx : x < 4294967296) (w : World) :
    Calls Tryd.prog 56 #[.int .u32 (x : Int)] w fun e w' => e = .returned (.int .u32 (sSig0 x : Nat)) ∧ w' = w := by
  have r1 := rot_lt (n := 7) hx
  have r2 := rot_lt (n := 18) hx
  have h1 := xor_u32 r1 r2
  have r3 := xor_lt r1 r2
  have h2 : bits BinOp.xor IntKind.u32 ((rot 7 x ^^^ rot 18 x : Nat) : Int) ((x : Int) / 8) = ((sSig0 x : Nat) : Int) := by
    have h := xor_u32 r3 (show x / 8 < 4294967296 by omega)
    rw [show ((x / 8 : Nat) : Int) = (x : Int) / 8 from by omega] at h
    exact h
  clear r1 r2 r3
  go_enter Tryd.func56, Tryd.ntmps56
  go_wp2_with fail
  refine (rotr_7 x hx _).mono ?_
  rintro e w' ⟨rfl, rfl⟩
  go_wp2_with fail
  refine (rotr_18 x hx _).mono ?_
  rintro e w' ⟨rfl, rfl⟩
  go_wp2
  go_ret
  exact ⟨rfl, rfl⟩

set_option maxHeartbeats 1000000 in
theorem sSig1_any (x : Nat) (hx : x < 4294967296) (w : World) :
    Calls Tryd.prog 55 #[.int .u32 (x : Int)] w fun e w' => e = .returned (.int .u32 (sSig1 x : Nat)) ∧ w' = w := by
  have r1 := rot_lt (n := 17) hx
  have r2 := rot_lt (n := 19) hx
  have h1 := xor_u32 r1 r2
  have r3 := xor_lt r1 r2
  have h2 : bits BinOp.xor IntKind.u32 ((rot 17 x ^^^ rot 19 x : Nat) : Int) ((x : Int) / 1024) = ((sSig1 x : Nat) : Int) := by
    have h := xor_u32 r3 (show x / 1024 < 4294967296 by omega)
    rw [show ((x / 1024 : Nat) : Int) = (x : Int) / 1024 from by omega] at h
    exact h
  clear r1 r2 r3
  go_enter Tryd.func55, Tryd.ntmps55
  go_wp2_with fail
  refine (rotr_17 x hx _).mono ?_
  rintro e w' ⟨rfl, rfl⟩
  go_wp2_with fail
  refine (rotr_19 x hx _).mono ?_
  rintro e w' ⟨rfl, rfl⟩
  go_wp2
  go_ret
  exact ⟨rfl, rfl⟩

set_option maxHeartbeats 1000000 in
theorem bSig0_any (x : Nat) (hx : x < 4294967296) (w : World) :
    Calls Tryd.prog 49 #[.int .u32 (x : Int)] w fun e w' => e = .returned (.int .u32 (bSig0 x : Nat)) ∧ w' = w := by
  have r1 := rot_lt (n := 2) hx
  have r2 := rot_lt (n := 13) hx
  have h1 := xor_u32 r1 r2
  have r3 := xor_lt r1 r2
  have r4 := rot_lt (n := 22) hx
  have h2 : bits BinOp.xor IntKind.u32 ((rot 2 x ^^^ rot 13 x : Nat) : Int) ((rot 22 x : Nat) : Int) = ((bSig0 x : Nat) : Int) := xor_u32 r3 r4
  clear r1 r2 r3
  go_enter Tryd.func49, Tryd.ntmps49
  go_wp2_with fail
  refine (rotr_2 x hx _).mono ?_
  rintro e w' ⟨rfl, rfl⟩
  go_wp2_with fail
  refine (rotr_13 x hx _).mono ?_
  rintro e w' ⟨rfl, rfl⟩
  go_wp2_with fail
  refine (rotr_22 x hx _).mono ?_
  rintro e w' ⟨rfl, rfl⟩
  go_wp2
  go_ret
  exact ⟨rfl, rfl⟩

set_option maxHeartbeats 1000000 in
theorem bSig1_any (x : Nat) (hx : x < 4294967296) (w : World) :
    Calls Tryd.prog 47 #[.int .u32 (x : Int)] w fun e w' => e = .returned (.int .u32 (bSig1 x : Nat)) ∧ w' = w := by
  have r1 := rot_lt (n := 6) hx
  have r2 := rot_lt (n := 11) hx
  have h1 := xor_u32 r1 r2
  have r3 := xor_lt r1 r2
  have r4 := rot_lt (n := 25) hx
  have h2 : bits BinOp.xor IntKind.u32 ((rot 6 x ^^^ rot 11 x : Nat) : Int) ((rot 25 x : Nat) : Int) = ((bSig1 x : Nat) : Int) := xor_u32 r3 r4
  clear r1 r2 r3
  go_enter Tryd.func47, Tryd.ntmps47
  go_wp2_with fail
  refine (rotr_6 x hx _).mono ?_
  rintro e w' ⟨rfl, rfl⟩
  go_wp2_with fail
  refine (rotr_11 x hx _).mono ?_
  rintro e w' ⟨rfl, rfl⟩
  go_wp2_with fail
  refine (rotr_25 x hx _).mono ?_
  rintro e w' ⟨rfl, rfl⟩
  go_wp2
  go_ret
  exact ⟨rfl, rfl⟩

set_option maxHeartbeats 1000000 in
theorem chs_any (x y z : Nat) (hx : x < 4294967296) (hy : y < 4294967296) (hz : z < 4294967296) (w : World) :
    Calls Tryd.prog 48 #[.int .u32 (x : Int), .int .u32 (y : Int), .int .u32 (z : Int)] w fun e w' => e = .returned (.int .u32 (chs x y z : Nat)) ∧ w' = w := by
  have h1 := and_u32 hx hy
  have h2 := not_u32 hx
  have h3 := and_u32 (xor_ones_lt hx) hz
  have h4 : bits BinOp.xor IntKind.u32 ((x &&& y : Nat) : Int) (((x ^^^ 4294967295) &&& z : Nat) : Int) = ((chs x y z : Nat) : Int) := xor_u32 (and_lt hx) (and_lt (xor_ones_lt hx))
  go_enter Tryd.func48, Tryd.ntmps48
  go_wp2
  go_ret
  exact ⟨rfl, rfl⟩

set_option maxHeartbeats 1000000 in
theorem maj_any (x y z : Nat) (hx : x < 4294967296) (hy : y < 4294967296) (hz : z < 4294967296) (w : World) :
    Calls Tryd.prog 50 #[.int .u32 (x : Int), .int .u32 (y : Int), .int .u32 (z : Int)] w fun e w' => e = .returned (.int .u32 (maj x y z : Nat)) ∧ w' = w := by
  have h1 := and_u32 hx hy
  have h2 := and_u32 hx hz
  have h3 := and_u32 hy hz
  have h4 := xor_u32 (and_lt (y := y) hx) (and_lt (y := z) hx)
  have h5 : bits BinOp.xor IntKind.u32 (((x &&& y) ^^^ (x &&& z) : Nat) : Int) ((y &&& z : Nat) : Int) = ((maj x y z : Nat) : Int) := xor_u32 (xor_lt (and_lt hx) (and_lt hx)) (and_lt hy)
  go_enter Tryd.func50, Tryd.ntmps50
  go_wp2
  go_ret
  exact ⟨rfl, rfl⟩
end Go.Proofs.YtepgiomgkgfioaaDoor
