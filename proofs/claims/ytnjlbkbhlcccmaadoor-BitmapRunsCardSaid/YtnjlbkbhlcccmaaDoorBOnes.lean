import Derived.Test.YtnjlbkbhlcccmaaDoorBBase
import Derived.Test.YtnjlbkbhlcccmaaDoorBPop
import Derived.Laws.Bits128
namespace Go.Proofs.YtnjlbkbhlcccmaaDoor
open Go.RowKit
set_option linter.unusedVariables false

theorem wrapN (x : Nat) (h : x < 18446744073709551616) : IntKind.u64.wrap (x : Int) = (x : Int) := by rw [IntKind.wrap_u64]; omega

theorem ones_any (x : Nat) (hx : x < 18446744073709551616) (w : World) :
    Calls Tryd.prog 63 #[.int .u64 (x : Int)] w fun e w' => e = .returned (.int .i64 ((cnt x.testBit 64 : Nat) : Int)) ∧ w' = w := by
  obtain ⟨x1, x2, x3, h1, l1, h2, l2, l2', h3, l3, h4⟩ := pop64 x hx
  have and_lt : ∀ a b : Nat, b < 18446744073709551616 → a &&& b < 18446744073709551616 := fun a b hb => Nat.lt_of_le_of_lt Nat.and_le_right hb
  have k1 : IntKind.u64.wrap (bits BinOp.and IntKind.u64 ((x : Int) / 2) 6148914691236517205 + bits BinOp.and IntKind.u64 (x : Int) 6148914691236517205) = (x1 : Int) := by
    have e1 := bits_and_u64_nat (x / 2) 6148914691236517205 (by omega) (by decide)
    have e2 := bits_and_u64_nat x 6148914691236517205 hx (by decide)
    rw [Int.natCast_ediv] at e1
    simp only [Int.cast_ofNat_Int] at e1 e2
    rw [e1, e2, ← Int.natCast_add, h1, wrapN x1 l1]
  have k2 : IntKind.u64.wrap (bits BinOp.and IntKind.u64 ((x1 : Int) / 4) 3689348814741910323 + bits BinOp.and IntKind.u64 (x1 : Int) 3689348814741910323) = (x2 : Int) := by
    have e1 := bits_and_u64_nat (x1 / 4) 3689348814741910323 (by omega) (by decide)
    have e2 := bits_and_u64_nat x1 3689348814741910323 l1 (by decide)
    rw [Int.natCast_ediv] at e1
    simp only [Int.cast_ofNat_Int] at e1 e2
    rw [e1, e2, ← Int.natCast_add, h2, wrapN x2 l2]
  have k3 : bits BinOp.and IntKind.u64 ((x2 : Int) / 16 + (x2 : Int)) 1085102592571150095 = (x3 : Int) := by
    have e1 := bits_and_u64_nat (x2 / 16 + x2) 1085102592571150095 l2' (by decide)
    have e2 : (x2 : Int) / 16 + (x2 : Int) = ((x2 / 16 + x2 : Nat) : Int) := by omega
    rw [e2]
    simp only [Int.cast_ofNat_Int] at e1
    rw [e1, h3]
  obtain ⟨y1, hy1⟩ : ∃ y1, y1 = x3 + x3 / 256 := ⟨_, rfl⟩
  obtain ⟨y, hy⟩ : ∃ y, y = y1 + y1 / 65536 := ⟨_, rfl⟩
  rw [← hy1, ← hy] at h4
  have k4 : IntKind.u64.wrap ((x3 : Int) + (x3 : Int) / 256) = (y1 : Int) := by rw [IntKind.wrap_u64]; omega
  have k5 : IntKind.u64.wrap ((y1 : Int) + (y1 : Int) / 65536) = (y : Int) := by rw [IntKind.wrap_u64, hy]; omega
  have hy1l : y1 < 1152921504606846976 + 4503599627370496 := by omega
  have hyl : y < 2305843009213693952 := by omega
  obtain ⟨z, hz⟩ : ∃ z, z = y + y / 4294967296 := ⟨_, rfl⟩
  have k6 : IntKind.u64.wrap ((y : Int) + (y : Int) / 4294967296) = (z : Int) := by rw [IntKind.wrap_u64, hz]; omega
  rw [← hz] at h4
  have hzl : z < 4611686018427387904 := by omega
  have h16 := l2'
  clear h1 h2 h3 hy1 hy hz
  go_enter Tryd.func63, Tryd.ntmps63
  go_wp2

  go_ret
  refine ⟨congrArg Ending.returned (congrArg (Value.int IntKind.i64) ?_), rfl⟩
  rw [i64_and127, ← h4]
  omega
end Go.Proofs.YtnjlbkbhlcccmaaDoor
