import Derived.Test.YtcjilmafdpnfeaaDoorRows
import Derived.Test.YtcjilmafdpnfeaaDoorNum
import Derived.WalkKit
import Derived.WalkSpells
import Derived.WalkLawsBesides
import Derived.Laws.BitsAllLaws
import Derived.BigQuiet
import Derived.Deep.QuietTactic
namespace Go.Proofs.YtcjilmafdpnfeaaDoor
open Go.RowKit
open Num

/-- A slice of bytes that reads as the list l. -/
def BSl (w : World) (v : Value) (l : List Nat) : Prop :=
  ∃ a cap, v = .slice a l.length cap ∧ l.length ≤ cap ∧ cap ≤ maxLen ∧ (a = none → cap = 0) ∧ (∀ b ∈ l, b < 256) ∧
    (0 < l.length → ∃ b off, a = some ⟨b, off, none⟩ ∧ ∀ i, i < l.length → w.cell? ⟨b, off + i, none⟩ = some (.int .u8 (l.getD i 0 : Nat)))

theorem ret_u32 {a b : Nat} (h : a = b) : Ending.returned (.int .u32 (a : Int)) = .returned (.int .u32 (b : Int)) := by rw [h]

theorem crc1_yes {y : Nat} (hy : y < 4294967296) (h : (bits BinOp.and IntKind.u32 (y : Int) 1 == 1) = true) : bits BinOp.xor IntKind.u32 ((y : Int) / 2) 2197175160 = (crc1 y : Nat) := by
  have h1 := u32_and_nat y 1 hy (by omega)
  rw [show ((1 : Nat) : Int) = 1 from rfl] at h1
  rw [h1, nat_mask1] at h
  have h2 : y % 2 = 1 := by simp at h; omega
  have h3 := u32_xor_nat (y / 2) 2197175160 (by omega) (by omega)
  have h4 : (((y / 2 : Nat)) : Int) = (y : Int) / 2 := by omega
  rw [h4] at h3
  rw [show ((2197175160 : Nat) : Int) = 2197175160 from rfl] at h3
  rw [h3, crc1, if_pos h2]

theorem crc1_no {y : Nat} (hy : y < 4294967296) (h : (bits BinOp.and IntKind.u32 (y : Int) 1 == 1) = false) : (y : Int) / 2 = (crc1 y : Nat) := by
  have h1 := u32_and_nat y 1 hy (by omega)
  rw [show ((1 : Nat) : Int) = 1 from rfl] at h1
  rw [h1, nat_mask1] at h
  have h2 : ¬ y % 2 = 1 := by simp at h; omega
  rw [crc1, if_neg h2]; omega

theorem not_u32 {c : Nat} (hc : c < 4294967296) : bits BinOp.xor IntKind.u32 IntKind.u32.max (c : Int) = (c ^^^ 4294967295 : Nat) := by
  have h := u32_xor_nat 4294967295 c (by omega) hc
  rw [Nat.xor_comm] at h
  exact h

theorem xor_u32 {c d : Nat} (hc : c < 4294967296) (hd : d < 4294967296) : bits BinOp.xor IntKind.u32 (c : Int) (d : Int) = (c ^^^ d : Nat) := u32_xor_nat c d hc hd

theorem xor_ones_u32 {c : Nat} (hc : c < 4294967296) : bits BinOp.xor IntKind.u32 (c : Int) 4294967295 = (c ^^^ 4294967295 : Nat) := u32_xor_nat c 4294967295 hc (by omega)

theorem mem_getD {l : List Nat} {k : Nat} (h : k < l.length) : l.getD k 0 ∈ l := by
  simp [List.getD, h]

end Go.Proofs.YtcjilmafdpnfeaaDoor
