import Derived.Test.YtedhohamdbplhaaDoorRows
import Derived.Test.YtedhohamdbplhaaDoorNum
import Derived.WalkKit
import Derived.WalkSpells
import Derived.WalkLawsBesides
import Derived.Laws.BitsAllLaws
import Derived.BigQuiet
import Derived.Deep.QuietTactic
namespace Go.Proofs.YtedhohamdbplhaaDoor
open Go.RowKit
open Num

/-- A slice of bytes that reads as the list l. -/
def BSl (w : World) (v : Value) (l : List Nat) : Prop :=
  ∃ a cap, v = .slice a l.length cap ∧ l.length ≤ cap ∧ cap ≤ maxLen ∧ (a = none → cap = 0) ∧ (∀ b ∈ l, b < 256) ∧
    (0 < l.length → ∃ b off, a = some ⟨b, off, none⟩ ∧ ∀ i, i < l.length → w.cell? ⟨b, off + i, none⟩ = some (.int .u8 (l.getD i 0 : Nat)))

theorem ret_u32 {a b : Nat} (h : a = b) : Ending.returned (.int .u32 (a : Int)) = .returned (.int .u32 (b : Int)) := by rw [h]

theorem crc1_yes {y : Nat} (hy : y < 4294967296) (h : (bits BinOp.and IntKind.u32 (y : Int) 1 == 1) = true) : bits BinOp.xor IntKind.u32 ((y : Int) / 2) 2197175160 = (crc1 y : Nat) := by
  have h1 := u32_and_nat y 1 hy (by omega)
  rw [show ((1 : Nat) : Int) = 1 from rfl] at h1
  rw [h1, nat_mask1] at h
  have h2 : y % 2 = 1 := by simp at h; omega
  have h3 := u32_xor_nat (y / 2) 2197175160 (by omega) (by omega)
  have h4 : (((y / 2 : Nat)) : Int) = (y : Int) / 2 := by omega
  rw [h4] at h3
  rw [show ((2197175160 : Nat) : Int) = 2197175160 from rfl] at h3
  rw [h3, crc1, if_pos h2]

theorem crc1_no {y : Nat} (hy : y < 4294967296) (h : (bits BinOp.and IntKind.u32 (y : Int) 1 == 1) = false) : (y : Int) / 2 = (crc1 y : Nat) := by
  have h1 := u32_and_nat y 1 hy (by omega)
  rw [show ((1 : Nat) : Int) = 1 from rfl] at h1
  rw [h1, nat_mask1] at h
  have h2 : ¬ y % 2 = 1 := by simp at h; omega
  rw [crc1, if_neg h2]; omega

set_option maxHeartbeats 400000 in
theorem crcByte_any (x : Nat) (hx : x < 4294967296) (w : World) :
    Calls Tryd.prog 56 #[.int .u32 (x : Int)] w fun e w' => e = .returned (.int .u32 (crcN 8 x : Nat)) ∧ w' = w := by
  go_enter Tryd.func56, Tryd.ntmps56
  go_wp2
  go_loop [0, 3] (fun t i => ∃ k : Nat, k ≤ 8 ∧ i = .int .i64 k ∧ t = .int .u32 (crcN k x : Nat)) (fun _ i => 8 - (intOf i).toNat)
  case atStart => exact ⟨0, Nat.zero_le _, rfl, rfl⟩
  case round =>
    obtain ⟨k, hk, rfl, rfl⟩ := hrel
    have hy := crcN_lt k hx
    have HS : Hid (crcN (k + 1) x = crc1 (crcN k x)) := rfl
    have HE : Hid (k = 8 → crcN 8 x = crcN k x) := by intro h; rw [h]
    generalize crcN k x = y at *
    by_cases hlt : k < 8
    · go_wp2
      · have h := crc1_yes hy (by assumption)
        go_round
        case rel => exact ⟨k + 1, by omega, by go_num, by rw [HS.out, h]⟩
        case measure => simp [intOf]; omega
      · have h := crc1_no hy (by assumption)
        go_round
        case rel => exact ⟨k + 1, by omega, by go_num, by rw [HS.out, h]⟩
        case measure => simp [intOf]; omega
    · go_wp2
      go_ret
      exact ⟨ret_u32 (HE.out (by omega)).symm, rfl⟩

theorem not_u32 {c : Nat} (hc : c < 4294967296) : bits BinOp.xor IntKind.u32 IntKind.u32.max (c : Int) = (c ^^^ 4294967295 : Nat) := by
  have h := u32_xor_nat 4294967295 c (by omega) hc
  rw [Nat.xor_comm] at h
  exact h

theorem xor_u32 {c d : Nat} (hc : c < 4294967296) (hd : d < 4294967296) : bits BinOp.xor IntKind.u32 (c : Int) (d : Int) = (c ^^^ d : Nat) := u32_xor_nat c d hc hd

theorem xor_ones_u32 {c : Nat} (hc : c < 4294967296) : bits BinOp.xor IntKind.u32 (c : Int) 4294967295 = (c ^^^ 4294967295 : Nat) := u32_xor_nat c 4294967295 hc (by omega)

theorem mem_getD {l : List Nat} {k : Nat} (h : k < l.length) : l.getD k 0 ∈ l := by
  simp [List.getD, h]

set_option maxHeartbeats 400000 in
theorem crcMore_any (c : Nat) (hc : c < 4294967296) (v : Value) (l : List Nat) (w : World) (hv : BSl w v l) :
    Calls Tryd.prog 45 #[.int .u32 (c : Int), v] w fun e w' => e = .returned (.int .u32 (crcM c l : Nat)) ∧ w' = w := by
  obtain ⟨a, cap, rfl, hl, hm, hn, hb, hcell⟩ := hv
  unfold maxLen at hm
  have HB : Hid (∀ b ∈ l, b < 256) := hb
  clear hb hn
  have HC : Hid (0 < l.length → ∃ b off, a = some ⟨b, off, none⟩ ∧ ∀ i, i < l.length → w.cell? ⟨b, off + i, none⟩ = some (.int .u8 (l.getD i 0 : Nat))) := hcell
  clear hcell
  have HN := not_u32 hc
  go_enter Tryd.func45, Tryd.ntmps45
  go_wp2
  clear HN
  go_loop [5, 11] (fun t i => ∃ k : Nat, k ≤ l.length ∧ i = .int .i64 k ∧ t = .int .u32 (crcL (c ^^^ 4294967295) (l.take k) : Nat)) (fun _ i => l.length - (intOf i).toNat)
  case atStart => exact ⟨0, Nat.zero_le _, rfl, rfl⟩
  case round =>
    obtain ⟨k, hk, rfl, rfl⟩ := hrel
    have hy : crcL (c ^^^ 4294967295) (l.take k) < 4294967296 := crcL_lt _ (xor_ones_lt hc) (fun b hb => HB.out b (List.mem_of_mem_take hb))
    have HS : Hid (k < l.length → crcL (c ^^^ 4294967295) (l.take (k + 1)) = crcN 8 (crcL (c ^^^ 4294967295) (l.take k) ^^^ l.getD k 0)) := by
      intro h; rw [take_snoc l 0 k h, crcL_snoc]
    have HE : Hid (¬ k < l.length → crcM c l = crcL (c ^^^ 4294967295) (l.take k) ^^^ 4294967295) := by
      intro h; rw [crcM, List.take_of_length_le (by omega)]
    generalize crcL (c ^^^ 4294967295) (l.take k) = y at *
    by_cases hlt : k < l.length
    · obtain ⟨b, off, rfl, hcell⟩ := HC.out (by omega)
      have hck := hcell k hlt
      have hx : l.getD k 0 < 256 := HB.out _ (mem_getD hlt)
      have HS' : Hid (crcL (c ^^^ 4294967295) (l.take (k + 1)) = crcN 8 (y ^^^ l.getD k 0)) := HS.out hlt
      clear hcell HS HE HC
      generalize l.getD k 0 = x at *
      have hxy := xor_u32 hy (show x < 4294967296 by omega)
      have hlt2 : y ^^^ x < 4294967296 := Nat.xor_lt_two_pow (n := 32) hy (by omega)
      go_wp2_with (go_at_call 56; refine (crcByte_any _ hlt2 _).mono ?_; rintro e w' ⟨rfl, rfl⟩)
      go_round
      case rel => exact ⟨k + 1, by omega, by go_num, by rw [HS'.out]⟩
      case measure => simp [intOf]; omega
    · have HN := not_u32 hy
      go_wp2
      go_ret
      exact ⟨ret_u32 (HE.out hlt).symm, rfl⟩

set_option maxHeartbeats 400000 in
theorem crc_any (v : Value) (l : List Nat) (w : World) (hv : BSl w v l) :
    Calls Tryd.prog 46 #[v] w fun e w' => e = .returned (.int .u32 (crcM 0 l : Nat)) ∧ w' = w := by
  have h := crcMore_any 0 (by omega) v l w hv
  go_enter Tryd.func46, Tryd.ntmps46
  go_wp2_with (go_at_call 45; refine (crcMore_any 0 (by omega) v l w hv).mono ?_; rintro e w' ⟨rfl, rfl⟩)
  go_ret
  exact ⟨rfl, rfl⟩

end Go.Proofs.YtedhohamdbplhaaDoor
