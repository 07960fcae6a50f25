import Derived.Test.YtafjldmfghokaabACrc
namespace Go.Proofs.Ytafjldmfghokaab
open Go.RowKit
open Num
set_option linter.unusedVariables false

set_option maxHeartbeats 1000000 in
theorem refCrcMore_any (c : Nat) (hc : c < 4294967296) (v : Value) (l : List Nat) (w : World) (hv : BSl w v l) :
    Calls Try.prog 139 #[.int .u32 (c : Int), v] w fun e w' => e = .returned (.int .u32 (crcM c l : Nat)) ∧ w' = w := by
  obtain ⟨a, cap, rfl, hl, hm, hn, hb, hcell⟩ := hv
  unfold maxLen at hm
  have HB : Hid (∀ b ∈ l, b < 256) := hb
  clear hb hn
  have HC : Hid (0 < l.length → ∃ b off, a = some ⟨b, off, none⟩ ∧ ∀ i, i < l.length → w.cell? ⟨b, off + i, none⟩ = some (.int .u8 (l.getD i 0 : Nat))) := hcell
  clear hcell
  have HN := xor_ones_u32 hc
  go_enter Try.func139, Try.ntmps139
  go_wp2
  clear HN
  go_loop [5, 6] (fun t i => ∃ k : Nat, k ≤ l.length ∧ i = .int .i64 k ∧ t = .int .u32 (crcL (c ^^^ 4294967295) (l.take k) : Nat)) (fun _ i => l.length - (intOf i).toNat)
  case atStart => exact ⟨0, Nat.zero_le _, rfl, rfl⟩
  case round =>
    obtain ⟨k, hk, rfl, rfl⟩ := hrel
    have hy : crcL (c ^^^ 4294967295) (l.take k) < 4294967296 := crcL_lt _ (xor_ones_lt hc) (fun b hb => HB.out b (List.mem_of_mem_take hb))
    have HS : Hid (k < l.length → crcL (c ^^^ 4294967295) (l.take (k + 1)) = crcN 8 (crcL (c ^^^ 4294967295) (l.take k) ^^^ l.getD k 0)) := by
      intro h; rw [take_snoc l 0 k h, crcL_snoc]
    have HE : Hid (¬ k < l.length → crcM c l = crcL (c ^^^ 4294967295) (l.take k) ^^^ 4294967295) := by
      intro h; rw [crcM, List.take_of_length_le (by omega)]
    generalize crcL (c ^^^ 4294967295) (l.take k) = y at *
    by_cases hlt : k < l.length
    · obtain ⟨b, off, rfl, hcell⟩ := HC.out (by omega)
      have hck := hcell k hlt
      have hx : l.getD k 0 < 256 := HB.out _ (mem_getD hlt)
      have HS' : Hid (crcL (c ^^^ 4294967295) (l.take (k + 1)) = crcN 8 (y ^^^ l.getD k 0)) := HS.out hlt
      clear hcell HS HE HC
      generalize l.getD k 0 = x at *
      have hxy := xor_u32 hy (show x < 4294967296 by omega)
      have hlt2 : y ^^^ x < 4294967296 := Nat.xor_lt_two_pow (n := 32) hy (by omega)
      go_wp2
      clear hxy hck
      generalize y ^^^ x = z at *
      go_loop [5, 7] (fun t i => ∃ k : Nat, k ≤ 8 ∧ i = .int .i64 k ∧ t = .int .u32 (crcN k z : Nat)) (fun _ i => 8 - (intOf i).toNat)
      case atStart => exact ⟨0, Nat.zero_le _, rfl, rfl⟩
      case round =>
        obtain ⟨j, hj, rfl, rfl⟩ := hrel
        have hy2 := crcN_lt j hlt2
        have HS2 : Hid (crcN (j + 1) z = crc1 (crcN j z)) := rfl
        have HE2 : Hid (j = 8 → crcN 8 z = crcN j z) := by intro h; rw [h]
        generalize crcN j z = u at *
        by_cases hlt8 : j < 8
        · go_wp2
          · have h := crc1_yes hy2 (by assumption)
            go_round
            case rel => exact ⟨j + 1, by omega, by go_num, by rw [HS2.out, h]⟩
            case measure => simp [intOf]; omega
          · have h := crc1_no hy2 (by assumption)
            go_round
            case rel => exact ⟨j + 1, by omega, by go_num, by rw [HS2.out, h]⟩
            case measure => simp [intOf]; omega
        · go_wp2
          go_round
          case rel => exact ⟨k + 1, by omega, by go_num, by rw [HS'.out, HE2.out (by omega)]⟩
          case measure => simp [intOf]; omega
    · have HN := xor_ones_u32 hy
      go_wp2
      go_ret
      exact ⟨ret_u32 (HE.out hlt).symm, rfl⟩

set_option maxHeartbeats 400000 in
theorem refCrc_any (v : Value) (l : List Nat) (w : World) (hv : BSl w v l) :
    Calls Try.prog 130 #[v] w fun e w' => e = .returned (.int .u32 (crcM 0 l : Nat)) ∧ w' = w := by
  go_enter Try.func130, Try.ntmps130
  go_wp2_with (go_at_call 139; refine (refCrcMore_any 0 (by omega) v l w hv).mono ?_; rintro e w' ⟨rfl, rfl⟩)
  go_ret
  exact ⟨rfl, rfl⟩
end Go.Proofs.Ytafjldmfghokaab
