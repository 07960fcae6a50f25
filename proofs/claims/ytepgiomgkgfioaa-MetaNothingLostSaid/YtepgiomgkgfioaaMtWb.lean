import Derived.Test.YtepgiomgkgfioaaMtWa
namespace Go.Proofs.Ytepgiomgkgfioaa
open Go.RowKit
open Num
set_option linter.unusedVariables false
set_option linter.unusedSimpArgs false
set_option maxRecDepth 20000

set_option maxHeartbeats 1000000 in
theorem wordB_any (w : World) (b0 off cap s A : Nat) (l : List Nat) (hrow : ∀ i, i < l.length → w.cell? ⟨b0, off + i, none⟩ = some (.int .u8 (l.getD i 0 : Nat))) (hl : l.length = s) (hb : ∀ x ∈ l, x < 256) (hA : A + 8 ≤ s) (hs : s ≤ 1024) (hcap : s ≤ cap) :
    Calls Try.prog 38 #[.slice (some ⟨b0, off, none⟩) s cap, .int .i64 (A : Int)] w fun e w' => e = .returned (.int .u64 (lev (l.drop A) 8 : Nat)) ∧ ∃ k, w' = w.drewN k := by
  have HC : Hid (∀ k, k < 8 → ∀ q, (w.drewN q).cell? ⟨b0, off + (A + k), none⟩ = some (.int .u8 ((l.drop A).getD k 0 : Nat))) := hide fun k hk q => by
    show w.cell? _ = _
    rw [hrow (A + k) (by omega)]
    simp [List.getD]
  have hbd : ∀ i, (l.drop A).getD i 0 < 256 := fun i => by
    by_cases h : i < (l.drop A).length
    · have := hb ((l.drop A).getD i 0) (by
        have hm : (l.drop A).getD i 0 ∈ l.drop A := by simp only [List.getD, List.getElem?_eq_getElem h, Option.getD_some]; exact List.getElem_mem h
        exact List.mem_of_mem_drop hm)
      exact this
    · rw [List.getD_eq_getElem?_getD, List.getElem?_eq_none (Nat.le_of_not_lt h)]; decide
  have HBD := hide hbd
  have HOR : Hid (∀ k, k < 8 → bits .or .u64 (lev (l.drop A) k : Nat) (((l.drop A).getD k 0 * 2 ^ (8 * k) : Nat) : Int) = (lev (l.drop A) (k + 1) : Nat)) := hide fun k hk => or_lev hbd hk
  have HLT := hide (lev_lt hbd)
  clear hrow hb hbd
  have hs0 : ((s : Int) == 0) = false := by simp; omega
  generalize l.drop A = d at *
  go_enter Try.func38, Try.ntmps38
  go_wp2_with fail
  go_loopw [5, 10] (fun x i wr => ∃ k : Nat, k ≤ 8 ∧ i = .int .i64 (k : Int) ∧ x = .int .u64 (lev d k : Nat) ∧ wr = w) (fun _ i _ => 8 - (intOf i).toNat)
  case atStart => exact ⟨0, Nat.zero_le _, rfl, rfl, rfl⟩
  case round =>
    obtain ⟨k, hk, rfl, rfl, rfl⟩ := hrel
    by_cases hlt : k < 8
    · have c := HC.out k hlt 0
      have hc : wr.cell? ⟨b0, off + (A + k), none⟩ = some (.int .u8 (d.getD k 0 : Nat)) := c
      have HO := hide (HOR.out k hlt)
      have hx := HBD.out k
      have hv := HLT.out (k + 1)
      rw [lev] at hv
      have hv2 : d.getD k 0 * 2 ^ (8 * k) < 18446744073709551616 := by
        have h3 : (2 : Nat) ^ (8 * (k + 1)) ≤ 2 ^ 64 := Nat.pow_le_pow_right (by decide) (by omega)
        omega
      clear c HC HOR HBD HLT hv
      obtain ⟨T8, hT8⟩ : ∃ T8, 8 * k = T8 := ⟨_, rfl⟩
      rw [hT8] at HO hv2
      have hwt : IntKind.i64.wrap ((8 : Int) * (k : Int)) = (T8 : Int) := by simp [IntKind.wrap, IntKind.bits, IntKind.signed]; omega
      have hi8 : (0 : Int) ≤ (T8 : Int) := by omega
      have hi9 : (T8 : Int) ≤ 64 := by omega
      generalize d.getD k 0 = y at *
      generalize hV : y * 2 ^ T8 = V at *
      have hsh : Op.shift .shl .u64 (y : Int) .i64 (T8 : Int) = (pure (.int .u64 (V : Int)) : Sem Value) := by
        rw [shift_shl .u64 .i64 (y : Int) (T8 : Int) hi8 (by simpa [IntKind.bits] using hi9), Int.toNat_natCast]
        congr 2
        rw [IntKind.wrap_u64, ← hV, Int.natCast_mul, Int.natCast_pow]
        have : ((y : Int) * 2 ^ T8) = ((V : Nat) : Int) := by rw [← hV, Int.natCast_mul, Int.natCast_pow]; rfl
        show ((y : Int) * 2 ^ T8) % _ = (y : Int) * 2 ^ T8
        rw [this]
        omega
      have hwv : IntKind.u64.wrap ((y : Int) * 2 ^ T8) = (V : Int) := by
        have : ((y : Int) * 2 ^ T8) = ((V : Nat) : Int) := by rw [← hV, Int.natCast_mul, Int.natCast_pow]; rfl
        rw [this, IntKind.wrap_u64]
        omega
      have HWV := hide hwv
      clear hwv hsh
      have hi1 : (0 : Int) ≤ (A : Int) + (k : Int) := by omega
      have hi2 : (A : Int) + (k : Int) < (s : Int) := by omega
      generalize lev d k = X at *
      go_wp2_with fail
      go_roundw
      case rel => exact ⟨k + 1, by omega, by go_num, by rw [HWV.out, HO.out], by first | rfl | trivial⟩
      case measure => simp [intOf]; omega
    · obtain rfl : k = 8 := by omega
      clear HC HOR HBD HLT
      go_wp2_with fail
      go_ret
      exact ⟨rfl, 0, rfl⟩
/-- a block that is nil is all set -/
theorem wordB_nil (w : World) (a : Option Addr) (cap A : Nat) : Calls Try.prog 38 #[.slice a 0 cap, .int .i64 (A : Int)] w fun e w' => e = .returned (.int .u64 18446744073709551615) ∧ w' = w := by
  go_enter Try.func38, Try.ntmps38
  go_wp2_with fail
  go_ret
  exact ⟨rfl, rfl⟩
end Go.Proofs.Ytepgiomgkgfioaa
