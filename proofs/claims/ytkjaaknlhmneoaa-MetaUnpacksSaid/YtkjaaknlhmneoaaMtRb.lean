import Derived.Test.YtkjaaknlhmneoaaMtPk2
namespace Go.Proofs.Ytkjaaknlhmneoaa
open Go.RowKit
open Num
set_option linter.unusedVariables false
set_option linter.unusedSimpArgs false
set_option maxRecDepth 20000

/-- bit i of the words -/
def wbit (ws : List Nat) (i : Nat) : Bool := (ws.getD (i / 64) 0).testBit (i % 64)
theorem bit_any (w : World) (v : Value) (ws : List Nat) (hv : USl w v ws) (i : Nat) (hi : i / 64 < ws.length) (hm : ws.length ≤ 1024) : Calls Try.prog 47 #[v, .int .i64 (i : Int)] w fun e w' => e = .returned (.bool (wbit ws i)) ∧ w' = w := by
  obtain ⟨a, cap, rfl, q1, q2, q3, q4⟩ := hv
  obtain ⟨b, off, rfl, hlb, hc⟩ := q4 (by omega)
  have cl := hc (i / 64) hi
  have hx64 : ws.getD (i / 64) 0 < 18446744073709551616 := q3 _ (by simp [List.getD, hi])
  unfold maxLen at q2
  clear q3 q4 hc
  unfold wbit
  generalize ws.getD (i / 64) 0 = x at *
  obtain ⟨T, hT0⟩ : ∃ T, i / 64 = T := ⟨_, rfl⟩
  obtain ⟨R, hR0⟩ : ∃ R, i % 64 = R := ⟨_, rfl⟩
  rw [hT0] at cl hi
  rw [hR0]
  generalize ws.length = K at *
  have hRb : R ≤ 63 := by omega
  have hn1 : (i : Int) % 64 = (R : Int) := by omega
  have hd1 : (i : Int) / 64 = (T : Int) := by omega
  have hd2 : (i : Int).tdiv 64 = (T : Int) := by rw [Int.tdiv_eq_ediv_of_nonneg (by omega)]; exact hd1
  have hd3 : IntKind.i64.wrap (T : Int) = (T : Int) := by simp [IntKind.wrap, IntKind.bits, IntKind.signed]; omega
  have hd4 : IntKind.i64.wrap ((i : Int) / 64) = (T : Int) := by rw [hd1]; exact hd3
  have hrm1 : (i : Int).tmod 64 = (R : Int) := by rw [Int.tmod_eq_emod_of_nonneg (by omega)]; exact hn1
  have hrm2 : IntKind.i64.wrap (R : Int) = (R : Int) := by simp [IntKind.wrap, IntKind.bits, IntKind.signed]; omega
  have hrm3 : IntKind.i64.wrap ((i : Int) % 64) = (R : Int) := by rw [hn1]; exact hrm2
  have hi8 : (0 : Int) ≤ (R : Int) := by omega
  have hi9 : (R : Int) ≤ 64 := by omega
  obtain ⟨Y, hY⟩ : ∃ Y : Nat, x / 2 ^ R = Y := ⟨_, rfl⟩
  have hyl : Y < 18446744073709551616 := by rw [← hY]; exact Nat.lt_of_le_of_lt (Nat.div_le_self _ _) hx64
  have hyi : (x : Int) / 2 ^ R = (Y : Int) := by rw [← hY, Int.natCast_ediv, Int.natCast_pow]; rfl
  have hsh : Op.shift .shr .u64 (x : Int) .i64 (R : Int) = (pure (.int .u64 (Y : Int)) : Sem Value) := by
    rw [shift_shr .u64 .i64 (x : Int) (R : Int) hi8 (by simpa [IntKind.bits] using hi9), Int.toNat_natCast, hyi]
  have han : bits .and .u64 (Y : Int) 1 = ((Y % 2 : Nat) : Int) := by
    have := bits_and_u64_nat Y 1 hyl (by decide)
    rw [Nat.and_one_is_mod] at this
    exact this
  have HTB : Hid (x.testBit R = decide (Y % 2 = 1)) := hide (by rw [← hY, Nat.testBit_eq_decide_div_mod_eq])
  rw [HTB.out]
  have hb1 : (0 : Int) ≤ (T : Int) := by omega
  have hb2 : (T : Int) < (K : Int) := by omega
  go_enter Try.func47, Try.ntmps47
  go_wp2_with fail
  go_ret
  refine ⟨?_, rfl⟩
  have e : ((Y : Int) % 2 == 1) = decide (Y % 2 = 1) := by
    by_cases h : Y % 2 = 1
    · have : (Y : Int) % 2 = 1 := by omega
      simp [h, this]
    · have : ¬ (Y : Int) % 2 = 1 := by omega
      simp [h, this]
  simp [e]
end Go.Proofs.Ytkjaaknlhmneoaa
