import Derived.Test.YthkkinmegileaaaALruA
import Derived.DeepKeys4
namespace Go.Proofs.Ythkkinmegileaaa.Sp
open Go.RowKit Go.Sort Go.WideMaps
set_option linter.unusedVariables false
set_option linter.unusedSimpArgs false
set_option maxRecDepth 20000

/-- the pair that stands for a number -/
def pA (z : Int) : Int := z.tdiv 3
def pB (z : Int) : Int := IntKind.u8.wrap (z.tmod 3)
def pC (z : Int) : List Value := [.int .i64 (pA z), .int .u8 (pB z)]
def sK (z : Int) : Value := .agg #[.int .i64 (pA z), .int .u8 (pB z)]
theorem pB_val (z : Int) : pB z = (z.tmod 3) % 256 := by
  unfold pB
  rfl
theorem pA_ok {z : Int} (h : i64ok z) : (Lit.int .i64 (pA z)).wf = true := by
  refine wf_i64 ?_
  unfold i64ok pA at *
  have e := Int.mul_tdiv_add_tmod z 3
  have h1 := Int.tmod_lt_of_pos z (show (0 : Int) < 3 by omega)
  have h2 := Int.lt_tmod_of_pos z (show (0 : Int) < 3 by omega)
  omega
theorem pB_ok (z : Int) : (Lit.int .u8 (pB z)).wf = true := by
  rw [pB_val]
  have h1 := Int.emod_nonneg (z.tmod 3) (show (256 : Int) ≠ 0 by omega)
  have h2 := Int.emod_lt_of_pos (z.tmod 3) (show (0 : Int) < 256 by omega)
  simp [Lit.wf, IntKind.min, IntKind.max, IntKind.signed, IntKind.bits]
  omega
theorem pair_inj {a b : Int} (h1 : pA a = pA b) (h2 : pB a = pB b) : a = b := by
  unfold pA at h1
  rw [pB_val, pB_val] at h2
  have e1 := Int.mul_tdiv_add_tmod a 3
  have e2 := Int.mul_tdiv_add_tmod b 3
  have l1 := Int.tmod_lt_of_pos a (show (0 : Int) < 3 by omega)
  have l2 := Int.tmod_lt_of_pos b (show (0 : Int) < 3 by omega)
  have g1 := Int.lt_tmod_of_pos a (show (0 : Int) < 3 by omega)
  have g2 := Int.lt_tmod_of_pos b (show (0 : Int) < 3 by omega)
  omega
theorem laidOut : laidOutB Try.prog = true := by kernel_rfl
theorem rowSpot : (34 : TypeId) < Try.prog.types.size := of_decide_eq_true (by kernel_rfl)
theorem wideSpot : (match Try.prog.underlying 34 with | some (.array _ _) | some (.struct _) => true | _ => false) = true := by rw [Try.underlying34]
theorem law : KeyLaw Try.prog 34 := deep_law_laid laidOut (m := 2) (by omega) rowSpot (by kernel_rfl) wideSpot
theorem kStr : Maps.Keyed Try.prog 34 := Maps.Keyed.of_law law
theorem keyTSpot : Try.prog.keyType 34 = true := by kernel_rfl
theorem cellsSpot : Try.prog.cellsOf 34 = 2 := by kernel_rfl
theorem key0 {z : Int} (h : i64ok z) : keyOf Try.prog 34 (sK z) = some (.string (keyBytes [.int .i64 (pA z), .int .u8 (pB z)])) := by
  have hu := Try.underlying34
  obtain ⟨m, hm⟩ : ∃ m, Try.prog.types.size = m + 1 := ⟨Try.prog.types.size - 1, (Nat.succ_pred_eq_of_pos (Nat.lt_of_le_of_lt (Nat.zero_le _) rowSpot)).symm⟩
  have hf : Value.formed Try.prog 34 (sK z) = true := by simp [Value.formed, sK, hu, cellsSpot]
  have hc : (sK z).cells.toList = [.int .i64 (pA z), .int .u8 (pB z)] := rfl
  unfold keyOf
  rw [hu]
  simp only [keyTSpot, hf, Bool.and_self, if_true, hc, hm]
  unfold Program.keyLits
  rw [hu]
  simp only [cellsSpot]
  unfold Program.keyLits
  simp [Try.underlying3, Try.underlying5, pA_ok h, pB_ok z, show Try.prog.cellsOf 3 = 1 by kernel_rfl, show Try.prog.cellsOf 5 = 1 by kernel_rfl]
/-- a key's name among the map's: of a number that is no int it is another text -/
def kL (z : Int) : Lit := if -9223372036854775808 ≤ z ∧ z ≤ 9223372036854775807 then .string (keyBytes [.int .i64 (pA z), .int .u8 (pB z)]) else .string (List.replicate (z.natAbs + 30) (if z < 0 then (1 : UInt8) else 0))
theorem kL_in {z : Int} (h : i64ok z) : kL z = .string (keyBytes [.int .i64 (pA z), .int .u8 (pB z)]) := by
  unfold i64ok at h
  unfold kL
  rw [if_pos h]
theorem kL_out {z : Int} (h : ¬ i64ok z) : kL z = .string (List.replicate (z.natAbs + 30) (if z < 0 then (1 : UInt8) else 0)) := by
  unfold i64ok at h
  unfold kL
  rw [if_neg h]
theorem keyS {z : Int} (h : i64ok z) : keyOf Try.prog 34 (.agg #[.int .i64 (pA z), .int .u8 (pB z)]) = some (kL z) := by
  rw [kL_in h]
  exact key0 h
theorem kb_len (z : Int) : (keyBytes [.int .i64 (pA z), .int .u8 (pB z)]).length = 9 := by
  simp [keyBytes, Lit.keyBytes, IntKind.bits, bytesBE, bytesLE]
theorem kL_inj {a b : Int} (h : kL a = kL b) : a = b := by
  by_cases ha : i64ok a
  · by_cases hb : i64ok b
    · have h1 := keyS ha
      have h2 := keyS hb
      rw [h] at h1
      have h3 := law.inj h1 h2
      simp only [Value.agg.injEq, Array.mk.injEq, List.cons.injEq, Value.int.injEq, true_and, and_true] at h3
      exact pair_inj h3.1 h3.2
    · rw [kL_in ha, kL_out hb] at h
      have := congrArg (fun l => match l with | Lit.string s => s.length | _ => 0) h
      simp only [kb_len, List.length_replicate] at this
      omega
  · by_cases hb : i64ok b
    · rw [kL_out ha, kL_in hb] at h
      have := congrArg (fun l => match l with | Lit.string s => s.length | _ => 0) h
      simp only [kb_len, List.length_replicate] at this
      omega
    · rw [kL_out ha, kL_out hb] at h
      simp only [Lit.string.injEq] at h
      have h3 := congrArg List.length h
      simp only [List.length_replicate] at h3
      have h5 : (if a < 0 then (1 : UInt8) else 0) = if b < 0 then 1 else 0 := by
        have h4 := h
        rw [show a.natAbs + 30 = (a.natAbs + 29) + 1 from rfl, show b.natAbs + 30 = (b.natAbs + 29) + 1 from rfl, List.replicate_succ, List.replicate_succ] at h4
        exact (List.cons.inj h4).1
      by_cases h1 : a < 0
      · by_cases h2 : b < 0
        · omega
        · rw [if_pos h1, if_neg h2] at h5; cases h5
      · by_cases h2 : b < 0
        · rw [if_neg h1, if_pos h2] at h5; cases h5
        · omega
theorem kL_ne {a b : Int} (h : a ≠ b) : kL a ≠ kL b := fun e => h (kL_inj e)
theorem isKeyLit (z : Int) : WideAt.IsKeyLit (kL z) := by
  unfold kL
  split <;> trivial
end Go.Proofs.Ythkkinmegileaaa.Sp
