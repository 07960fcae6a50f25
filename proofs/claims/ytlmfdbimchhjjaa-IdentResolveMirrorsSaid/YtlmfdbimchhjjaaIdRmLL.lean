import Derived.Test.YtlmfdbimchhjjaaIdRmL2
import Derived.Test.YtlmfdbimchhjjaaIdRmL0A
import Derived.Test.YtlmfdbimchhjjaaIdRmL05
import Derived.Test.YtlmfdbimchhjjaaIdRmL06
import Derived.Test.YtlmfdbimchhjjaaIdRmL1A
import Derived.Test.YtlmfdbimchhjjaaIdRmL15
import Derived.Test.YtlmfdbimchhjjaaIdRmL16
namespace Go.Proofs.Ytlmfdbimchhjjaa
open Go.RowKit
set_option linter.unusedVariables false
set_option linter.unusedSimpArgs false
set_option maxRecDepth 20000

theorem rmirLaw (w : World) (k r n s0 s1 s2 ro rp mo mp fo fp : Int) : Calls Try.prog 6 #[.agg #[.int .i64 k, .int .i64 r, .int .i64 n, .int .i64 s0, .int .i64 s1, .int .i64 s2, .int .i64 ro, .int .i64 rp, .int .i64 mo, .int .i64 mp, .int .u32 fo, .int .u32 fp]] w fun e w' => e = .returned (.bool true) ∧ Below w.heap.size w w' := by
  obtain ⟨ak, ar, ae, hs, hs2, m1, m2, m3⟩ := resv_mir k r n s0 s1 s2 ro rp mo mp (fd fo) (fd fp)
  by_cases h0 : n = 0
  · subst h0
    by_cases he : ae = 0
    · cases hk : isSp k with
      | false =>
        obtain ⟨e1, e2⟩ := m2 he hk
        have k5 : k ≠ 5 := fun e => by simp [isSp, e] at hk
        have k6 : k ≠ 6 := fun e => by simp [isSp, e] at hk
        exact rmir_n0A w k r s0 s1 s2 ro rp mo mp fo fp ak ar ae hs hs2 (Or.inr ⟨he, k5, k6, e1, e2⟩)
      | true =>
        have hk2 : k = 5 ∨ k = 6 := by simpa [isSp] using hk
        rcases hk2 with e | e
        · exact rmir_n05 w k r s0 s1 s2 ro rp mo mp fo fp ak ar ae hs hs2 ⟨he, e, (m3 he hk).2⟩
        · exact rmir_n06 w k r s0 s1 s2 ro rp mo mp fo fp ak ar ae hs hs2 ⟨he, e, (m3 he hk).2⟩
    · exact rmir_n0A w k r s0 s1 s2 ro rp mo mp fo fp ak ar ae hs hs2 (Or.inl ⟨he, m1 he⟩)
  by_cases h1 : n = 1
  · subst h1
    by_cases he : ae = 0
    · cases hk : isSp k with
      | false =>
        obtain ⟨e1, e2⟩ := m2 he hk
        have k5 : k ≠ 5 := fun e => by simp [isSp, e] at hk
        have k6 : k ≠ 6 := fun e => by simp [isSp, e] at hk
        exact rmir_n1A w k r s0 s1 s2 ro rp mo mp fo fp ak ar ae hs hs2 (Or.inr ⟨he, k5, k6, e1, e2⟩)
      | true =>
        have hk2 : k = 5 ∨ k = 6 := by simpa [isSp] using hk
        rcases hk2 with e | e
        · exact rmir_n15 w k r s0 s1 s2 ro rp mo mp fo fp ak ar ae hs hs2 ⟨he, e, (m3 he hk).2⟩
        · exact rmir_n16 w k r s0 s1 s2 ro rp mo mp fo fp ak ar ae hs hs2 ⟨he, e, (m3 he hk).2⟩
    · exact rmir_n1A w k r s0 s1 s2 ro rp mo mp fo fp ak ar ae hs hs2 (Or.inl ⟨he, m1 he⟩)
  have ho : oth n = n := by unfold oth; rw [if_neg (by omega)]
  rw [ho] at hs2
  have he : ae ≠ 0 := by
    intro e
    cases hk : isSp k with
    | false =>
      have : resv k r n s0 s1 s2 ro rp mo mp (fd fo) (fd fp) = (0, 0, 1) := by unfold resv; rw [if_pos (Or.inr (Or.inl (by omega)))]
      rw [this] at hs
      simp only [Prod.mk.injEq] at hs
      omega
    | true => exact absurd (m3 e hk).1 (by omega)
  exact rmir_nn w k r n s0 s1 s2 ro rp mo mp fo fp ak ar ae hs hs2 (bne_iff_ne.2 h0) (bne_iff_ne.2 h1) ⟨he, m1 he⟩
end Go.Proofs.Ytlmfdbimchhjjaa
