import Derived.Test.YtafjldmfghokaaaAKpL
namespace Go.Proofs.Ytafjldmfghokaaa
open Go.RowKit Go.Sort
set_option linter.unusedVariables false

theorem keepsLaw (w : World) (a b c : Int) (d : Nat) (sv : Value) (l : List OpK) (hs : OKl w sv l) (hz : l.length ≤ 1000000000000000) : Calls Try.prog 8 #[.agg #[.int .i64 a, .int .i64 b, .int .i64 c, .int .u32 (d : Int)], sv] w fun e w' => e = .returned (.bool true) ∧ Below w.heap.size w w' := by
  by_cases hm : okM a b c
  · have hm' := hm
    unfold okM at hm'
    obtain ⟨n, rfl⟩ : ∃ n : Nat, a = (n : Int) := ⟨a.toNat, by omega⟩
    obtain ⟨ext, rfl⟩ : ∃ n : Nat, b = (n : Int) := ⟨b.toNat, by omega⟩
    obtain ⟨size, rfl⟩ : ∃ n : Nat, c = (n : Int) := ⟨c.toNat, by omega⟩
    exact keeps_yes w n ext size d sv l hm hs hz
  · exact keeps_no w a b c d sv hm
end Go.Proofs.Ytafjldmfghokaaa
