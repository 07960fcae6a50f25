import Derived.Test.YtcdmkbjibcahcaaTAk
namespace Go.Proofs.Ytcdmkbjibcahcaa
open Go.RowKit
set_option linter.unusedVariables false
set_option linter.unusedSimpArgs false
set_option maxRecDepth 20000

theorem acks_law (w : World) (a b : Int) (sv : Value) (os : List OpV) (hs : OSl w sv os) (hn : os.length ≤ 4398046511104 ∧ ∀ s ∈ os, s.ok) : Calls Try.prog 7 #[.int .i64 a, .int .i64 b, sv] w fun e w' => e = .returned (.bool true) ∧ Below w.heap.size w w' := by
  by_cases h : 1 ≤ a ∧ a ≤ 1024 ∧ 1 ≤ b ∧ b ≤ 64
  · obtain ⟨lim, rfl⟩ : ∃ n : Nat, a = (n : Int) := ⟨a.toNat, by omega⟩
    obtain ⟨ep, rfl⟩ : ∃ n : Nat, b = (n : Int) := ⟨b.toNat, by omega⟩
    exact acks_good w lim ep sv os hs hn.1 hn.2 (by omega) (by omega) (by omega) (by omega)
  · have HG := hide (good_any w a b)
    rw [decide_eq_false h] at HG
    clear h
    go_enter Try.func7, Try.ntmps7
    go_wp2_with (go_at_call 9; refine HG.out.mono ?_; rintro e w1 ⟨rfl, h9⟩; have h9s := h9.symm; clear h9; subst h9s)
    go_ret
    exact ⟨rfl, Below.refl _ _⟩
end Go.Proofs.Ytcdmkbjibcahcaa
