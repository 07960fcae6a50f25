import Derived.Test.YtlkccencilhacaaARef1
import Derived.Test.YtlkccencilhacaaABook2
namespace Go.Proofs.Ytlkccencilhacaa
open Go.RowKit Go.Sort
set_option linter.unusedVariables false
set_option linter.unusedSimpArgs false
set_option maxRecDepth 20000

def RU (q : Nat) (cv : Value) (b : Nat) : Prop := b = q ∨ cv.ownBlock = some b
def SRes (S : LS) (key : Int) (r : Int) : Prop := (∃ s : Nat, S.ks[s]? = some key ∧ r = (s : Int)) ∨ (key ∉ S.ks ∧ r = -1)
def IRes (S : LS) (r : Int) : Prop := (∃ (s : Nat) (t : List Nat), S.idle = s :: t ∧ r = (s : Int)) ∨ (S.idle = [] ∧ r = -1)
/-- the best of the first i slots -/
def RBest (S : LS) (C : List RC) (i : Nat) (b : Int) : Prop := (b = -1 ∧ ∀ s ∈ S.idle, ¬ s < i) ∨ ∃ k : Nat, b = (k : Int) ∧ k < i ∧ k ∈ S.idle ∧ ∀ s ∈ S.idle, s < i → (rcb C k).given ≤ (rcb C s).given
theorem RBest.fin {S : LS} {C : List RC} {P M : Nat} (hR : Rel S C P) (hS : S.Ok M) {b : Int} (h : RBest S C C.length b) : IRes S b := by
  have hlt : ∀ s ∈ S.idle, s < C.length := fun s hs => by have := hS.idle_lt hs; have := hS.kl; rw [hR.len]; omega
  rcases h with ⟨rfl, h1⟩ | ⟨k, rfl, h1, h2, h3⟩
  · refine .inr ⟨?_, rfl⟩
    cases he : S.idle with
    | nil => rfl
    | cons s r => exact absurd (hlt s (by rw [he]; simp)) (h1 s (by rw [he]; simp))
  · refine .inl ?_
    cases he : S.idle with
    | nil => rw [he] at h2; cases h2
    | cons s r =>
      refine ⟨s, r, rfl, ?_⟩
      rw [he] at h2
      rcases List.mem_cons.1 h2 with rfl | h2
      · rfl
      · have hp := hR.od
        rw [he] at hp
        have h4 := (List.pairwise_cons.1 hp).1 k h2
        have h5 := h3 s (by rw [he]; simp) (hlt s (by rw [he]; simp))
        omega
end Go.Proofs.Ytlkccencilhacaa
