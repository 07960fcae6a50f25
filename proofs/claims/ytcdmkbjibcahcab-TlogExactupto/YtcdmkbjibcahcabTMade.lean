import Derived.Test.YtcdmkbjibcahcabTAl
namespace Go.Proofs.Ytcdmkbjibcahcab
open Go.RowKit
set_option linter.unusedVariables false
set_option linter.unusedSimpArgs false
set_option maxRecDepth 20000

theorem AL.new (w : World) (lim ep : Nat) (h1 : 1 ≤ lim) (h2 : lim ≤ 1024) (h3 : 1 ≤ ep) (h4 : ep ≤ 64) : Calls Try.prog 8 #[.int .i64 (lim : Int), .int .i64 (ep : Int)] w fun e y => ∃ p bm, e = .returned (.tuple #[.pointer (some ⟨p, 0, none⟩), .int .i64 0]) ∧ AL w y p bm (.slice none 0 0) (newS lim ep) 0 := by
  refine (New_ok w lim ep h1 h2 h3 h4).mono ?_
  rintro e y ⟨p, bm, rfl, r, b, o1, o2⟩
  refine ⟨p, bm, rfl, r, b, ?_, newS_ok h1 h2 h3 h4, Nat.le_refl _, Nat.le_refl _⟩
  rintro g (rfl | rfl | e)
  · exact o1
  · exact o2
  · simp [Value.ownBlock] at e
theorem new_ref {lim ep : Nat} (h1 : 1 ≤ lim) (h3 : 1 ≤ ep) : refE (newS lim ep) 5 77 = 0 := by
  unfold refE
  rw [if_neg (by decide), if_neg (by decide), if_neg (by simp [newS, ids]), if_neg]
  rintro (e | e)
  · simp [newS, LS.es] at e; omega
  · simp [newS, joinN, LS.es] at e; omega
def m1 (lim ep : Nat) : LS := addS (newS lim ep) 5 77
def m2 (lim ep : Nat) : LS := closeS (m1 lim ep)
theorem m1_join {lim ep : Nat} : joinN (m1 lim ep) = 1 := by
  simp [m1, addS, newS, joinN, LS.es]
theorem m2_eq {lim ep : Nat} : m2 lim ep = ⟨lim, ep, 2, 0, [((5, 77, 1), false)]⟩ := by
  unfold m2
  rw [closeS_pos (by rw [m1_join]; decide)]
  rfl
theorem m2_bar {lim ep : Nat} : barB (m2 lim ep) 1 1 = true ∧ frontN (m2 lim ep) = 1 := by
  rw [m2_eq]
  constructor
  · simp [barB, oldE, frontN, LS.es, e0]
  · simp [frontN, LS.es, e0]
end Go.Proofs.Ytcdmkbjibcahcab
