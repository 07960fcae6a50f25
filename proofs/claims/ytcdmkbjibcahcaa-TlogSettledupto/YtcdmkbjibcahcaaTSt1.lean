import Derived.Test.YtcdmkbjibcahcaaTSt0
namespace Go.Proofs.Ytcdmkbjibcahcaa
open Go.RowKit
set_option linter.unusedVariables false
set_option linter.unusedSimpArgs false

theorem add_old2 (S : LS) (oa ob : Int) : oldE (addS S oa ob) = oldE S := by
  unfold oldE
  rw [addS_es]
  cases S.es with
  | nil => rfl
  | cons a r => simp
section
variable {w x : World} {p bm : Nat} {v : Value} {S : LS} {N lf sh : Nat} {sz : List Int}
theorem Sz.askT (h : Sz S lf sh sz) (a : AL w x p bm v S N) (z : Int) (hb : (lf = sh ∧ joinN S = 0) ∨ z < (lf : Int) + 1) : Calls Try.prog 19 #[.pointer (some ⟨p, 0, none⟩), .int .i64 z] x fun e y => e = .returned (.bool true) ∧ ∃ m, y = x.drewN m := by
  have q := a.settled z
  rw [h.settled a.ok] at q
  by_cases h1 : lf = sh ∧ joinN S = 0
  · rw [← Bool.decide_and, decide_eq_true h1, Bool.true_or] at q
    exact q
  · have h2 : z < (lf : Int) + 1 := hb.resolve_left h1
    rw [decide_eq_true (p := z < (lf : Int) + 1 ∧ ¬ (lf = sh ∧ joinN S = 0)) ⟨h2, h1⟩, Bool.or_true] at q
    exact q
theorem Sz.askF (h : Sz S lf sh sz) (a : AL w x p bm v S N) (z : Int) (hb : ¬ (lf = sh ∧ joinN S = 0)) (hz : (lf : Int) + 1 ≤ z) : Calls Try.prog 19 #[.pointer (some ⟨p, 0, none⟩), .int .i64 z] x fun e y => e = .returned (.bool false) ∧ ∃ m, y = x.drewN m := by
  have q := a.settled z
  rw [h.settled a.ok, ← Bool.decide_and, decide_eq_false hb, decide_eq_false (p := z < (lf : Int) + 1 ∧ ¬ (lf = sh ∧ joinN S = 0)) (fun e => by omega)] at q
  exact q
theorem Sz.eps' (h : Sz S lf sh sz) (a : AL w x p bm v S N) (hN : N ≤ 15000000000000) (z : Int) (hz : z = (sh : Int) - (lf : Int)) : Calls Try.prog 16 #[.pointer (some ⟨p, 0, none⟩)] x fun e y => e = .returned (.int .i64 z) ∧ ∃ m, y = x.drewN m := by
  have q := a.epochs hN
  rw [h.nw, h.old, show ((sh + 1 : Nat) : Int) - ((lf : Int) + 1) = z by omega] at q
  exact q
theorem Sz.opn' (h : Sz S lf sh sz) (a : AL w x p bm v S N) (z : Int) (hz : z = (sh : Int) + 1) : Calls Try.prog 15 #[.pointer (some ⟨p, 0, none⟩)] x fun e y => e = .returned (.int .i64 z) ∧ ∃ m, y = x.drewN m := by
  have q := a.opn
  rw [h.nw, show ((sh + 1 : Nat) : Int) = z by omega] at q
  exact q
end
end Go.Proofs.Ytcdmkbjibcahcaa
