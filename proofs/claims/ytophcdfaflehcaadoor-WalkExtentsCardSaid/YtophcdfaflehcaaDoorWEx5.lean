import Derived.Test.YtophcdfaflehcaaDoorWEx4
namespace Go.Proofs.YtophcdfaflehcaaDoor
open Go.RowKit
set_option linter.unusedVariables false
theorem ext_law {w : World} {v : Value} {l : List Nat} (n stop : Int) (hT : TabAt w) (hv : WSl w v l) (hr : l.length ≤ 17592186044416) :
    Calls Tryd.prog 5 #[.int .i64 n, v, .int .i64 stop] w fun e w' => e = .returned (.bool true) ∧ Below w.heap.size w w' := by
  by_cases he : n < 1 ∨ 65536 < n ∨ cwErr n.toNat l ≠ 0
  · refine ext_core n stop [] (by simp) hT hv hr (hide fun W hW => ?_) (hide fun W v1 hW h1 => ?_)
    · refine (rExt_bad n (hv.below hW) he).mono ?_
      rintro e w' ⟨rfl, rfl⟩
      exact ⟨_, rfl, CRow.nil _, Below.refl _ _, fun g e => by simp [Value.ownBlock] at e⟩
    · refine (Ext_bad n h1 he).mono ?_
      rintro e w' ⟨be, bm, bn, rfl, h2, h3, h4⟩
      exact ⟨be, bm, bn, _, _, _, _, _, rfl, xi_bad h2 h4, h2, h3⟩
  · obtain ⟨m, rfl⟩ : ∃ m : Nat, n = (m : Int) := ⟨n.toNat, by omega⟩
    have h1 : 1 ≤ m := by omega
    have h2 : m ≤ 65536 := by omega
    have h0 : cwErr m l = 0 := by
      have : ¬ cwErr (m : Int).toNat l ≠ 0 := fun h => he (.inr (.inr h))
      simpa using this
    refine ext_core m stop (eL (valW l) m (xs m)) (Nat.le_trans (eL_len _ _ _) (by unfold xs; omega)) hT hv hr (hide fun W hW => rExt_any m (hv.below hW) h1 h2 h0) (hide fun W v1 hW hv1 => ?_)
    refine (Ext_any m (hT.below hW) hv1 h1 h2 h0).mono ?_
    rintro e w' ⟨be, bm, bn, L, rfl, h3, h4, h5⟩
    exact ⟨be, bm, bn, _, _, _, _, _, rfl, xi_good h3 h5, h3, h4⟩
end Go.Proofs.YtophcdfaflehcaaDoor
