import Derived.Test.YtophcdfaflehcaaDoorWRndM
namespace Go.Proofs.YtophcdfaflehcaaDoor
open Go.RowKit
set_option linter.unusedVariables false
set_option linter.unusedSimpArgs false
set_option maxRecDepth 20000

theorem pEqNil (W : World) (a : Addr) : (binOp .eql 23 (.pointer (some a)) (.pointer none)).run Tryd.prog W = .ok (.bool false) W := by kernel_rfl
theorem round_bad {w : World} {v : Value} {l : List Nat} (n s : Int) (hv : WSl w v l) (hr : l.length ≤ 17592186044416) (he : nErr n s l ≠ 0) :
    Calls Tryd.prog 3 #[.int .i64 n, v, .int .i64 s] w fun e w' => e = .returned (.bool true) ∧ Below w.heap.size w w' := by
  have HO := hide (ownWords_any hv hr)
  have HLT := hide hv.lt
  have HN : Hid (∀ w1 v1, URow w1 v1 l → Calls Tryd.prog 7 #[.int .i64 n, v1, .int .i64 s] w1 fun e w' => e = .returned (.tuple #[.pointer none, .int .i64 ((nErr n s l : Nat) : Int)]) ∧ Below w1.heap.size w1 w') := hide fun w1 v1 h1 => new_bad n s (h1.wsl HLT.out) he
  have hne : (((nErr n s l : Nat) : Int) != 0) = true := by simpa using he
  have HCASE : Hid (n < 1 ∨ 65536 < n ∨ (1 ≤ n ∧ n ≤ 65536 ∧ s < 0) ∨ (1 ≤ n ∧ n ≤ 65536 ∧ 0 ≤ s ∧ n < s) ∨ (1 ≤ n ∧ n ≤ 65536 ∧ 0 ≤ s ∧ s ≤ n ∧ cwErr n.toNat l ≠ 0)) := hide (by
    unfold nErr at he
    by_cases h1 : n < 1 ∨ 65536 < n
    · omega
    · by_cases h2 : s < 0 ∨ n < s
      · omega
      · rw [if_neg h1, if_neg h2] at he
        exact .inr (.inr (.inr (.inr ⟨by omega, by omega, by omega, by omega, he⟩))))
  generalize nErr n s l = ee at *
  have hg := hv.getLt (l.length - 1)
  obtain ⟨a, cap, rfl, q1, q2, q3, q4, q5⟩ := hv
  unfold maxLen at q2
  clear he q3 q4
  rcases HCASE.out with h1 | h1 | ⟨h1, h2, h3⟩ | ⟨h1, h2, h3, h4⟩ | ⟨h1, h2, h3, h4, h5⟩
  iterate 4
    · clear HCASE q5 hg
      generalize l.length = len at *
      go_enter Tryd.func3, Tryd.ntmps3
      go_wp2_with (first
        | (go_at_call 8; refine HO.out.mono ?_; rintro e w1 ⟨v1, rfl, hU1, hB1, hN1⟩; have HU1 := hide hU1; have HB1 := hide hB1; clear hU1 hB1 hN1 HO)
        | (go_at_call 7; refine (HN.out _ _ HU1.out).mono ?_; rintro e w2 ⟨rfl, hB2⟩; have HB2 := hide hB2; clear hB2 HN)
        | (go_at_call 9; refine (num_any _ _).mono ?_; rintro e w' ⟨rfl, rfl⟩))
      go_ret
      exact ⟨by simp, HB1.out.trans (HB2.out.mono HB1.out.size)⟩
  · obtain ⟨m, rfl⟩ : ∃ m : Nat, n = (m : Int) := ⟨n.toNat, by omega⟩
    obtain ⟨t, rfl⟩ : ∃ t : Nat, s = (t : Int) := ⟨s.toNat, by omega⟩
    rw [Int.toNat_natCast] at h5
    unfold cwErr at h5
    clear HCASE
    by_cases e1 : l.length = nW m
    · rw [if_neg (by omega)] at h5
      have h6 : m % 64 ≠ 0 ∧ l.getD (l.length - 1) 0 / 2 ^ (m % 64) ≠ 0 := by
        apply Decidable.byContradiction
        intro hh
        rw [if_neg hh] at h5
        exact h5 rfl
      obtain ⟨h6, h7⟩ := h6
      have hp : 0 < l.length := by rw [e1]; unfold nW; omega
      obtain ⟨b, off, rfl, hc⟩ := q5 hp
      have hcl := hc (l.length - 1) (by omega)
      have HCL : Hid (∀ W, Below w.heap.size w W → W.cell? ⟨b, off + (l.length - 1), none⟩ = some (.int .u64 (l.getD (l.length - 1) 0 : Nat))) := hide fun W hW => cell_below hW hcl
      have hnn : ((l.length : Int) == ((m : Int) + 63) / 64) = true := by rw [e1]; simp; unfold nW; omega
      have hs : ((l.getD (l.length - 1) 0 : Nat) : Int) / 2 ^ (m % 64) = ((l.getD (l.length - 1) 0 / 2 ^ (m % 64) : Nat) : Int) := by rw [Int.natCast_ediv]; simp
      have ho : (((l.length : Int) - 1).toNat) = l.length - 1 := by omega
      have hll : ((l.length - 1 : Nat) : Int) = (l.length : Int) - 1 := by omega
      have hm : (((m : Int) % 64) != 0) = true := by simp; omega
      clear hc hcl q5 e1 h5 h6
      generalize l.getD (l.length - 1) 0 = x at *
      have hx : ((((x / 2 ^ (m % 64) : Nat)) : Int) != 0) = true := by simp; omega
      generalize x / 2 ^ (m % 64) = y at *
      clear h7
      generalize l.length = len at *
      go_enter Tryd.func3, Tryd.ntmps3
      go_wp2_with (first
        | (go_at_call 8; refine HO.out.mono ?_; rintro e w1 ⟨v1, rfl, hU1, hB1, hN1⟩; have HU1 := hide hU1; have HB1 := hide hB1; clear hU1 hB1 hN1 HO)
        | (go_at_call 7; refine (HN.out _ _ HU1.out).mono ?_; rintro e w2 ⟨rfl, hB2⟩; have HB2 := hide (HB1.out.trans (hB2.mono HB1.out.size)); have kk := HCL.out _ HB2.out; clear hB2 HN)
        | (go_at_call 9; refine (num_any _ _).mono ?_; rintro e w' ⟨rfl, rfl⟩))
      go_ret
      exact ⟨by simp, HB2.out⟩
    · have hnn : ((l.length : Int) == ((m : Int) + 63) / 64) = false := by simp; unfold nW at e1; omega
      clear e1 h5 q5 hg
      generalize l.length = len at *
      go_enter Tryd.func3, Tryd.ntmps3
      go_wp2_with (first
        | (go_at_call 8; refine HO.out.mono ?_; rintro e w1 ⟨v1, rfl, hU1, hB1, hN1⟩; have HU1 := hide hU1; have HB1 := hide hB1; clear hU1 hB1 hN1 HO)
        | (go_at_call 7; refine (HN.out _ _ HU1.out).mono ?_; rintro e w2 ⟨rfl, hB2⟩; have HB2 := hide hB2; clear hB2 HN)
        | (go_at_call 9; refine (num_any _ _).mono ?_; rintro e w' ⟨rfl, rfl⟩))
      go_ret
      exact ⟨by simp, HB1.out.trans (HB2.out.mono HB1.out.size)⟩
end Go.Proofs.YtophcdfaflehcaaDoor
