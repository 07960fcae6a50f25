import Derived.Test.YtnjlbkbhlcccmaaDoorBKeep
namespace Go.Proofs.YtnjlbkbhlcccmaaDoor
open Go.RowKit Go.Shelf
set_option linter.unusedVariables false
set_option linter.unusedSimpArgs false
set_option maxRecDepth 20000

set_option maxHeartbeats 400000 in
theorem intact_any {N : Nat} {w : World} {v va : Value} {l : List Nat} (hc : Cp N w v l) (hv : WSl w va l) (hnil : v = .slice none 0 0 → va = .slice none 0 0) (hr : l.length ≤ 17592186044416) :
    Calls Tryd.prog 12 #[v, va] w fun e w' => e = .returned (.bool true) ∧ Below w.heap.size w w' := by
  have hs := sameWords_any (hc.wsl hv.lt (by unfold maxLen; omega)) hv
  rw [decide_eq_true rfl] at hs
  have HS := hide hs
  have hq1 := eqNil_some
  have hq2 := eqNil_nil
  obtain ⟨a, cap, rfl, q1, q2, q3, q4, q5⟩ := hv
  unfold maxLen at q2
  clear hs q4 q5
  cases a with
  | none =>
    obtain rfl : cap = 0 := q3 rfl
    have hl0 : l = [] := List.eq_nil_of_length_eq_zero (by omega)
    subst hl0
    rcases hc with ⟨rfl, -⟩ | ⟨g, rfl, hN, hg⟩
    · simp only [List.length_nil] at HS ⊢
      go_enter Tryd.func12, Tryd.ntmps12
      go_wp2_with (go_at_call 28; refine HS.out.mono ?_; rintro e w' ⟨rfl, hq⟩; have HQ := hide hq; clear hq)
      go_ret
      exact ⟨rfl, HQ.out.2⟩
    · simp only [List.length_nil] at HS ⊢
      clear hg
      go_enter Tryd.func12, Tryd.ntmps12
      go_wp2_with (go_at_call 28; refine HS.out.mono ?_; rintro e w' ⟨rfl, hq⟩; have HQ := hide hq; clear hq)
      go_ret
      exact ⟨rfl, HQ.out.2⟩
  | some ad =>
    rcases hc with ⟨rfl, -⟩ | ⟨g, rfl, hN, hg⟩
    · exact absurd (hnil rfl) (by simp)
    · have hgl := (Array.getElem?_eq_some_iff.1 hg).1
      have HC : Hid (∀ k, l.length ≤ k → k < l.length + 3 → w.cell? ⟨g, k, none⟩ = some (.int .u64 13835058055282163719)) := hide fun k h1 h2 => by
        rw [cell_of_row _ _ _ _ _ _ hg, cpRow_get _ (by omega), if_neg (by omega)]; rfl
      clear hg hnil q3
      generalize l.length = len at *
      go_enter Tryd.func12, Tryd.ntmps12
      go_wp2_with (go_at_call 28; refine HS.out.mono ?_; rintro e w1 ⟨rfl, hq⟩; have HQ := hide hq.2; clear hq)
      go_loopw [7] (fun i wr => ∃ k : Nat, len ≤ k ∧ k ≤ len + 3 ∧ i = .int .i64 (k : Int) ∧ Below w.heap.size w wr) (fun i _ => len + 3 - (intOf i).toNat)
      case atStart => exact ⟨len, Nat.le_refl _, by omega, rfl, HQ.out⟩
      case round =>
        obtain ⟨k, hk0, hk, rfl, hb⟩ := hrel
        have HB := hide hb
        by_cases hlt : k < len + 3
        · have hcv := (hb.cell (p := ⟨g, k, none⟩) hgl).trans (HC.out k hk0 hlt)
          clear hb
          go_wp2_with fail
          go_roundw
          case rel => exact ⟨k + 1, by omega, by omega, by go_num, HB.out⟩
          case measure => simp [intOf]; omega
        · clear hb
          go_wp2_with fail
          go_ret
          exact ⟨rfl, HB.out⟩
end Go.Proofs.YtnjlbkbhlcccmaaDoor
