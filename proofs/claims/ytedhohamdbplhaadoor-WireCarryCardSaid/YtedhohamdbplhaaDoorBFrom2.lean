import Derived.Test.YtedhohamdbplhaaDoorBMerge
namespace Go.Proofs.YtedhohamdbplhaaDoor.B
open Go.RowKit
set_option linter.unusedVariables false
set_option linter.unusedSimpArgs false
set_option maxRecDepth 20000

theorem From_no {w : World} {v : Value} {l : List Nat} (n : Int) (h : ¬ (1 ≤ n ∧ n ≤ 65536)) (hv : WSl w v l) :
    Calls Tryd.prog 47 #[.int .i64 n, v] w fun e w' => e = .returned (.tuple #[.pointer none, .int .i64 1]) ∧ w' = w := by
  have HN := hide (New_no w n h)
  obtain ⟨a, cap, rfl, q1, q2, q3, q4, q5⟩ := hv
  clear q5 q4
  generalize l.length = len at *
  go_enter Tryd.func47, Tryd.ntmps47
  go_wp2_with (go_at_call 51; refine HN.out.mono ?_; rintro e w' ⟨rfl, rfl⟩)
  go_ret2
  exact ⟨rfl, rfl⟩

theorem From_bad {w : World} {v : Value} {l : List Nat} (n : Nat) (h1 : 1 ≤ n) (h2 : n ≤ 65536) (hv : WSl w v l) (he : cwErr n l ≠ 0) :
    Calls Tryd.prog 47 #[.int .i64 (n : Int), v] w fun e w' => e = .returned (.tuple #[.pointer none, .int .i64 ((cwErr n l : Nat) : Int)]) ∧ Below w.heap.size w w' := by
  have HN := hide (New_any w n h1 h2)
  have HV := hide hv
  have hne' : ((((cwErr n l : Nat)) : Int) != 0) = true := by simpa using he
  have HE := hide he
  obtain ⟨a, cap, rfl, q1, q2, q3, q4, q5⟩ := hv
  clear q5 q4 he
  generalize hee : cwErr n l = ee at *
  have HEE := hide hee
  clear hee
  generalize hlen : l.length = len at *
  have HLEN := hide hlen
  clear hlen
  unfold PB at HN
  go_enter Tryd.func47, Tryd.ntmps47
  go_wp2_with (first
    | (go_at_call 51; refine HN.out.mono ?_; rintro e w1 ⟨L, rfl, hnew⟩; have HNEW := hide hnew; clear hnew)
    | (go_at_call 57; refine (Merge_no HNEW.out.1 (HV.out.below HNEW.out.2.1) (by rw [HEE.out]; exact HE.out)).mono ?_; rw [HEE.out]; rintro e w' ⟨rfl, rfl⟩))
  go_ret2
  exact ⟨rfl, HNEW.out.2.1⟩

theorem From_any {w : World} {v : Value} {l : List Nat} (n : Nat) (h1 : 1 ≤ n) (h2 : n ≤ 65536) (hv : WSl w v l) (he : cwErr n l = 0) :
    Calls Tryd.prog 47 #[.int .i64 (n : Int), v] w fun e w' => ∃ L, e = .returned (.tuple #[PB L, .int .i64 0]) ∧ BNewAt w w' L n (valW l) := by
  have HN := hide (New_any w n h1 h2)
  have HV := hide hv
  have HE := hide he
  have hl := hv.lt
  have hlen0 : 0 < l.length := by rw [(valW_listed h1 hl he).1]; unfold nW; omega
  have hblk : ∀ g, blockOf v = some g → g < w.heap.size := by
    obtain ⟨a, cap, rfl, q1, q2, q3, q4, q5⟩ := hv
    obtain ⟨b, off, rfl, hc⟩ := q5 hlen0
    intro g hg
    simp only [blockOf, Option.some.injEq] at hg
    subst hg
    exact World.block_lt_of_cell? w _ (hc 0 hlen0)
  have HBLK := hide hblk
  clear hblk
  obtain ⟨a, cap, rfl, q1, q2, q3, q4, q5⟩ := hv
  clear q5 q4 he
  unfold PB at *
  go_enter Tryd.func47, Tryd.ntmps47
  go_wp2_with (first
    | (go_at_call 51; refine HN.out.mono ?_; rintro e w1 ⟨L, rfl, hnew⟩; have HNEW := hide hnew; clear hnew)
    | (go_at_call 57; refine (Merge_any HNEW.out.1 (HV.out.below HNEW.out.2.1) (fun g hg hu => by have := HNEW.out.2.2 g hu; have := HBLK.out g hg; omega) HE.out).mono ?_; rintro e w2 ⟨rfl, hrep, hchg, hsz⟩; have HREP := hide hrep; have HCHG := hide hchg; clear hrep hchg hsz))
  go_ret2
  refine ⟨L, rfl, by have := HREP.out; rwa [Nat.zero_or] at this, ?_, HNEW.out.2.2⟩
  have hb := HNEW.out.2.1
  have hc := HCHG.out.below (N := w.heap.size) hb.size HNEW.out.2.2
  exact hb.trans hc

theorem cnt_wd (B k : Nat) : cnt (wd B k).testBit 64 = cnt (fun j => B.testBit (64 * k + j)) 64 := cnt_congr 64 fun i hi => by rw [testBit_wd]; simp [hi]
/-- what may be wrong with a range -/
def rgErr (n : Nat) (a c : Int) : Nat := if c < 0 then 1 else if a < 0 ∨ (n : Int) < a ∨ (n : Int) - a < c then 2 else 0
theorem checkRange_any {w : World} {L : BL} {n B : Nat} (h : BRep w L n B) (a c : Int) :
    Calls Tryd.prog 75 #[PB L, .int .i64 a, .int .i64 c] w fun e w' => e = .returned (.int .i64 ((rgErr n a c : Nat) : Int)) ∧ w' = w := by
  have c0 := h.c0
  have hn := h.n2
  unfold PB rgErr
  clear h
  by_cases h1 : c < 0
  · rw [if_pos h1]
    go_enter Tryd.func75, Tryd.ntmps75
    go_wp2
    go_ret
    exact ⟨rfl, rfl⟩
  · rw [if_neg h1]
    by_cases h2 : a < 0
    · rw [if_pos (.inl h2)]
      go_enter Tryd.func75, Tryd.ntmps75
      go_wp2
      go_ret
      exact ⟨rfl, rfl⟩
    · by_cases h3 : (n : Int) < a
      · rw [if_pos (.inr (.inl h3))]
        go_enter Tryd.func75, Tryd.ntmps75
        go_wp2
        go_ret
        exact ⟨rfl, rfl⟩
      · by_cases h4 : (n : Int) - a < c
        · rw [if_pos (.inr (.inr h4))]
          go_enter Tryd.func75, Tryd.ntmps75
          go_wp2
          go_ret
          exact ⟨rfl, rfl⟩
        · rw [if_neg (by omega)]
          go_enter Tryd.func75, Tryd.ntmps75
          go_wp2
          go_ret
          exact ⟨rfl, rfl⟩
end Go.Proofs.YtedhohamdbplhaaDoor.B
