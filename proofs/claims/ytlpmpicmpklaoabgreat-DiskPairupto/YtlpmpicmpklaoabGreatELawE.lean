import Derived.Test.YtlpmpicmpklaoabGreatELawD
namespace Go.Proofs.YtlpmpicmpklaoabGreat
open Go.RowKit Go.Maps Go.Sort
set_option linter.unusedVariables false
set_option linter.unusedSimpArgs false
set_option maxRecDepth 20000

theorem pmade_any (w : World) (ld : Bool) (n s : Int) (iv : Value) (l : List Nat) (hn : i64ok n) (hs : i64ok s) (hv : BSl w iv l) (hl : l.length ≤ 140737488355000) :
    Calls Tryz.prog 8 #[.agg #[.bool ld, .int .i64 n, .int .i64 s, iv]] w fun e w' => MadePost w e w' := by
  cases ld <;> cases hg : goodGeo n s
  · exact made_new_bad w n s iv hn hs hg
  · exact made_new_good w n s iv hn hs hg
  · exact made_load_bad w n s iv l hn hs hv hl hg
  · by_cases hm : l.length = n.toNat * s.toNat
    · exact made_load_good w n s iv l hn hs hv hl hg hm
    · exact made_load_size w n s iv l hn hs hv hl hg hm
theorem nilDat (w : World) : Dat w (.slice none 0 0) [] := ⟨nilBSl w, by simp⟩
theorem zeroOk : i64ok 0 := ⟨by decide, by decide⟩
theorem PAll.be {w0 w : World} {pp nx k : Nat} {S : St} (h : PAll w0 w pp S nx k) : Below w0.heap.size w0 w := by
  obtain ⟨L, RL, wh, bv, h⟩ := h
  exact h.be
theorem PAll.cell0 {w0 w : World} {pp nx k : Nat} {S : St} (h : PAll w0 w pp S nx k) : ∃ a, w.cell? ⟨pp, 0, none⟩ = some (.pointer (some a)) := by
  obtain ⟨L, RL, wh, bv, h⟩ := h
  exact ⟨_, h.cells.1⟩
set_option maxHeartbeats 2000000 in
theorem news_any (w : World) (ld : Bool) (n s : Int) (iv : Value) (l : List Nat) (hn : i64ok n) (hs : i64ok s) (hv : BSl w iv l) (hl : l.length ≤ 140737488355000) :
    Calls Tryz.prog 3 #[.agg #[.bool ld, .int .i64 n, .int .i64 s, iv]] w fun e w' => e = .returned (.bool true) ∧ Below w.heap.size w w' := by
  have b0 : Below w.heap.size w (w.alloc (.cells #[.bool ld, .int .i64 n, .int .i64 s, iv] 24)) := (Below.refl _ _).alloc (Nat.le_refl _) _
  have HM := hide (pmade_any (w.alloc (.cells #[.bool ld, .int .i64 n, .int .i64 s, iv] 24)) ld n s iv l hn hs (hv.below b0) hl)
  have HB0 := hide b0
  clear hn hs hl hv b0
  go_enter Tryz.func3, Tryz.ntmps3
  go_wp2_with fail
  refine HM.out.mono ?_
  rintro e w1 ⟨pp, rfl, hb1, hpp, hD⟩
  generalize hW : w.alloc (.cells #[.bool ld, .int .i64 n, .int .i64 s, iv] 24) = wA at *
  clear hW HM
  have HBE : Hid (∀ w', Below wA.heap.size wA w' → Below w.heap.size w w') := hide fun w' h => HB0.out.trans (h.mono HB0.out.size)
  rcases hD with hD | ⟨S, hP, hE⟩
  · have HB1 := hide (HBE.out _ hb1)
    clear hb1
    go_wp2
    go_ret
    exact ⟨rfl, HB1.out⟩
  have HE := hide hE
  have HP0 := hide hP
  obtain ⟨a0, ha0⟩ := hP.cell0
  clear hP hE hb1
  have HC0 := hide (step_15 HP0.out 0 0 (.slice none 0 0) [] zeroOk zeroOk (nilDat _) (fun k => by rw [HE.out k]; simp) (by omega) (by omega))
  go_wp2_with fail
  refine HC0.out.mono ?_
  rintro e v1 ⟨rfl, x1, k1, hP, hx1, hk1⟩
  have HP1 := hide hP
  clear hP
  have HC1 := hide (step_9 HP1.out 0 0 (.slice none 0 0) [] zeroOk zeroOk (nilDat _) (fun k => by rw [HE.out k]; simp) (by omega) (by omega))
  go_wp2_with fail
  refine HC1.out.mono ?_
  rintro e v2 ⟨rfl, x2, k2, hP, hx2, hk2⟩
  have HP2 := hide hP
  clear hP
  have HC2 := hide (step_6 HP2.out 0 0 (.slice none 0 0) [] zeroOk zeroOk (nilDat _) (fun k => by rw [HE.out k]; simp) (by omega) (by omega))
  go_wp2_with fail
  refine HC2.out.mono ?_
  rintro e v3 ⟨rfl, x3, k3, hP, hx3, hk3⟩
  have HP3 := hide hP
  clear hP
  have HC3 := hide (step_12 HP3.out 0 0 (.slice none 0 0) [] zeroOk zeroOk (nilDat _) (fun k => by rw [HE.out k]; simp) (by omega) (by omega))
  go_wp2_with fail
  refine HC3.out.mono ?_
  rintro e v4 ⟨rfl, x4, k4, hP, hx4, hk4⟩
  have HP4 := hide hP
  clear hP
  have HC4 := hide (step_14 HP4.out 0 0 (.slice none 0 0) [] zeroOk zeroOk (nilDat _) (fun k => by rw [HE.out k]; simp) (by omega) (by omega))
  go_wp2_with fail
  refine HC4.out.mono ?_
  rintro e v5 ⟨rfl, x5, k5, hP, hx5, hk5⟩
  have HP5 := hide hP
  clear hP
  have HBF := hide (HBE.out _ HP5.out.be)
  go_wp2
  go_ret
  exact ⟨rfl, HBF.out⟩
end Go.Proofs.YtlpmpicmpklaoabGreat
