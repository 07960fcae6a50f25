import Derived.Test.YtnjlbkbhlcccmaaDoorBNext
namespace Go.Proofs.YtnjlbkbhlcccmaaDoor
open Go.RowKit
set_option linter.unusedVariables false
set_option linter.unusedSimpArgs false

theorem bit_lt {B n i : Nat} (h : B < 2 ^ n) (hi : B.testBit i = true) : i < n := by
  apply Nat.lt_of_not_le
  intro hn
  rw [bit_ge h hn] at hi
  simp at hi
theorem nx_word {B n j : Nat} (hB : B < 2 ^ n) (h : wd B (j / 64) / 2 ^ (j % 64) ≠ 0) : nx B n j = some (j + Lib.ctz 64 (wd B (j / 64) / 2 ^ (j % 64))) ∧ Lib.ctz 64 (wd B (j / 64) / 2 ^ (j % 64)) < 64 := by
  obtain ⟨h1, h2, h3⟩ := wd_shf_some h
  have := bit_lt hB h2
  exact ⟨fnd_some _ _ _ (by omega) (by omega) h2 h3, h1⟩
theorem nx_none {B n j : Nat} (h : wd B (j / 64) / 2 ^ (j % 64) = 0) (hf : fnd (fun k => decide (wd B k ≠ 0)) (j / 64 + 1) (nW n - (j / 64 + 1)) = none) : nx B n j = none := by
  refine fnd_none _ _ fun i h1 h2 => ?_
  by_cases hi : i < (j / 64 + 1) * 64
  · exact wd_shf_none h i h1 hi
  · have := fnd_isNone _ _ hf (i / 64) (by omega) (by unfold nW; omega)
    rw [bit_of_wd]
    simp only [ne_eq, decide_eq_false_iff_not, Decidable.not_not] at this
    rw [this]; simp
theorem nx_next {B n j k : Nat} (hB : B < 2 ^ n) (h : wd B (j / 64) / 2 ^ (j % 64) = 0) (hf : fnd (fun k => decide (wd B k ≠ 0)) (j / 64 + 1) (nW n - (j / 64 + 1)) = some k) :
    nx B n j = some (k * 64 + Lib.ctz 64 (wd B k)) ∧ wd B k ≠ 0 ∧ k < nW n ∧ Lib.ctz 64 (wd B k) < 64 := by
  obtain ⟨h1, h2, h3, h4⟩ := fnd_is _ _ _ hf
  simp only [ne_eq, decide_eq_true_eq] at h3
  obtain ⟨c1, c2, c3⟩ := ctz_spec h3 (wd_lt B k)
  generalize Lib.ctz 64 (wd B k) = c at *
  rw [testBit_wd] at c2
  simp only [Bool.and_eq_true, decide_eq_true_eq] at c2
  have hl := bit_lt hB c2.2
  refine ⟨fnd_some _ _ _ (by omega) (by omega) (by rw [Nat.mul_comm]; exact c2.2) (fun i hi hi' => ?_), h3, by omega, c1⟩
  by_cases h64 : i < (j / 64 + 1) * 64
  · exact wd_shf_none h i hi h64
  · by_cases hk : i / 64 < k
    · have := h4 (i / 64) (by omega) hk
      simp only [ne_eq, decide_eq_false_iff_not, Decidable.not_not] at this
      rw [bit_of_wd, this]; simp
    · have e : i / 64 = k := by omega
      rw [bit_of_wd, e]
      exact c3 _ (by omega)

theorem Next_any {w : World} {L : BL} {n B : Nat} (h : BRep w L n B) (hT : TabAt w) (i : Int) :
    Calls Tryd.prog 32 #[PB L, .int .i64 i] w fun e w' => e = .returned (.int .i64 (orN (nx B n i.toNat))) ∧ w' = w := by
  have c0 := h.c0
  have c1 := h.c1
  have hn := h.n2
  have hB := hide h.hB
  have hW : nW n ≤ 1024 := by unfold nW; omega
  generalize hRes : orN (nx B n i.toNat) = R
  have HRes := hide hRes
  clear hRes
  obtain ⟨j, hj⟩ : ∃ j : Nat, i.toNat = j := ⟨_, rfl⟩
  have hmx : (if i < 0 then 0 else i) = (j : Int) := by split <;> omega
  have HJ := hide hj
  clear hj
  by_cases hlt : j < n
  · have hq : j / 64 < nW n := by unfold nW; omega
    have hc := h.cl hq
    have hs : ((wd B (j / 64) : Nat) : Int) / 2 ^ (j % 64) = ((wd B (j / 64) / 2 ^ (j % 64) : Nat) : Int) := by rw [Int.natCast_ediv]; simp
    have hu : wd B (j / 64) / 2 ^ (j % 64) < 18446744073709551616 := Nat.lt_of_le_of_lt (Nat.div_le_self _ _) (wd_lt _ _)
    by_cases h0 : wd B (j / 64) / 2 ^ (j % 64) = 0
    · have H0 := hide h0
      rw [h0] at hs
      simp only [Int.natCast_zero] at hs
      clear h0 hu
      have hcall := nextWord_any h hT (j / 64 + 1) (by omega)
      cases hf : fnd (fun k => decide (wd B k ≠ 0)) (j / 64 + 1) (nW n - (j / 64 + 1)) with
      | none =>
        have HR : Hid (R = -1) := hide (by rw [← HRes.out, HJ.out, nx_none H0.out hf]; rfl)
        rw [hf] at hcall
        have HC := hide hcall
        clear hcall hf H0 HRes HJ h hT
        generalize wd B (j / 64) = u at hc hs
        generalize nW n = m1 at *
        unfold PB at *
        go_enter Tryd.func32, Tryd.ntmps32
        go_wp2_with (go_at_call 59; refine HC.out.mono ?_; rintro e w' ⟨rfl, rfl⟩; simp only [orN])
        go_ret
        exact ⟨ret_int HR.out.symm, rfl⟩
      | some k =>
        obtain ⟨e1, e2, e3, e4⟩ := nx_next hB.out H0.out hf
        have hck := h.cl e3
        have hl := wd_lt B k
        have HR : Hid (R = ((k * 64 + Lib.ctz 64 (wd B k) : Nat) : Int)) := hide (by rw [← HRes.out, HJ.out, e1]; rfl)
        rw [hf] at hcall
        have HC := hide hcall
        clear hcall hf H0 HRes HJ h e1 hB
        generalize wd B (j / 64) = u at hc hs
        generalize wd B k = v at *
        generalize hcz : Lib.ctz 64 v = c at *
        have HCZ := hide hcz
        clear hcz
        have HT := hide hT
        clear hT
        generalize nW n = m1 at *
        unfold PB at *
        go_enter Tryd.func32, Tryd.ntmps32
        go_wp2_with (first
          | (go_at_call 59; refine HC.out.mono ?_; rintro e w' ⟨rfl, rfl⟩; simp only [orN])
          | (go_at_call 58; refine (tz_any v hl e2 _ HT.out).mono ?_; rw [HCZ.out]; rintro e w' ⟨rfl, rfl⟩))
        go_ret
        exact ⟨ret_int (by rw [HR.out]; omega), rfl⟩
    · obtain ⟨e1, e2⟩ := nx_word hB.out h0
      have HR : Hid (R = ((j + Lib.ctz 64 (wd B (j / 64) / 2 ^ (j % 64)) : Nat) : Int)) := hide (by rw [← HRes.out, HJ.out, e1]; rfl)
      have hne : ((((wd B (j / 64) / 2 ^ (j % 64) : Nat)) : Int) != 0) = true := by simp; omega
      clear HRes HJ h e1 hB
      generalize wd B (j / 64) / 2 ^ (j % 64) = r at *
      generalize wd B (j / 64) = u at hc hs
      generalize hcz : Lib.ctz 64 r = c at *
      have HCZ := hide hcz
      clear hcz
      have HT := hide hT
      clear hT
      generalize nW n = m1 at *
      unfold PB at *
      go_enter Tryd.func32, Tryd.ntmps32
      go_wp2_with (go_at_call 58; refine (tz_any r hu h0 _ HT.out).mono ?_; rw [HCZ.out]; rintro e w' ⟨rfl, rfl⟩)
      go_ret
      exact ⟨ret_int (by rw [HR.out]; omega), rfl⟩
  · have HR : Hid (R = -1) := hide (by rw [← HRes.out, HJ.out]; unfold nx; rw [show n - j = 0 by omega]; rfl)
    clear HRes HJ h hT hB
    unfold PB
    go_enter Tryd.func32, Tryd.ntmps32
    go_wp2_with fail
    go_ret
    exact ⟨ret_int HR.out.symm, rfl⟩
end Go.Proofs.YtnjlbkbhlcccmaaDoor
