import Derived.Test.YtcdmkbjibcahcaaTAl
namespace Go.Proofs.Ytcdmkbjibcahcaa
open Go.RowKit
set_option linter.unusedVariables false
set_option linter.unusedSimpArgs false
set_option maxRecDepth 20000

theorem AL.new (w : World) (lim ep : Nat) (h1 : 1 ≤ lim) (h2 : lim ≤ 1024) (h3 : 1 ≤ ep) (h4 : ep ≤ 64) : Calls Try.prog 29 #[.int .i64 (lim : Int), .int .i64 (ep : Int)] w fun e y => ∃ p bm, e = .returned (.tuple #[.pointer (some ⟨p, 0, none⟩), .int .i64 0]) ∧ AL w y p bm (.slice none 0 0) (newS lim ep) 0 := by
  refine (New_ok w lim ep h1 h2 h3 h4).mono ?_
  rintro e y ⟨p, bm, rfl, r, b, o1, o2⟩
  refine ⟨p, bm, rfl, r, b, ?_, newS_ok h1 h2 h3 h4, Nat.le_refl _, Nat.le_refl _⟩
  rintro g (rfl | rfl | e)
  · exact o1
  · exact o2
  · simp [Value.ownBlock] at e
theorem new_ref {lim ep : Nat} (h1 : 1 ≤ lim) (h3 : 1 ≤ ep) : refE (newS lim ep) 5 77 = 0 := by
  unfold refE
  rw [if_neg (by decide), if_neg (by decide), if_neg (by simp [newS, ids]), if_neg]
  rintro (e | e)
  · simp [newS, LS.es] at e; omega
  · simp [newS, joinN, LS.es] at e; omega
def m1 (lim ep : Nat) : LS := addS (newS lim ep) 5 77
def m2 (lim ep : Nat) : LS := closeS (m1 lim ep)
theorem m1_join {lim ep : Nat} : joinN (m1 lim ep) = 1 := by
  simp [m1, addS, newS, joinN, LS.es]
theorem m2_eq {lim ep : Nat} : m2 lim ep = ⟨lim, ep, 2, 0, [((5, 77, 1), false)]⟩ := by
  unfold m2
  rw [closeS_pos (by rw [m1_join]; decide)]
  rfl
theorem m2_bar {lim ep : Nat} : barB (m2 lim ep) 1 1 = true ∧ frontN (m2 lim ep) = 1 := by
  rw [m2_eq]
  constructor
  · simp [barB, oldE, frontN, LS.es, e0]
  · simp [frontN, LS.es, e0]
set_option maxHeartbeats 2000000 in
theorem made_any (w : World) (lim ep : Nat) (h1 : 1 ≤ lim) (h2 : lim ≤ 1024) (h3 : 1 ≤ ep) (h4 : ep ≤ 64) : Calls Try.prog 10 #[.int .i64 (lim : Int), .int .i64 (ep : Int)] w fun e y => ∃ p bm, e = .returned (.tuple #[.pointer (some ⟨p, 0, none⟩), .bool true]) ∧ AL w y p bm (.slice none 0 0) (newS lim ep) 0 := by
  have HNW : Hid (∀ x, _) := hide fun x => AL.new x lim ep h1 h2 h3 h4
  have HNM : Hid (∀ x z, _) := hide fun x z => num_any x z
  have HAD : Hid (∀ w1 x p bm v, AL w1 x p bm v (newS lim ep) 0 → _) := hide fun w1 x p bm v (h : AL w1 x p bm v (newS lim ep) 0) => h.add0 (by decide) 5 77 ⟨by decide, by decide⟩ (new_ref h1 h3)
  have hbe : decide (joinN (newS lim ep) + 1 = (newS lim ep).ep) = ((ep : Int) == 1) := by
    rw [Bool.eq_iff_iff]
    simp [newS, joinN, LS.es]
    omega
  rw [hbe, show (((newS lim ep).now : Nat) : Int) = 1 from rfl] at HAD
  clear hbe
  have HCL : Hid (∀ w1 x p bm v, AL w1 x p bm v (m1 lim ep) 1 → _) := hide fun w1 x p bm v (h : AL w1 x p bm v (m1 lim ep) 1) => h.close (by decide)
  rw [m1_join, show (((m1 lim ep).now : Nat) : Int) = 1 from rfl] at HCL
  have HBR : Hid (∀ w1 x p bm v, AL w1 x p bm v (m2 lim ep) 2 → _) := hide fun w1 x p bm v (h : AL w1 x p bm v (m2 lim ep) 2) => h.bar0 (by decide) 1 1 m2_bar.1
  have HTK : Hid ((m2 lim ep).es.take (frontN (m2 lim ep)) = [(5, 77, 1)]) := hide (by rw [m2_bar.2, m2_eq]; rfl)
  have HSE : Hid (∀ x, _) := hide fun x => sameEntry_any x (5, 77, 1) (5, 77, 1)
  rw [decide_eq_true rfl] at HSE
  have hbb : (((ep : Int) == 1) != ((ep : Int) == 1)) = false := by simp
  clear h1 h2 h3 h4
  go_enter Try.func10, Try.ntmps10
  go_wp2_with (first
    | (go_at_call 29; first
        | (refine (HNW.out w).mono ?_; rintro e w1 ⟨p, bm, rfl, a1⟩; have HA1 := hide a1; clear a1)
        | (refine (HNW.out w1).mono ?_; rintro e w2 ⟨p2, bm2, rfl, a2⟩; have HA2 := hide a2; clear a2))
    | (go_at_call 13; refine (HNM.out _ _).mono ?_; rintro e w9 ⟨rfl, h9⟩; have h9s := h9.symm; clear h9; subst h9s)
    | (go_at_call 11; refine (HAD.out _ _ _ _ _ HA2.out).mono ?_; rintro e w3 ⟨v3, rfl, a3, -⟩; have HA3 := hide a3; clear a3 HA2)
    | (go_at_call 14; refine (HCL.out _ _ _ _ _ HA3.out).mono ?_; rintro e w4 ⟨rfl, a4, -⟩; have HA4 := hide a4; clear a4 HA3)
    | (go_at_call 17; refine (HBR.out _ _ _ _ _ HA4.out).mono ?_; rintro e w5 ⟨lv, v5, rfl, q1, -, a5, -⟩; rw [HTK.out] at q1; obtain ⟨al, cl, rfl, l1, l2, l3⟩ := q1.form; obtain ⟨gl, ol, rfl, -, d0, d1, d2⟩ := l3 0 (by decide); change w5.cell? ⟨gl, ol, none⟩ = some (.int .i64 5) at d0; change w5.cell? ⟨gl, ol + 1, none⟩ = some (.int .i64 77) at d1; change w5.cell? ⟨gl, ol + 2, none⟩ = some (.int .i64 1) at d2; have HA5 := hide a5; clear a5 HA4 q1 l3)
    | (go_at_call 26; refine (HSE.out _).mono ?_; rintro e w6 ⟨rfl, q6⟩; have HQ6 := hide q6; clear q6))
  (try simp only [Exit.inBlock, Exit.then]); refine bodyPost_ret (results_tmp2 rfl _ _ _) rfl ?_
  exact ⟨p, bm, rfl, HA1.out.below (HA5.out.bel.trans (HQ6.out.mono HA5.out.bel.size))⟩
end Go.Proofs.Ytcdmkbjibcahcaa
