import Derived.Test.YtlmfdbimchhjjaaIdRef
namespace Go.Proofs.Ytlmfdbimchhjjaa
open Go.RowKit
set_option linter.unusedVariables false
set_option linter.unusedSimpArgs false
set_option maxRecDepth 20000

def swp (q : Int) : Int := if q = 1 then 2 else if q = 2 then 1 else q
theorem wop_swap (n s0 s1 ro rp mo mp : Int) (d e : Bool) (hn : n = 0 ∨ n = 1) : (spOf (1 - n) s0 s1 rp ro mp mo e d).wop = swp (spOf n s0 s1 ro rp mo mp d e).wop := by
  unfold Sp.wop Sp.unch Sp.few Sp.side spOf
  dsimp only
  by_cases h1 : s0 = 1
  · subst h1
    by_cases a : mo = 0 <;> by_cases b : mp = 0 <;> simp [a, b, swp]
  by_cases h2 : s0 = 2
  · subst h2
    by_cases a : mo < mp
    · have b : ¬ mp < mo := by omega
      simp [a, b, swp]
    · by_cases b : mp < mo
      · simp [a, b, swp]
      · rcases hn with rfl | rfl <;> simp [a, b, swp]
  by_cases h3 : s0 = 3
  · subst h3
    rcases hn with rfl | rfl <;> simp [swp]
  by_cases h4 : s0 = 4
  · subst h4
    rcases hn with rfl | rfl <;> simp [swp]
  simp [h1, h2, h3, h4, swp]
theorem gl_swap (d e : Bool) (ro rp s1 q : Int) (h6 : ro = 0 ∨ ro = 1) (h7 : rp = 0 ∨ rp = 1) (hq : q = 0 ∨ q = 1 ∨ q = 2) : gl e d rp ro s1 (swp q) = swp (gl d e ro rp s1 q) ∧ gr e d rp ro = gr d e ro rp := by
  by_cases a : s1 = 6
  · subst a
    rcases hq with rfl | rfl | rfl <;> rcases h6 with rfl | rfl <;> rcases h7 with rfl | rfl <;> cases d <;> cases e <;> decide
  by_cases b : s1 = 5
  · subst b
    rcases hq with rfl | rfl | rfl <;> rcases h6 with rfl | rfl <;> rcases h7 with rfl | rfl <;> cases d <;> cases e <;> decide
  · rcases hq with rfl | rfl | rfl <;> rcases h6 with rfl | rfl <;> rcases h7 with rfl | rfl <;> cases d <;> cases e <;> simp [gl, gr, swp, a, b]
theorem gl_cases (d e : Bool) (ro rp s1 q : Int) (h6 : ro = 0 ∨ ro = 1) (h7 : rp = 0 ∨ rp = 1) (hq : q = 0 ∨ q = 1 ∨ q = 2) : (gl d e ro rp s1 q = 0 ∨ gl d e ro rp s1 q = 1 ∨ gl d e ro rp s1 q = 2) ∧ (gl d e ro rp s1 q = 1 → ro = 0) ∧ (gl d e ro rp s1 q = 2 → rp = 0) := by
  by_cases a : s1 = 6
  · subst a
    rcases hq with rfl | rfl | rfl <;> rcases h6 with rfl | rfl <;> rcases h7 with rfl | rfl <;> cases d <;> cases e <;> decide
  by_cases b : s1 = 5
  · subst b
    rcases hq with rfl | rfl | rfl <;> rcases h6 with rfl | rfl <;> rcases h7 with rfl | rfl <;> cases d <;> cases e <;> decide
  · rcases hq with rfl | rfl | rfl <;> rcases h6 with rfl | rfl <;> rcases h7 with rfl | rfl <;> cases d <;> cases e <;> simp [gl, a, b]
theorem mirK_mir (k : Int) : mirK (mirK k) = k := by unfold mirK; split <;> (try split) <;> (try split) <;> (try split) <;> simp_all
theorem okK_mir (k : Int) : okK (mirK k) = okK k := by
  unfold mirK
  split
  · simp_all [okK]
  split
  · simp_all [okK]
  split
  · simp_all [okK]
  split
  · simp_all [okK]
  rfl
theorem isSp_mir (k : Int) : isSp (mirK k) = isSp k := by
  unfold mirK
  split
  · simp_all [isSp]
  split
  · simp_all [isSp]
  split
  · simp_all [isSp]
  split
  · simp_all [isSp]
  rfl
theorem resv_gl (k r n s0 s1 s2 ro rp mo mp : Int) (d e : Bool) (g1 : okK k = true) (g2 : n = 0 ∨ n = 1) (g3 : ¬ mo < 0) (g4 : ¬ mp < 0) (g5 : okP s0 s1 s2 = true) (g6 : okR ro = true) (g7 : okR rp = true) (g8 : isSp k = true) :
    resv k r n s0 s1 s2 ro rp mo mp d e = if gl d e ro rp s1 (spOf n s0 s1 ro rp mo mp d e).wop = 0 then (k, r, 0) else (rk (gl d e ro rp s1 (spOf n s0 s1 ro rp mo mp d e).wop == 2) (isFu k), gr d e ro rp, 0) := by
  unfold resv
  rw [if_neg (by simp [g1, g2]; omega), if_neg (by simp [g5, g6, g7]), if_neg (by simp [g8]), (gup_gl _).1, (gup_gl _).2]
  rfl
/-- the number of the other node -/
def oth (n : Int) : Int := if n = 0 ∨ n = 1 then 1 - n else n
theorem resv_mir (k r n s0 s1 s2 ro rp mo mp : Int) (d e : Bool) : ∃ ak ar ae : Int, resv k r n s0 s1 s2 ro rp mo mp d e = (ak, ar, ae) ∧ resv (mirK k) r (oth n) s0 s1 s2 rp ro mp mo e d = (mirK ak, ar, ae) ∧ (ae ≠ 0 → ak = 0 ∧ ar = 0) ∧ (ae = 0 → isSp k = false → ak = k ∧ ar = r) ∧
    (ae = 0 → isSp k = true → (n = 0 ∨ n = 1) ∧ ((ak = k ∧ ar = r) ∨ ((ak = 2 ∨ ak = 4) ∧ ro = 0) ∨ ((ak = 1 ∨ ak = 3) ∧ rp = 0))) := by
  by_cases h1 : okK k = false ∨ ¬ (n = 0 ∨ n = 1) ∨ mo < 0 ∨ mp < 0
  · refine ⟨0, 0, 1, by unfold resv; rw [if_pos h1], ?_, by simp, by simp, by simp⟩
    unfold resv
    rw [if_pos]
    · rfl
    · rw [okK_mir]
      unfold oth
      rcases h1 with h | h | h | h
      · exact Or.inl h
      · rw [if_neg h]; exact Or.inr (Or.inl h)
      · exact Or.inr (Or.inr (Or.inr h))
      · exact Or.inr (Or.inr (Or.inl h))
  have g1 : okK k = true := by
    cases e : okK k
    · exact absurd (Or.inl e) h1
    · rfl
  have g2 : n = 0 ∨ n = 1 := by omega
  have g2' : 1 - n = 0 ∨ 1 - n = 1 := by omega
  have g3 : ¬ mo < 0 := fun e => h1 (Or.inr (Or.inr (Or.inl e)))
  have g4 : ¬ mp < 0 := fun e => h1 (Or.inr (Or.inr (Or.inr e)))
  have ho : oth n = 1 - n := by unfold oth; rw [if_pos g2]
  rw [ho]
  have g1' : okK (mirK k) = true := by rw [okK_mir]; exact g1
  by_cases h2 : okP s0 s1 s2 = false ∨ okR ro = false ∨ okR rp = false
  · refine ⟨0, 0, 61, by unfold resv; rw [if_neg (by simp [g1, g2]; omega), if_pos h2], ?_, by simp, by simp, by simp⟩
    unfold resv
    rw [if_neg (by rw [g1']; simp; omega), if_pos (by rcases h2 with h | h | h <;> simp [h])]
    rfl
  have g5 : okP s0 s1 s2 = true := by
    cases e : okP s0 s1 s2
    · exact absurd (Or.inl e) h2
    · rfl
  have g6 : okR ro = true := by
    cases e : okR ro
    · exact absurd (Or.inr (Or.inl e)) h2
    · rfl
  have g7 : okR rp = true := by
    cases e : okR rp
    · exact absurd (Or.inr (Or.inr e)) h2
    · rfl
  cases g8 : isSp k with
  | false =>
    refine ⟨k, r, 0, by unfold resv; rw [if_neg (by simp [g1, g2]; omega), if_neg (by simp [g5, g6, g7]), if_pos g8], ?_, by simp, by simp, by simp⟩
    unfold resv
    rw [if_neg (by rw [g1']; simp; omega), if_neg (by simp [g5, g6, g7]), if_pos (by rw [isSp_mir]; exact g8)]
  | true =>
    have hk : k = 5 ∨ k = 6 := by simpa [isSp] using g8
    have hm : mirK k = k := by rcases hk with rfl | rfl <;> decide
    have h6 : ro = 0 ∨ ro = 1 := by simpa [okR] using g6
    have h7 : rp = 0 ∨ rp = 1 := by simpa [okR] using g7
    rw [resv_gl k r n s0 s1 s2 ro rp mo mp d e g1 g2 g3 g4 g5 g6 g7 g8]
    rw [resv_gl (mirK k) r (1 - n) s0 s1 s2 rp ro mp mo e d g1' g2' g4 g3 g5 g7 g6 (by rw [isSp_mir]; exact g8), hm, wop_swap n s0 s1 ro rp mo mp d e g2]
    have hq := wop_cases (spOf n s0 s1 ro rp mo mp d e)
    generalize (spOf n s0 s1 ro rp mo mp d e).wop = q at *
    obtain ⟨e1, e2⟩ := gl_swap d e ro rp s1 q h6 h7 hq
    obtain ⟨c1, c2, c3⟩ := gl_cases d e ro rp s1 q h6 h7 hq
    rw [e1, e2]
    generalize gl d e ro rp s1 q = L at *
    generalize gr d e ro rp = R at *
    rcases c1 with rfl | rfl | rfl
    · exact ⟨k, r, 0, by simp, by simp [swp, hm], by simp, by simp, by simp [g2]⟩
    · have := c2 rfl
      rcases hk with rfl | rfl
      · exact ⟨2, R, 0, by simp [rk, isFu], by simp [swp, rk, isFu, mirK], by simp, by simp, by simp [g2, this]⟩
      · exact ⟨4, R, 0, by simp [rk, isFu], by simp [swp, rk, isFu, mirK], by simp, by simp, by simp [g2, this]⟩
    · have := c3 rfl
      rcases hk with rfl | rfl
      · exact ⟨1, R, 0, by simp [rk, isFu], by simp [swp, rk, isFu, mirK], by simp, by simp, by simp [g2, this]⟩
      · exact ⟨3, R, 0, by simp [rk, isFu], by simp [swp, rk, isFu, mirK], by simp, by simp, by simp [g2, this]⟩
theorem resv_sec (k r n : Int) (hn : n = 0 ∨ n = 1) (hk : k = 5 ∨ k = 6) : resv k r n 0 5 0 n (1 - n) 0 0 false false = ((if n = 1 then 1 else 2) + (if k = 6 then 2 else 0), 22, 0) := by
  rcases hn with rfl | rfl <;> rcases hk with rfl | rfl <;> rfl
theorem fd_0 : fd 0 = false := by decide
end Go.Proofs.Ytlmfdbimchhjjaa
