import Derived.Test.YtlpmpicmpklaoacGreatELawA
namespace Go.Proofs.YtlpmpicmpklaoacGreat
open Go.RowKit Go.Maps Go.Sort
set_option linter.unusedVariables false
set_option linter.unusedSimpArgs false
set_option maxRecDepth 20000

/-- a step of the pair, whatever the operation -/
theorem pstep_any {w0 w : World} {pp nx k : Nat} {S : St} (h : PAll w0 w pp S nx k) (o : OpV) (hbl : i64ok o.block) (hct : i64ok o.count) (hdat : Dat w0 o.dv o.dl) (hb : ∀ k, (S.cache k).length + 2 ≤ 268435456) (hnx : nx ≤ 1152921504606846976) (hk : k ≤ 1152921504606) :
    Calls Tryz.prog 9 #[.pointer (some ⟨pp, 0, none⟩), o.val] w fun e w' => StepPost w0 pp (S.call o) nx k e w' := by
  obtain ⟨kd, bl, ct, dv, dl⟩ := o
  unfold OpV.val
  dsimp only at *
  by_cases hn : ∀ n : Nat, 1 ≤ n → n ≤ 15 → kd ≠ (n : Int)
  · have e1 : S.call ⟨kd, bl, ct, dv, dl⟩ = S := by
      have n1 : ¬ kd = 1 := hn 1 (by omega) (by omega)
      have n2 : ¬ kd = 2 := hn 2 (by omega) (by omega)
      have n3 : ¬ kd = 3 := hn 3 (by omega) (by omega)
      have n4 : ¬ kd = 4 := hn 4 (by omega) (by omega)
      have n5 : ¬ kd = 5 := hn 5 (by omega) (by omega)
      have n10 : ¬ kd = 10 := hn 10 (by omega) (by omega)
      have n11 : ¬ kd = 11 := hn 11 (by omega) (by omega)
      have n13 : ¬ kd = 13 := hn 13 (by omega) (by omega)
      simp only [St.call, n1, n2, n3, n4, n5, n10, n11, n13, if_false]
    rw [e1]
    exact step_no h kd bl ct dv hn
  · have : ∃ n : Nat, 1 ≤ n ∧ n ≤ 15 ∧ kd = (n : Int) := by
      refine Classical.byContradiction fun hc => hn fun n h1 h2 h3 => hc ⟨n, h1, h2, h3⟩
    obtain ⟨n, h1, h2, rfl⟩ := this
    clear hn
    rcases (show n = 1 ∨ n = 2 ∨ n = 3 ∨ n = 4 ∨ n = 5 ∨ n = 6 ∨ n = 7 ∨ n = 8 ∨ n = 9 ∨ n = 10 ∨ n = 11 ∨ n = 12 ∨ n = 13 ∨ n = 14 ∨ n = 15 by omega) with e | e | e | e | e | e | e | e | e | e | e | e | e | e | e <;> subst e
    · exact step_1 h bl ct dv dl hbl hct hdat hb hnx hk
    · exact step_2 h bl ct dv dl hbl hct hdat hb hnx hk
    · exact step_3 h bl ct dv dl hbl hct hdat hb hnx hk
    · exact step_4 h bl ct dv dl hbl hct hdat hb hnx hk
    · exact step_5 h bl ct dv dl hbl hct hdat hb hnx hk
    · exact step_6 h bl ct dv dl hbl hct hdat hb hnx hk
    · exact step_7 h bl ct dv dl hbl hct hdat hb hnx hk
    · exact step_8 h bl ct dv dl hbl hct hdat hb hnx hk
    · exact step_9 h bl ct dv dl hbl hct hdat hb hnx hk
    · exact step_10 h bl ct dv dl hbl hct hdat hb hnx hk
    · exact step_11 h bl ct dv dl hbl hct hdat hb hnx hk
    · exact step_12 h bl ct dv dl hbl hct hdat hb hnx hk
    · exact step_13 h bl ct dv dl hbl hct hdat hb hnx hk
    · exact step_14 h bl ct dv dl hbl hct hdat hb hnx hk
    · exact step_15 h bl ct dv dl hbl hct hdat hb hnx hk
end Go.Proofs.YtlpmpicmpklaoacGreat
