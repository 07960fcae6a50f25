import Derived.Test.YtlpmpicmpklaoacGreatELawD
namespace Go.Proofs.YtlpmpicmpklaoacGreat
open Go.RowKit Go.Maps Go.Sort
set_option linter.unusedVariables false
set_option linter.unusedSimpArgs false
set_option maxRecDepth 20000

theorem pmade_any (w : World) (ld : Bool) (n s : Int) (iv : Value) (l : List Nat) (hn : i64ok n) (hs : i64ok s) (hv : BSl w iv l) (hl : l.length ≤ 140737488355000) :
    Calls Tryz.prog 8 #[.agg #[.bool ld, .int .i64 n, .int .i64 s, iv]] w fun e w' => MadePost w e w' := by
  cases ld <;> cases hg : goodGeo n s
  · exact made_new_bad w n s iv hn hs hg
  · exact made_new_good w n s iv hn hs hg
  · exact made_load_bad w n s iv l hn hs hv hl hg
  · by_cases hm : l.length = n.toNat * s.toNat
    · exact made_load_good w n s iv l hn hs hv hl hg hm
    · exact made_load_size w n s iv l hn hs hv hl hg hm
theorem nilDat (w : World) : Dat w (.slice none 0 0) [] := ⟨nilBSl w, by simp⟩
theorem zeroOk : i64ok 0 := ⟨by decide, by decide⟩
theorem PAll.be {w0 w : World} {pp nx k : Nat} {S : St} (h : PAll w0 w pp S nx k) : Below w0.heap.size w0 w := by
  obtain ⟨L, RL, wh, bv, h⟩ := h
  exact h.be
theorem PAll.cell0 {w0 w : World} {pp nx k : Nat} {S : St} (h : PAll w0 w pp S nx k) : ∃ a, w.cell? ⟨pp, 0, none⟩ = some (.pointer (some a)) := by
  obtain ⟨L, RL, wh, bv, h⟩ := h
  exact ⟨_, h.cells.1⟩
end Go.Proofs.YtlpmpicmpklaoacGreat
