import Derived.Test.YtcdmkbjibcahcabTCp
namespace Go.Proofs.Ytcdmkbjibcahcab
open Go.RowKit
set_option linter.unusedVariables false
set_option linter.unusedSimpArgs false
set_option maxRecDepth 20000

theorem ERow.slc {w : World} {v : Value} {l : List En} (h : ERow w v l) {g : Nat} (e : v.ownBlock = some g) : ∃ o c, v = .slice (some ⟨g, o, none⟩) l.length c := by
  rcases h with ⟨rfl, _⟩ | ⟨g', off, cap, cur, rfl, hg', _⟩
  · simp [Value.ownBlock] at e
  · simp only [Value.ownBlock, Option.some.injEq] at e
    subst e
    exact ⟨off, cap, rfl⟩
/-- a list grows behind a list that was handed out -/
structure GI (w1 wr : World) (lv gv : Value) (M : List En) (e : En) (j : Nat) : Prop where
  tr : Tr w1 wr lv
  l : ERow wr lv M
  r : ERow wr gv (M ++ List.replicate j e)
  loc : ∀ g o n c o' n' c', lv = .slice (some ⟨g, o, none⟩) n c → gv = .slice (some ⟨g, o', none⟩) n' c' → o ≤ o' ∧ o' + c' * 3 ≤ o + c * 3
  own : ∀ g, gv.ownBlock = some g → lv.ownBlock = some g ∨ w1.heap.size ≤ g
theorem GI.start {w1 wr : World} {lv : Value} {M : List En} {e : En} (ht : Tr w1 wr lv) (hl : ERow wr lv M) : GI w1 wr lv lv M e 0 := ⟨ht, hl, by simpa using hl, fun g o n c o' n' c' e e2 => by
  have := Fr.rfl1 lv g o n c o' n' c' e e2
  exact ⟨this.1, this.2.1⟩, fun g e => .inl e⟩
theorem GI.calm {w1 wr x : World} {lv gv : Value} {M : List En} {e : En} {j : Nat} (h : GI w1 wr lv gv M e j) (hb : Below wr.heap.size wr x) : GI w1 x lv gv M e j := ⟨h.tr.calm hb, h.l.below hb, h.r.below hb, h.loc, h.own⟩
theorem GI.next {w1 x w3 : World} {lv gv gv' : Value} {M : List En} {e : En} {j : Nat} (h : GI w1 x lv gv M e j) (hr : ERow w3 gv' ((M ++ List.replicate j e) ++ [e])) (ha : App x w3 gv gv') (hf : Fr x w3 gv gv') : GI w1 w3 lv gv' M e (j + 1) := by
  have hs := h.tr.size
  refine ⟨⟨ha.chg.os.trans h.tr.os, ha.chg.tape.trans h.tr.tape, ha.chg.output.trans h.tr.output, Nat.le_trans hs ha.chg.size, fun g hg hn => ?_, fun g o n c cur e1 hg => ?_⟩, ?_, ?_, fun g o n c o' n' c' e1 e2 => ?_, fun g e1 => ?_⟩
  · refine (ha.chg.keep g (by omega) fun e2 => ?_).trans (h.tr.keep g hg hn)
    rcases h.own g e2 with e3 | e3
    · exact hn e3
    · omega
  · obtain ⟨c1, k1, k2, k3⟩ := h.tr.inn g o n c cur e1 hg
    by_cases e2 : gv.ownBlock = some g
    · obtain ⟨o', c', e3⟩ := h.r.slc e2
      obtain ⟨c2, m1, m2, m3⟩ := hf.kp g o' _ c' c1 e3 k1
      obtain ⟨q1, q2⟩ := h.loc g o n c o' _ c' e1 e3
      refine ⟨c2, m1, m2.trans k2, fun i hi => (m3 i ?_).trans (k3 i hi)⟩
      omega
    · exact ⟨c1, (ha.chg.keep g (Array.getElem?_eq_some_iff.1 k1).1 e2).trans k1, k2, k3⟩
  · rcases h.l with ⟨rfl, rfl⟩ | ⟨g, off, cap, cur, rfl, h1, h2, h3, h4, h5⟩
    · exact .inl ⟨rfl, rfl⟩
    · by_cases e2 : gv.ownBlock = some g
      · obtain ⟨o', c', e3⟩ := h.r.slc e2
        obtain ⟨c2, m1, m2, m3⟩ := hf.kp g o' _ c' cur e3 h1
        obtain ⟨q1, q2⟩ := h.loc g off _ cap o' _ c' rfl e3
        refine .inr ⟨g, off, cap, c2, rfl, m1, by omega, h3, h4, ?_⟩
        rw [← h5]
        apply List.ext_getElem?
        intro i
        rw [List.getElem?_take, List.getElem?_take]
        by_cases hi : i < M.length * 3
        · rw [if_pos hi, if_pos hi, List.getElem?_drop, List.getElem?_drop, Array.getElem?_toList, Array.getElem?_toList]
          refine m3 (off + i) (.inl ?_)
          rw [List.length_append]
          omega
        · rw [if_neg hi, if_neg hi]
      · exact .inr ⟨g, off, cap, cur, rfl, (ha.chg.keep g (Array.getElem?_eq_some_iff.1 h1).1 e2).trans h1, h2, h3, h4, h5⟩
  · rw [List.replicate_succ', ← List.append_assoc]
    exact hr
  · have hgl : g < x.heap.size := h.l.lt (by rw [e1]; rfl)
    rcases ha.loc g (by rw [e2]; rfl) with e3 | e3
    · obtain ⟨o1, c1, e4⟩ := h.r.slc e3
      obtain ⟨q1, q2⟩ := h.loc g o n c o1 _ c1 e1 e4
      obtain ⟨q3, q4, -⟩ := hf.fw g o1 _ c1 o' n' c' e4 e2
      omega
    · omega
  · rcases ha.loc g e1 with e2 | e2
    · exact h.own g e2
    · exact .inr (by omega)
end Go.Proofs.Ytcdmkbjibcahcab
