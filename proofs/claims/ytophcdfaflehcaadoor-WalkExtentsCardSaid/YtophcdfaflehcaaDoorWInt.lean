import Derived.Test.YtophcdfaflehcaaDoorWAll
import Derived.Deep.DeepAppendWide
import Derived.Lib.AppendZeros
namespace Go.Proofs.YtophcdfaflehcaaDoor
open Go.RowKit
set_option linter.unusedVariables false
set_option linter.unusedSimpArgs false
set_option maxRecDepth 20000

def iV (x : Int) : Value := .int .i64 x
theorem Tryd.infoI : (Tryd.prog.info? 3).map (fun i => (i.zero, i.size, i.bytes)) = some (some (.int .i64 0), 1, 8) := by kernel_rfl
theorem infoIs : ∃ i, Tryd.prog.info? 3 = some i ∧ i.zero = some (.int .i64 0) ∧ i.size = 1 ∧ i.bytes = 8 := by
  have h := Tryd.infoI
  cases hi : Tryd.prog.info? 3 with
  | none => rw [hi] at h; simp at h
  | some i => rw [hi] at h; simp at h; exact ⟨i, rfl, h.1, h.2.1, h.2.2⟩
/-- one's own list of numbers -/
def IRow (w : World) (v : Value) (l : List Int) : Prop := w.ownsRow 0 3 1 v l.length (l.map iV)
theorem IRow.nil (w : World) : IRow w (.slice none 0 0) [] := ⟨rfl, .inl ⟨rfl, rfl⟩⟩
theorem IRow.kept {w w' : World} {v : Value} {l : List Int} (h : IRow w v l) (hk : ∀ g, v.ownBlock = some g → w'.heap[g]? = w.heap[g]?) : IRow w' v l := by
  refine ⟨h.1, ?_⟩
  rcases h.2 with h0 | ⟨g, cap, cur, rfl, h1, hg, r⟩
  · exact .inl h0
  · exact .inr ⟨g, cap, cur, rfl, h1, by rw [hk g rfl]; exact hg, r⟩
theorem IRow.cells {w : World} {v : Value} {l : List Int} (h : IRow w v l) {g : Nat} (hg : v.ownBlock = some g) : ∃ cs, w.heap[g]? = some (.cells cs 3 (0, 0)) := by
  rcases h.2 with ⟨rfl, _⟩ | ⟨g', cap, cur, rfl, _, hh, _⟩
  · simp [Value.ownBlock] at hg
  · simp only [Value.ownBlock, Option.some.injEq] at hg
    subst hg
    exact ⟨cur, hh⟩
theorem IRow.lt {w : World} {v : Value} {l : List Int} (h : IRow w v l) {g : Nat} (hg : v.ownBlock = some g) : g < w.heap.size := by
  obtain ⟨cs, h1⟩ := h.cells hg
  exact (Array.getElem?_eq_some_iff.1 h1).1
theorem IRow.form {w : World} {v : Value} {l : List Int} (h : IRow w v l) : ∃ a cap, v = .slice a l.length cap ∧ l.length ≤ cap ∧ cap ≤ maxLen := by
  rcases h.2 with ⟨rfl, h0⟩ | ⟨g, cap, cur, rfl, _, _, h1, h2, _⟩
  · rw [h0]; exact ⟨_, _, rfl, Nat.le_refl _, Nat.zero_le _⟩
  · exact ⟨_, _, rfl, h1, h2⟩
/-- what an append does: only v's own block, and new ones -/
structure App (w w' : World) (v v' : Value) : Prop where
  chg : Chg (fun g => v.ownBlock = some g) w w'
  loc : ∀ g, v'.ownBlock = some g → v.ownBlock = some g ∨ w.heap.size ≤ g
theorem run_appendI (w : World) (ty : TypeId) (v : Value) (l : List Int) (hown : IRow w v l) (a : Addr) (m c : Nat) (xs : List Int) (hm : xs.length = m) (hnews : ∀ j u, (xs.map iV)[j]? = some u → w.cell? (a.add j) = some u) (hb : l.length + m ≤ 1000000) (hm0 : 0 < m) :
    ∃ v' w', (Builtin.append_ #[59, 59] ty #[v, .slice (some a) m c]).run Tryd.prog w = .ok v' w' ∧ IRow w' v' (l ++ xs) ∧ App w w' v v' := by
  obtain ⟨i, hi, hz, hsize, hby⟩ := infoIs
  have ht : Tryd.prog.underlying 59 = some (.slice 3) := Tryd.underlying59
  have hl : (xs.map iV).length = m := by simpa using hm
  have h1 : ∀ u ∈ xs.map iV, u.oneCell' = true := fun u hu => by obtain ⟨x, _, rfl⟩ := List.mem_map.1 hu; rfl
  obtain ⟨v', w', hr, ho, hg, -⟩ := run_append_own_wide (P := Tryd.prog) w 0 59 ty 3 i (.int .i64 0) 1 8 ht hi hz hsize hby rfl (by decide) v l.length (l.map iV) hown a m c (xs.map iV) (by omega) hnews h1 (by unfold maxLen; omega) (by omega) (Nat.zero_le _)
  refine ⟨v', w', hr, ?_, ?_, ?_⟩
  · show w'.ownsRow 0 3 1 v' (l ++ xs).length ((l ++ xs).map iV)
    rw [List.length_append, List.map_append, hm]
    exact ho
  · exact ⟨hg.os, hg.tape, hg.output, hg.size, fun b hb hne => hg.block b hb fun e => hne e.symm⟩
  · intro g hgv
    rcases hown.2 with ⟨rfl, h0⟩ | ⟨g0, cap, cur, rfl, hbg, hgc, hnc, hcm, hcs, htake⟩
    · have hr2 := run_append_nil (P := Tryd.prog) w 59 ty 3 i (.int .i64 0) ht hi hz a m c (xs.map iV) (by rw [hsize]; omega) hnews hm0 (by omega) (by rw [hby]; omega)
      rw [hr] at hr2
      injection hr2 with e1 e2
      subst e1
      simp only [Value.ownBlock, Option.some.injEq] at hgv
      exact .inr (by omega)
    · by_cases hroom : l.length + m ≤ cap
      · have hr2 := run_append_room (P := Tryd.prog) w 59 ty 3 i ht hi g0 l.length cap cur hgc a m c (xs.map iV) (by rw [hsize]; omega) hnews h1 hroom (by rw [hsize]; omega)
        rw [hr] at hr2
        injection hr2 with e1 e2
        rw [e1] at hgv
        exact .inl hgv
      · have holds : ∀ j u, (l.map iV)[j]? = some u → w.cell? ((⟨g0, 0, none⟩ : Addr).add j) = some u := World.ownsRow.cells hown (g := g0) rfl
        have hr2 := run_append_grow (P := Tryd.prog) w 59 ty 3 i (.int .i64 0) ht hi hz ⟨g0, 0, none⟩ l.length cap (l.map iV) (by rw [hsize]; exact hown.1) holds a m c (xs.map iV) (by rw [hsize]; omega) hnews (by omega) (by omega) (by rw [hby]; exact growslice_fits_wide (by omega) (by omega))
        rw [hr] at hr2
        injection hr2 with e1 e2
        subst e1
        simp only [Value.ownBlock, Option.some.injEq] at hgv
        exact .inr (by omega)
theorem wpListIn_appendI {F : Fence} {n : Nat} (w : World) {ops : Array Oper} {rest : List Oper} {o : Oper} {a : Act} {Q : Exit → Act → World → Prop} (hg : o.guard = none) (s x : Operand)
    (ho : o.op = .call { callee := .builtin .append, args := #[s, x], argTypes := #[59, 59] })
    (v : Value) (l : List Int) (hs : a.eval s = v) (hown : IRow w v l) (ad : Addr) (c : Nat) (z : Int) (hx : a.eval x = .slice (some ad) 1 c) (hz : w.cell? (ad.add 0) = some (.int .i64 z)) (hb : l.length + 1 ≤ 1000000)
    (h : ∀ v' w', IRow w' v' (l ++ [z]) → App w w' v v' → wpListIn F n Tryd.prog ops Q rest (a.put o.dst v') w') :
    wpListIn F n Tryd.prog ops Q (o :: rest) a w := by
  refine wpListIn_plain hg fun K hK' => ?_
  obtain ⟨v', w', hrun, r1, r2⟩ := run_appendI w o.type v l hown ad 1 c [z] rfl (fun j u hj => by
    cases j with
    | zero => simp only [List.map_cons, List.map_nil, List.getElem?_cons_zero, Option.some.injEq] at hj; rw [← hj]; exact hz
    | succ j => simp at hj) hb (by decide)
  unfold Oper.wpIn
  refine ⟨?_, ?_⟩
  · simp [Oper.about, ho, resolve, Target.leads, Sem.run_pure]
  · rw [Oper.semAt_plain F _ _ (by rw [ho]; intro c hc'; cases hc')]
    simp [execOp, ho, resolve, invoke, builtin, hs, hx, hrun, Result.andThen]
    exact hK' _ _ (h v' w' r1 r2)
end Go.Proofs.YtophcdfaflehcaaDoor
