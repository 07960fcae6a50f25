import Derived.Test.YtcdmkbjibcahcabTRo
import Derived.Laws.OwnMore
namespace Go.Proofs.Ytcdmkbjibcahcab
open Go.RowKit
set_option linter.unusedVariables false
set_option linter.unusedSimpArgs false
set_option maxRecDepth 20000

theorem lnvs_set {l : Ls} {i : Nat} {x : En} {b c : Bool} (h : l[i]? = some (x, b)) : (lnvs l).set (i * 4 + 3) (.bool c) = lnvs (l.set i (x, c)) := by
  induction l generalizing i with
  | nil => simp at h
  | cons a l ih =>
    cases i with
    | zero =>
      simp at h
      subst h
      simp [lnvs_cons]
    | succ i =>
      rw [show (i + 1) * 4 + 3 = i * 4 + 3 + 1 + 1 + 1 + 1 by omega, List.set_cons_succ, lnvs_cons, lnvs_cons]
      simp only [List.set_cons_succ]
      rw [ih (by simpa using h)]
theorem ixI_at {l : Ls} {i : Nat} {x : En × Bool} (hd : (ids l).Nodup) (h : l[i]? = some x) : ixI l x.1.1 = (i : Int) := by
  obtain ⟨hi, e⟩ := List.getElem?_eq_some_iff.1 h
  have e2 : ixN l x.1.1 = i := by
    unfold ixN
    rw [List.findIdx_eq hi]
    refine ⟨by rw [e]; simp, fun j hj => ?_⟩
    rw [beq_eq_false_iff_ne]
    intro e3
    have hj2 : j < l.length := by omega
    have := (List.getElem_inj (xs := ids l) (i := j) (j := i) (h₀ := by simpa [ids] using hj2) (h₁ := by simpa [ids] using hi) hd).1 (by simp [ids, e3, e])
    omega
  unfold ixI
  rw [e2, if_pos hi]
set_option maxHeartbeats 1000000 in
theorem rack_no {w : World} {q : Nat} {v : Value} {S : LS} (h : DL w q v S) (hl : S.ls.length ≤ 2000) (id : Int) (hn : id ∉ ids S.ls) : Calls Try.prog 28 #[.pointer (some ⟨q, 0, none⟩), .int .i64 id] w fun e w' =>
    e = .returned (.tuple #[.agg #[.int .i64 0, .int .i64 0, .int .i64 0], .int .i64 103]) ∧ DT w w' q v v S := by
  have HF := hide fun (x : World) (hx : DL x q v S) => rfind_any hx hl id
  have h0 : ixI S.ls id < 0 := Int.not_le.1 fun h => hn (ixI_mem.1 h)
  have HH := hide h
  have H1 := hide (h.below (below_alloc w (.cells #[.int .i64 0, .int .i64 0, .int .i64 0] 56)))
  clear h hn
  generalize ixI S.ls id = z at *
  go_enter Try.func28, Try.ntmps28
  go_wp2_with (go_at_call 40; refine (HF.out _ H1.out).mono ?_; rintro e w2 ⟨rfl, hw⟩; subst hw)
  refine bodyPost_ret (results_row_tmp (p := 4) (u := 5) rfl _ _ w.heap.size 56 #[.int .i64 0, .int .i64 0, .int .i64 0] (0, 0) _ (by kernel_rfl) (Go.heap_alloc_new w _) Try.underlying56 rfl (by kernel_rfl)) rfl ⟨rfl, (DT.refl HH.out).below (below_alloc w _)⟩
set_option maxHeartbeats 1000000 in
theorem rack_twice {w : World} {q : Nat} {v : Value} {S : LS} (h : DL w q v S) (hl : S.ls.length ≤ 2000) (hd : (ids S.ls).Nodup) (i : Nat) (x : En) (hx : S.ls[i]? = some (x, true)) : Calls Try.prog 28 #[.pointer (some ⟨q, 0, none⟩), .int .i64 x.1] w fun e w' =>
    e = .returned (.tuple #[.agg #[.int .i64 0, .int .i64 0, .int .i64 0], .int .i64 102]) ∧ DT w w' q v v S := by
  have HF := hide fun (x0 : World) (hx0 : DL x0 q v S) => rfind_any hx0 hl x.1
  rw [ixI_at hd hx] at HF
  have HH := hide h
  obtain ⟨a, c, rfl, b1, b2, -⟩ := h.own.form
  unfold maxLen at b2
  have h1 := h.below (below_alloc w (.cells #[.int .i64 0, .int .i64 0, .int .i64 0] 56))
  have c0 := h1.c0
  obtain ⟨hi, ei⟩ := List.getElem?_eq_some_iff.1 hx
  obtain ⟨a', c', ev, -, -, hc⟩ := h1.own.form
  injection ev with ev1 ev2 ev3
  subst ev1
  obtain ⟨g, rfl, -, -, -, d3⟩ := hc i hi
  have hgx : S.ls.getD i l0 = (x, true) := by simp [List.getD, hi, ei]
  rw [hgx] at d3
  dsimp only at d3
  have H1 := hide h1
  clear h hd hx hc h1 ei hgx
  generalize S.ls.length = n at *
  generalize x.1 = id at *
  have h0 : ¬ (i : Int) < 0 := by omega
  go_enter Try.func28, Try.ntmps28
  go_wp2_with (go_at_call 40; refine (HF.out _ H1.out).mono ?_; rintro e w2 ⟨rfl, hw⟩; subst hw)
  refine bodyPost_ret (results_row_tmp (p := 4) (u := 5) rfl _ _ w.heap.size 56 #[.int .i64 0, .int .i64 0, .int .i64 0] (0, 0) _ (by kernel_rfl) (Go.heap_alloc_new w _) Try.underlying56 rfl (by kernel_rfl)) rfl ⟨rfl, (DT.refl HH.out).below (below_alloc w _)⟩
theorem DT.set {w w' : World} {q : Nat} {v : Value} {S' : LS} (h : DT w w' q v v S') (h0 : ∀ g, g = q ∨ v.ownBlock = some g → g < w.heap.size) (i : Nat) (x : Value) : DT w (w'.setCell ⟨w.heap.size, i, none⟩ x) q v v S' :=
  ⟨h.l.kept fun g e => Go.heap_setCell_other _ _ _ _ (show g ≠ w.heap.size from fun e2 => by have := h0 g e; omega), chg_set h.chg _ _ _ (.inr (Nat.le_refl _)), h.loc⟩
/-- a line is acked -/
theorem DL.ack {w : World} {q g n c i : Nat} {S : LS} {x : En} (hn : S.ls.length = n) (h : DL w q (.slice (some ⟨g, 0, none⟩) n c) S) (hx : S.ls[i]? = some (x, false)) : DL (w.setCell ⟨g, i * 4 + 3, none⟩ (.bool true)) q (.slice (some ⟨g, 0, none⟩) n c) (ackS S i x) := by
  subst hn
  have hq : g ≠ q := fun e => h.vq (by rw [← e]; rfl)
  refine ⟨(Go.heap_setCell_other _ _ _ _ (by exact hq.symm)).trans h.row, ?_⟩
  have ho : w.ownsRow 0 64 4 (.slice (some ⟨g, 0, none⟩) S.ls.length c) S.ls.length (lnvs S.ls) := h.own
  have hs := ho.stored (i * 4 + 3) (.bool true)
  show World.ownsRow _ 0 64 4 _ (ackS S i x).ls.length (lnvs (ackS S i x).ls)
  unfold ackS
  dsimp only
  rw [← lnvs_set hx, List.length_set]
  exact hs.1
set_option maxHeartbeats 1000000 in
theorem rack_ok {w : World} {q : Nat} {v : Value} {S : LS} (h : DL w q v S) (hl : S.ls.length ≤ 2000) (hd : (ids S.ls).Nodup) (i : Nat) (x : En) (hx : S.ls[i]? = some (x, false)) : Calls Try.prog 28 #[.pointer (some ⟨q, 0, none⟩), .int .i64 x.1] w fun e w' =>
    e = .returned (.tuple #[.agg #[.int .i64 x.1, .int .i64 x.2.1, .int .i64 x.2.2], .int .i64 0]) ∧ DT w w' q v v (ackS S i x) := by
  have HF := hide fun (x0 : World) (hx0 : DL x0 q v S) => rfind_any hx0 hl x.1
  rw [ixI_at hd hx] at HF
  have HH := hide h
  obtain ⟨a, c, rfl, b1, b2, -⟩ := h.own.form
  unfold maxLen at b2
  have h1 := h.below (below_alloc w (.cells #[.int .i64 0, .int .i64 0, .int .i64 0] 56))
  obtain ⟨hi, ei⟩ := List.getElem?_eq_some_iff.1 hx
  obtain ⟨a', c', ev, -, -, hc⟩ := h1.own.form
  injection ev with ev1 ev2 ev3
  subst ev1
  obtain ⟨g, rfl, d0, d1, d2, d3⟩ := hc i hi
  have hgx : S.ls.getD i l0 = (x, false) := by simp [List.getD, hi, ei]
  rw [hgx] at d0 d1 d2 d3
  dsimp only at d0 d1 d2 d3
  have H1 := hide h1
  have hgq : g ≠ q := fun e => h.vq (by rw [← e]; rfl)
  have hgl : g < w.heap.size := h.vlt rfl
  have hql := h.lt
  have HX : Hid (∀ w1, w1 = w.alloc (.cells #[.int .i64 0, .int .i64 0, .int .i64 0] 56) → (w1.cell? ⟨g, i * 4, none⟩ = some (.int .i64 x.1) ∧ w1.cell? ⟨g, i * 4 + 1, none⟩ = some (.int .i64 x.2.1) ∧ w1.cell? ⟨g, i * 4 + 2, none⟩ = some (.int .i64 x.2.2) ∧ w1.cell? ⟨g, i * 4 + 3, none⟩ = some (.bool false)) ∧ w1.cell? ⟨q, 0, none⟩ = some (.slice (some ⟨g, 0, none⟩) S.ls.length c) ∧ w1.frozen? ⟨g, i * 4 + 3, none⟩ = false ∧ w1.heap[w.heap.size]? = some (.cells #[.int .i64 0, .int .i64 0, .int .i64 0] 56 (0, 0)) ∧ DL (w1.setCell ⟨g, i * 4 + 3, none⟩ (.bool true)) q (.slice (some ⟨g, 0, none⟩) S.ls.length c) (ackS S i x) ∧ Below w.heap.size w w1) := hide (by
    intro w1 e
    rw [e]
    exact ⟨⟨d0, d1, d2, d3⟩, h1.c0, World.ownsRow.frozenAt h1.own _, Go.heap_alloc_new w _, DL.ack rfl h1 hx, below_alloc w _⟩)
  clear h hd hx hc h1 ei hgx d0 d1 d2 d3 ev2 ev3 HH
  generalize S.ls.length = n at *
  obtain ⟨x0, x1, x2⟩ := x
  dsimp only at HX HF ⊢
  have h0 : ¬ (i : Int) < 0 := by omega
  go_enter Try.func28, Try.ntmps28
  go_wp2_with (go_at_call 40; refine (HF.out _ H1.out).mono ?_; rintro e w2 ⟨rfl, hw⟩; obtain ⟨⟨d0, d1, d2, d3⟩, c0, hf3, hr, hdl, hbl⟩ := HX.out _ hw; have HR := hide hr; have HD := hide hdl; have HB := hide hbl; clear hw hr hdl hbl HX H1 HF; have z0 : w2.cell? ⟨w.heap.size, 0, none⟩ = some (.int .i64 0) := by { rw [cell_of_row _ _ _ _ _ _ HR.out]; rfl }; have z1 : w2.cell? ⟨w.heap.size, 1, none⟩ = some (.int .i64 0) := by { rw [cell_of_row _ _ _ _ _ _ HR.out]; rfl }; have z2 : w2.cell? ⟨w.heap.size, 2, none⟩ = some (.int .i64 0) := by { rw [cell_of_row _ _ _ _ _ _ HR.out]; rfl }; have zf0 := frozen_of_row _ _ 0 _ 56 HR.out; have zf1 := frozen_of_row _ _ 1 _ 56 HR.out; have zf2 := frozen_of_row _ _ 2 _ 56 HR.out)
  have HT : Hid (DT w (w2.setCell ⟨g, i * 4 + 3, none⟩ (.bool true)) q (.slice (some ⟨g, 0, none⟩) n c) (.slice (some ⟨g, 0, none⟩) n c) (ackS S i (x0, x1, x2))) := hide ⟨HD.out, chg_set (Chg.ofBelow HB.out) _ _ _ (.inl (.inr rfl)), fun b e => .inl e⟩
  have HLT : Hid (∀ b, b = q ∨ (Value.slice (some ⟨g, 0, none⟩) n c).ownBlock = some b → b < w.heap.size) := hide (by
    rintro b (rfl | e)
    · exact hql
    · simp only [Value.ownBlock, Option.some.injEq] at e
      omega)
  have HR2 : Hid ((w2.setCell ⟨g, i * 4 + 3, none⟩ (.bool true)).heap[w.heap.size]? = some (.cells #[.int .i64 0, .int .i64 0, .int .i64 0] 56 (0, 0))) := hide ((Go.heap_setCell_other _ _ _ _ (show w.heap.size ≠ g by omega)).trans HR.out)
  refine bodyPost_ret (results_row_tmp (p := 4) (u := 5) rfl _ _ w.heap.size 56 #[.int .i64 x0, .int .i64 x1, .int .i64 x2] (0, 0) _ (by kernel_rfl) (set3 HR2.out _ _ _) Try.underlying56 rfl (by kernel_rfl)) rfl ⟨rfl, ((HT.out.set HLT.out 0 _).set HLT.out 1 _).set HLT.out 2 _⟩
end Go.Proofs.Ytcdmkbjibcahcab
