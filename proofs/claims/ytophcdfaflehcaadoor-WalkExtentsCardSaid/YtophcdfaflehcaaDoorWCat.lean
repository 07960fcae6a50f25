import Derived.Test.YtophcdfaflehcaaDoorWNum
import Derived.Laws.AppendOwnNone
import Derived.Laws.OwnMore
namespace Go.Proofs.YtophcdfaflehcaaDoor
open Go.RowKit
set_option linter.unusedVariables false
set_option linter.unusedSimpArgs false
set_option maxRecDepth 20000

theorem cell_below {w w' : World} {b o : Nat} {v : Value} (hb : Below w.heap.size w w') (h : w.cell? ⟨b, o, none⟩ = some v) : w'.cell? ⟨b, o, none⟩ = some v := by
  rw [hb.cell (p := ⟨b, o, none⟩) (World.block_lt_of_cell? w _ h)]; exact h
/-- Grow of nil -/
theorem grow_zero (w : World) : Calls Tryd.prog 33 #[.slice none 0 0, .int .i64 0] w fun e w' => e = .returned (.slice none 0 0) ∧ w' = w := by
  go_enter Tryd.func33, Tryd.ntmps33
  go_wp2_with fail
  go_ret
  exact ⟨rfl, rfl⟩
theorem grow_any (w : World) (k : Nat) (h0 : 0 < k) (hk : k ≤ 1000000) : Calls Tryd.prog 33 #[.slice none 0 0, .int .i64 (k : Int)] w fun e w' => ∃ cap, e = .returned (.slice (some ⟨w.heap.size, 0, none⟩) 0 cap) ∧ IRow w' (.slice (some ⟨w.heap.size, 0, none⟩) 0 cap) [] ∧ Below w.heap.size w w' := by
  have h1 : 0 < (k : Int) := by omega
  obtain ⟨i, hi, hz, hsize, hby⟩ := infoIs
  have HR := hide (Lib.run_append_nil_zeros (P := Tryd.prog) w 59 3 59 3 i (.int .i64 0) .i64 .i64 Tryd.underlying59 Tryd.underlying3 hi hz k h0 (by omega) (by omega) (by rw [hby]; omega))
  have hge := grownCap_ge w k 0 3
  have hle := grownCap_le_maxLen w k 0 3 (by unfold maxLen; omega)
  have HO : Hid (IRow (w.drew.alloc (.cells (Builtin.zeroCells (Value.int .i64 0).cells k ++ Builtin.zeroCells (Value.int .i64 0).cells (grownCap w k 0 3 - k)) 3)) (.slice (some ⟨w.heap.size, 0, none⟩) 0 (grownCap w k 0 3)) []) := hide ⟨rfl, .inr ⟨w.heap.size, _, _, rfl, Nat.zero_le _, Go.heap_alloc_new w.drew _, Nat.zero_le _, hle, by
    simp only [Array.size_append, size_zeroCells]
    have : (Value.int .i64 0).cells.size = 1 := rfl
    rw [this]
    omega, by simp⟩⟩
  have HB : Hid (Below w.heap.size w (w.drew.alloc (.cells (Builtin.zeroCells (Value.int .i64 0).cells k ++ Builtin.zeroCells (Value.int .i64 0).cells (grownCap w k 0 3 - k)) 3))) := hide ((Below.refl _ _).drew.alloc (by exact Nat.le_refl _) _)
  clear hi hz hsize hby
  generalize w.drew.alloc (.cells (Builtin.zeroCells (Value.int .i64 0).cells k ++ Builtin.zeroCells (Value.int .i64 0).cells (grownCap w k 0 3 - k)) 3) = w1 at *
  generalize grownCap w k 0 3 = C at *
  unfold maxLen at hle
  go_enter Tryd.func33, Tryd.ntmps33
  go_wp2_with (at_builtin; refine Go.Lib.wpList_append_run _ rfl (.tmp 20) (.tmp 21) 59 3 rfl _ _ rfl rfl _ _ HR.out ?_)
  go_ret
  exact ⟨_, rfl, HO.out, HB.out⟩
theorem grow_all (w : World) (k : Nat) (hk : k ≤ 1000000) : Calls Tryd.prog 33 #[.slice none 0 0, .int .i64 (k : Int)] w fun e w' => ∃ gv, e = .returned gv ∧ IRow w' gv [] ∧ Below w.heap.size w w' ∧ ∀ g, gv.ownBlock = some g → w.heap.size ≤ g := by
  cases k with
  | zero => exact (grow_zero w).mono fun e w' ⟨h1, h2⟩ => ⟨_, h1, IRow.nil _, by rw [h2]; exact Below.refl _ _, by simp [Value.ownBlock]⟩
  | succ k => exact (grow_any w (k + 1) (by omega) hk).mono fun e w' ⟨cap, h1, h2, h3⟩ => ⟨_, h1, h2, h3, fun g e => by simp only [Value.ownBlock, Option.some.injEq] at e; omega⟩
theorem IRow.source {w : World} {v : Value} {l : List Int} (h : IRow w v l) (h0 : l ≠ []) : ∃ a cap, v = .slice (some a) l.length cap ∧ ∀ j u, (l.map iV)[j]? = some u → w.cell? (a.add j) = some u := by
  rcases h.2 with ⟨rfl, e0⟩ | ⟨g, cap, cur, rfl, _, hg, _⟩
  · exact absurd (List.length_eq_zero_iff.1 e0) h0
  · exact ⟨_, _, rfl, World.ownsRow.cells h (g := g) rfl⟩
/-- append of a whole list -/
theorem run_appendS (w : World) (ty : TypeId) (v sv : Value) (l sl : List Int) (hown : IRow w v l) (hs : IRow w sv sl) (h0 : sl = [] → sv = .slice none 0 0) (hb : l.length + sl.length ≤ 1000000) :
    ∃ v' w', (Builtin.append_ #[59, 59] ty #[v, sv]).run Tryd.prog w = .ok v' w' ∧ IRow w' v' (l ++ sl) ∧ App w w' v v' := by
  by_cases e : sl = []
  · obtain ⟨i, hi, hz, hsize, hby⟩ := infoIs
    subst e
    rw [h0 rfl]
    exact ⟨v, w, run_append_owned_none (P := Tryd.prog) (w := w) 0 59 ty 3 i 1 Tryd.underlying59 hi v l.length (l.map iV) hown, by rw [List.append_nil]; exact hown, Chg.refl _ _, fun g e => .inl e⟩
  · obtain ⟨a, cap, rfl, hc⟩ := hs.source e
    exact run_appendI w ty v l hown a sl.length cap sl rfl hc hb (List.length_pos_iff.2 e)
theorem wpList_appendS (w : World) {ops : Array Oper} {rest : List Oper} {o : Oper} {a : Act} {Q : Exit → Act → World → Prop} (hgd : o.guard = none) (s x : Operand)
    (ho : o.op = .call { callee := .builtin .append, args := #[s, x], argTypes := #[59, 59] })
    (v sv : Value) (l sl : List Int) (hs : a.eval s = v) (hx : a.eval x = sv) (hown : IRow w v l) (hsr : IRow w sv sl) (h0 : sl = [] → sv = .slice none 0 0) (hb : l.length + sl.length ≤ 1000000)
    (h : ∀ v' w', IRow w' v' (l ++ sl) → App w w' v v' → wpList Tryd.prog ops Q rest (a.put o.dst v') w') :
    wpList Tryd.prog ops Q (o :: rest) a w := by
  obtain ⟨v', w', hr, h2, h3⟩ := run_appendS w o.type v sv l sl hown hsr h0 hb
  exact Go.Lib.wpList_append_run w hgd s x 59 59 ho v sv hs hx v' w' hr (h v' w' h2 h3)
set_option maxHeartbeats 1000000 in
theorem concat_any (w : World) (b : Nat) (va vb : Value) (la lb : List Int) (hb : w.heap[b]? = some (.cells #[va, vb] 59 (0, 0))) (ha : IRow w va la) (hbb : IRow w vb lb) (na : la = [] → va = .slice none 0 0) (nb : lb = [] → vb = .slice none 0 0) (hl : la.length + lb.length ≤ 1000000) :
    Calls Tryd.prog 23 #[.slice (some ⟨b, 0, none⟩) 2 2] w fun e w' => ∃ lv, e = .returned lv ∧ IRow w' lv (la ++ lb) ∧ Below w.heap.size w w' ∧ ∀ g, lv.ownBlock = some g → w.heap.size ≤ g := by
  have c0 : w.cell? ⟨b, 0, none⟩ = some va := cell_of_row _ _ _ _ _ _ hb
  have c1 : w.cell? ⟨b, 1, none⟩ = some vb := cell_of_row _ _ _ _ _ _ hb
  have hblt := (Array.getElem?_eq_some_iff.1 hb).1
  have HG := hide fun w => grow_all w (la.length + lb.length) hl
  have HA := hide ha
  have HBB := hide hbb
  have HNA := hide na
  have HNB := hide nb
  obtain ⟨aa, ca, ea, qa1, qa2⟩ := ha.form
  obtain ⟨ab, cb, eb, qb1, qb2⟩ := hbb.form
  unfold maxLen at qa2 qb2
  clear ha hbb na nb hb
  generalize hLA : la.length = A at *
  generalize hLB : lb.length = B at *
  have HLA := hide hLA
  have HLB := hide hLB
  clear hLA hLB
  subst ea eb
  rw [Int.natCast_add] at HG
  go_enter Tryd.func23, Tryd.ntmps23
  go_wp2_with fail
  refine wp_loop_rounds 3 ?_
  rw [rounds_succ]
  go_wp2_with fail
  rw [rounds_succ]
  go_wp2_with fail
  rw [rounds_succ]
  go_wp2_with (go_at_call 33; refine (HG.out _).mono ?_; rintro e w1 ⟨gv, rfl, hI1, hB1, hN1⟩; have HI1 := hide hI1; have HB1 := hide hB1; have HN1 := hide hN1; have d0 := cell_below hB1 c0; have d1 := cell_below hB1 c1; clear hI1 hB1 hN1 HG c0 c1)
  have HA1 := hide (HA.out.kept fun g e => HB1.out.block g (HA.out.lt e))
  have HBB1 := hide (HBB.out.kept fun g e => HB1.out.block g (HBB.out.lt e))
  refine wp_loop_rounds 3 ?_
  rw [rounds_succ]
  go_wp2_with (at_builtin; refine wpList_appendS _ rfl (.tmp 31) (.tmp 32) rfl _ _ _ _ rfl rfl HI1.out HA1.out HNA.out (by rw [HLA.out]; simp; omega) ?_; intro v2 w2 hI2 hA2; have HI2 := hide hI2; have HP2 := hide hA2; clear hI2 hA2)
  have HK2 : Hid (∀ g, g < w.heap.size → w2.heap[g]? = w.heap[g]?) := hide fun g hg => by
    have hs1 := HB1.out.size
    rw [HP2.out.chg.keep g (by omega) (fun e => by have := HN1.out g e; omega), HB1.out.block g hg]
  have HBB2 := hide (HBB.out.kept fun g e => HK2.out g (HBB.out.lt e))
  have e1 : w2.cell? ⟨b, 1, none⟩ = some (.slice ab B cb) := (World.cell?_of_block ((HK2.out b hblt).trans (HB1.out.block b hblt).symm)).trans d1
  have HN2 : Hid (∀ g, v2.ownBlock = some g → w.heap.size ≤ g) := hide fun g e => by
    have hs1 := HB1.out.size
    rcases HP2.out.loc g e with h | h
    · exact HN1.out g h
    · omega
  clear d0 d1 HI1
  rw [rounds_succ]
  go_wp2_with (at_builtin; refine wpList_appendS _ rfl (.tmp 31) (.tmp 32) rfl _ _ _ _ rfl rfl HI2.out HBB2.out HNB.out (by rw [HLB.out]; simp [HLA.out]; omega) ?_; intro v3 w3 hI3 hA3; have HI3 := hide hI3; have HP3 := hide hA3; clear hI3 hA3)
  rw [rounds_succ]
  go_wp2_with fail
  go_ret
  have hs1 := HB1.out.size
  have hs2 := HP2.out.chg.size
  refine ⟨v3, rfl, by have := HI3.out; rwa [List.nil_append] at this, ?_, fun g e => ?_⟩
  · exact (HB1.out.trans ((HP2.out.chg.below (N := w.heap.size) (by omega) HN1.out).trans (HP3.out.chg.below (N := w.heap.size) (by omega) HN2.out)))
  · rcases HP3.out.loc g e with h | h
    · exact HN2.out g h
    · omega
end Go.Proofs.YtophcdfaflehcaaDoor
