import Derived.Test.YtijfnacplikibabKPc
import Derived.Test.YtijfnacplikibabKAppI
namespace Go.Proofs.Ytijfnacplikibab
open Go.RowKit
set_option linter.unusedVariables false
set_option linter.unusedSimpArgs false
set_option maxRecDepth 20000

theorem Try.infoPl : (Try.prog.info? 83).map (fun i => (i.zero, i.size, i.bytes)) = some (some (.agg #[.int .i64 0, .int .i64 0, .int .i64 0, .bool false, .int .i64 0]), 5, 40) := by kernel_rfl
theorem infoP : ∃ i, Try.prog.info? 83 = some i ∧ i.zero = some (.agg #[.int .i64 0, .int .i64 0, .int .i64 0, .bool false, .int .i64 0]) ∧ i.size = 5 ∧ i.bytes = 40 := by
  have h := Try.infoPl
  cases hi : Try.prog.info? 83 with
  | none => rw [hi] at h; simp at h
  | some i => rw [hi] at h; simp at h; exact ⟨i, rfl, h.1, h.2.1, h.2.2⟩
theorem run_appendP (w : World) (ty : TypeId) (tv : Value) (tl : List Pc) (ht : PRow w tv tl) (a : Addr) (c : Nat) (k : List Pc) (hk : 0 < k.length) (hx : ∀ j u, (pcvs k)[j]? = some u → w.cell? (a.add j) = some u) (hb : tl.length + k.length ≤ 1000000000000) :
    ∃ v' w', (Builtin.append_ #[71, 71] ty #[tv, .slice (some a) k.length c]).run Try.prog w = .ok v' w' ∧ PRow w' v' (tl ++ k) ∧ App w w' tv v' := by
  obtain ⟨i, hi, hz0, hz1, hz2⟩ := infoP
  have hone : ∀ u ∈ pcvs k, u.oneCell' = true := pcvs_one
  have hel := pcvs_length k
  have hul : Try.prog.underlying 71 = some (.slice 83) := Try.underlying71
  obtain ⟨v', w', hr, ho, hu⟩ := run_appendC (P := Try.prog) w 71 ty 83 i (.agg #[.int .i64 0, .int .i64 0, .int .i64 0, .bool false, .int .i64 0]) 5 40 hul hi hz0 hz1 hz2 rfl (by decide) tv tl.length (pcvs tl) ht a k.length c (pcvs k) hel hk hx hone (by unfold maxLen; omega) (by omega)
  refine ⟨v', w', hr, ?_, ⟨⟨hu.same.1, hu.same.2.1, hu.same.2.2, hu.size, fun g hg hn => hu.block g hg hn⟩, fun g e => (hu.loc g e).elim .inl fun e => .inr (by omega)⟩⟩
  unfold PRow
  rw [List.length_append, pcvs_append]
  exact ho
theorem wpList_appendP (w : World) {ops : Array Oper} {rest : List Oper} {o : Oper} {a : Act} {Q : Exit → Act → World → Prop} (hgd : o.guard = none) (s x : Operand)
    (ho : o.op = .call { callee := .builtin .append, args := #[s, x], argTypes := #[71, 71] })
    (tv : Value) (tl : List Pc) (hs : a.eval s = tv) (ht : PRow w tv tl) (ad : Addr) (c : Nat) (k : List Pc) (hk : 0 < k.length) (hx : a.eval x = .slice (some ad) k.length c) (hz : ∀ j u, (pcvs k)[j]? = some u → w.cell? (ad.add j) = some u) (hb : tl.length + k.length ≤ 1000000000000)
    (h : ∀ v' w', PRow w' v' (tl ++ k) → App w w' tv v' → wpList Try.prog ops Q rest (a.put o.dst v') w') :
    wpList Try.prog ops Q (o :: rest) a w := by
  refine wpList_plain hgd fun K hK => ?_
  obtain ⟨v', w', hr, h2, h3⟩ := run_appendP w o.type tv tl ht ad c k hk hz hb
  unfold Oper.wp execOp
  simp only [ho, resolve, invoke, builtin, Sem.run_bind, Sem.run_pure, Result.andThen_ok, List.map_toArray, List.map_cons, List.map_nil, hs, hx, hr]
  exact hK _ _ (h v' w' h2 h3)
theorem step_appendP {w : World} {ops : Array Oper} {o : Oper} {a : Act} {K : Act → World → Prop} {Q : Exit → Act → World → Prop} {E : Prop} (hgd : o.guard = none) (s x : Operand)
    (ho : o.op = .call { callee := .builtin .append, args := #[s, x], argTypes := #[71, 71] })
    (tv : Value) (tl : List Pc) (hs : a.eval s = tv) (ht : PRow w tv tl) (ad : Addr) (c : Nat) (k : List Pc) (hk : 0 < k.length) (hx : a.eval x = .slice (some ad) k.length c) (hz : ∀ j u, (pcvs k)[j]? = some u → w.cell? (ad.add j) = some u) (hb : tl.length + k.length ≤ 1000000000000)
    (h : ∀ v' w', PRow w' v' (tl ++ k) → App w w' tv v' → K (a.put o.dst v') w') :
    if Region.wanted o (yielded ops a.tmps) = true then Oper.wp Try.prog o a w K Q else E := by
  have hw : Region.wanted o (yielded ops a.tmps) = true := by simp [Region.wanted, hgd]
  rw [if_pos hw]
  obtain ⟨v', w', hr, h2, h3⟩ := run_appendP w o.type tv tl ht ad c k hk hz hb
  unfold Oper.wp execOp
  simp only [ho, resolve, invoke, builtin, Sem.run_bind, Sem.run_pure, Result.andThen_ok, List.map_toArray, List.map_cons, List.map_nil, hs, hx, hr]
  exact h v' w' h2 h3
theorem new_pc (w : World) (x : Pc) : ∀ j u, (pcvs [x])[j]? = some u → (w.alloc (.cells #[.int .i64 x.ext, .int .i64 x.mode, .int .i64 x.own, .bool x.held, .int .i64 x.turn] 83)).cell? ((⟨w.heap.size, 0, none⟩ : Addr).add j) = some u := fun j u h => by
  have : (w.alloc (.cells #[.int .i64 x.ext, .int .i64 x.mode, .int .i64 x.own, .bool x.held, .int .i64 x.turn] 83)).heap[w.heap.size]? = some (.cells #[.int .i64 x.ext, .int .i64 x.mode, .int .i64 x.own, .bool x.held, .int .i64 x.turn] 83 (0, 0)) := Go.heap_alloc_new _ _
  rw [Addr.add_lit, cell_of_row _ _ _ _ _ _ this]
  simpa [pcvs, pcV] using h
/-- the document's table has turned -/
structure RTt (w w' : World) (q : Nat) (v v' : Value) (n room : Nat) (P' : List Pc) (T' : Nat) : Prop where
  t : RT w' q v' n room P' T'
  chg : Chg (fun g => g = q ∨ v.ownBlock = some g) w w'
  loc : ∀ g, v'.ownBlock = some g → v.ownBlock = some g ∨ w.heap.size ≤ g
section
variable {w x w' w3 y : World} {q : Nat} {v v' v'' : Value} {n room : Nat} {P P' P'' : List Pc} {T T' T'' : Nat}
theorem PRow.cellsOf {l : List Pc} (h : PRow w v l) {g : Nat} (e : v.ownBlock = some g) : ∃ cs, w.heap[g]? = some (.cells cs 83 (0, 0)) := by
  have h' : w.ownsRow 0 83 5 v l.length (pcvs l) := h
  rcases h'.2 with ⟨rfl, hz⟩ | ⟨g', cap, cur, rfl, _, hg, _⟩
  · simp [Value.ownBlock] at e
  · simp only [Value.ownBlock, Option.some.injEq] at e
    subst e
    exact ⟨cur, hg⟩
theorem RT.vq (h : RT w q v n room P T) : v.ownBlock ≠ some q := fun e => by
  obtain ⟨cs, hc⟩ := PRow.cellsOf h.own e
  exact neType hc h.row (by decide) rfl
theorem RTt.refl (h : RT w q v n room P T) : RTt w w q v v n room P T := ⟨h, Chg.refl _ _, fun g e => .inl e⟩
theorem RTt.below (h : RTt w w' q v v' n room P T) (hb : Below w'.heap.size w' y) : RTt w y q v v' n room P T := ⟨h.t.below hb, h.chg.trans (Chg.ofBelow hb), h.loc⟩
theorem RTt.trans (h : RTt w x q v v' n room P' T') (k : RTt x y q v' v'' n room P'' T'') : RTt w y q v v'' n room P'' T'' := by
  have hs := h.chg.size
  refine ⟨k.t, ⟨k.chg.os.trans h.chg.os, k.chg.tape.trans h.chg.tape, k.chg.output.trans h.chg.output, Nat.le_trans hs k.chg.size, fun g hg hn => (k.chg.keep g (by omega) fun e => ?_).trans (h.chg.keep g hg hn)⟩, fun g e => ?_⟩
  · rcases e with e | e
    · exact hn (.inl e)
    · rcases h.loc g e with e | e
      · exact hn (.inr e)
      · omega
  · rcases k.loc g e with e | e
    · exact h.loc g e
    · exact .inr (by omega)
/-- the turns are counted -/
theorem RT.setT (h : RT w q v n room P T) (k : Nat) : RTt w (w.setCell ⟨q, 3, none⟩ (.int .i64 (k : Int))) q v v n room P k := by
  refine ⟨⟨Go.heap_setCell_same w q 3 _ 73 _ h.row, rowKept h.own fun g e => Go.heap_setCell_other _ _ _ _ (show g ≠ q from fun e2 => h.vq (by rw [← e2]; exact e))⟩, ?_, fun g e => .inl e⟩
  exact Chg.set (Chg.refl _ w) q 3 _ (.inl (.inl rfl))
/-- the list of places turns; x the world ahead of the append, w3 behind it -/
theorem RT.push (h : RT w q v n room P T) (hx : Below w.heap.size w x) (he : PRow w3 v' P') (ha : App x w3 v v') :
    RTt w (w3.setCell ⟨q, 2, none⟩ v') q v v' n room P' T ∧ w3.cell? ⟨q, 2, none⟩ = some v ∧ w3.frozen? ⟨q, 2, none⟩ = false := by
  have hq := h.lt
  have hs := hx.size
  have kp : ∀ g, g < w.heap.size → v.ownBlock ≠ some g → w3.heap[g]? = w.heap[g]? := fun g hg h2 => (ha.chg.keep g (by omega) h2).trans (hx.block g hg)
  have hrow := (kp q hq h.vq).trans h.row
  have hloc : ∀ g, v'.ownBlock = some g → v.ownBlock = some g ∨ w.heap.size ≤ g := fun g e => (ha.loc g e).imp id fun h => by omega
  have hvq' : ∀ g, v'.ownBlock = some g → g ≠ q := fun g e e2 => by
    subst e2
    rcases hloc g e with e | e
    · exact h.vq e
    · omega
  refine ⟨⟨⟨Go.heap_setCell_same w3 _ 2 _ 73 _ hrow, rowKept he fun g e => Go.heap_setCell_other _ _ _ _ (by exact hvq' g e)⟩, ⟨ha.chg.os.trans hx.os, ha.chg.tape.trans hx.tape, ha.chg.output.trans hx.output, ?_, fun g hg hn => ?_⟩, hloc⟩, (cell_of_row _ _ _ _ _ _ hrow).trans rfl, frozen_of_row _ _ _ _ 73 hrow⟩
  · rw [World.size_setCell]
    have := ha.chg.size
    omega
  · rw [Go.heap_setCell_other _ _ _ _ (show g ≠ q from fun e => hn (.inl e))]
    exact kp g hg fun e => hn (.inr e)
/-- the list of places is a new one -/
theorem RT.setL {z : World} (h : RT w q v n room P T) (hz : Below w.heap.size w z) (ho : PRow z v' P') (hl : ∀ g, v'.ownBlock = some g → w.heap.size ≤ g) : z.cell? ⟨q, 2, none⟩ = some v ∧ z.frozen? ⟨q, 2, none⟩ = false ∧ RTt w (z.setCell ⟨q, 2, none⟩ v') q v v' n room P' T := by
  have hq := h.lt
  have hrow := (hz.block q hq).trans h.row
  refine ⟨(cell_of_row _ _ _ _ _ _ hrow).trans rfl, frozen_of_row _ _ _ _ 73 hrow, ⟨⟨Go.heap_setCell_same z _ 2 _ 73 _ hrow, rowKept ho fun g e => Go.heap_setCell_other _ _ _ _ (show g ≠ q from fun e2 => by have := hl g e; omega)⟩, Chg.set (Chg.ofBelow hz) q 2 _ (.inl (.inl rfl)), fun g e => .inr (hl g e)⟩⟩
end
end Go.Proofs.Ytijfnacplikibab
