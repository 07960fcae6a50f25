import Derived.Test.YtdjdcpldofmdjaaCPar
import Derived.Test.YtdjdcpldofmdjaaCOrd
namespace Go.Proofs.Ytdjdcpldofmdjaa
open Go.RowKit
set_option linter.unusedVariables false
set_option linter.unusedSimpArgs false
set_option maxRecDepth 20000

/-- what an operation's value is: this very one; or made of a list of names; or a new list of one name -/
inductive Ds where
  | ex (v : Value)
  | nm (ns : Nm) (F : Value → Value)
  | one (s : ByteArray) (n : Int)
def Ds.holds : Ds → Value → World → Prop
  | .ex v0, v, _ => v = v0
  | .nm ns F, v, w => ∃ u, NmL w u ns ∧ v = F u
  | .one s n, v, w => ∃ g, w.cell? ⟨g, 0, none⟩ = some (.string s) ∧ w.cell? ⟨g, 1, none⟩ = some (.int .i64 n) ∧ v = .slice (some ⟨g, 0, none⟩) 1 1
theorem Ds.stays {d : Ds} {v : Value} {w w' : World} (h : d.holds v w) (hb : Below w.heap.size w w') : d.holds v w' := by
  cases d with
  | ex v0 => exact h
  | nm ns F => obtain ⟨u, h1, h2⟩ := h; exact ⟨u, h1.below hb, h2⟩
  | one s n => obtain ⟨g, h1, h2, h3⟩ := h; exact ⟨g, cell_bel hb h1, cell_bel hb h2, h3⟩
theorem opv {P : Program} {o : Oper} {a : Act} {w : World} {K : Act → World → Prop} {Q : Exit → Act → World → Prop} {v : Value} (h : (execOp a.eval o).run P w = .ok (.value v) w) (hk : K (a.put o.dst v) w) : o.wp P a w K Q := by
  unfold Oper.wp
  rw [h]
  exact hk
theorem r_nil (ev : Operand → Value) (w : World) (o : Oper) (t p : Nat) (ho : o.op = .nilCheck (.tmp t)) (h : ev (.tmp t) = .pointer (some ⟨p, 0, none⟩)) : (execOp ev o).run Try.prog w = .ok (.value (.pointer (some ⟨p, 0, none⟩))) w := by
  cases o
  cases ho
  simp [execOp, h, go_sem]
theorem r_fld (ev : Operand → Value) (w : World) (o : Oper) (t p k : Nat) (hk : k < 15) (ho : o.op = .fieldAddr 23 (.tmp t) k) (h : ev (.tmp t) = .pointer (some ⟨p, 0, none⟩)) : (execOp ev o).run Try.prog w = .ok (.value (.pointer (some ⟨p, k, none⟩))) w := by
  cases o
  cases ho
  have hc : k = 0 ∨ k = 1 ∨ k = 2 ∨ k = 3 ∨ k = 4 ∨ k = 5 ∨ k = 6 ∨ k = 7 ∨ k = 8 ∨ k = 9 ∨ k = 10 ∨ k = 11 ∨ k = 12 ∨ k = 13 ∨ k = 14 := by omega
  rcases hc with rfl | rfl | rfl | rfl | rfl | rfl | rfl | rfl | rfl | rfl | rfl | rfl | rfl | rfl | rfl <;> simp [execOp, h, go_sem]
theorem r_mov (ev : Operand → Value) (w : World) (o : Oper) (t : Nat) (v : Value) (ho : o.op = .move (.tmp t)) (h : ev (.tmp t) = v) : (execOp ev o).run Try.prog w = .ok (.value v) w := by
  cases o
  cases ho
  simp [execOp, h, go_sem]
theorem r_ifc (ev : Operand → Value) (w : World) (o : Oper) (t : Nat) (v : Value) (ho : o.op = .makeInterface 86 (.tmp t)) (hv : ∃ cs, v = .agg cs) (h : ev (.tmp t) = v) : (execOp ev o).run Try.prog w = .ok (.value (.iface 86 v)) w := by
  cases o
  cases ho
  obtain ⟨cs, rfl⟩ := hv
  have hm : (Instr.makeInterface 86 (.agg cs)).run Try.prog w = .ok (.iface 86 (.agg cs)) w := by kernel_rfl
  simp [execOp, h, hm, go_sem]
theorem r_ifn (ev : Operand → Value) (w : World) (o : Oper) (t : Nat) (v : Value) (ho : o.op = .makeInterface 88 (.tmp t)) (hv : ∃ cs, v = .agg cs) (h : ev (.tmp t) = v) : (execOp ev o).run Try.prog w = .ok (.value (.iface 88 v)) w := by
  cases o
  cases ho
  obtain ⟨cs, rfl⟩ := hv
  have hm : (Instr.makeInterface 88 (.agg cs)).run Try.prog w = .ok (.iface 88 (.agg cs)) w := by kernel_rfl
  simp [execOp, h, hm, go_sem]
theorem r_cho (ev : Operand → Value) (w : World) (o : Oper) (t s : Nat) (x y : Value) (hx : ∃ a, x = .pointer a) (hy : ∃ a n c, y = .slice a n c) (ho : o.op = .build 86 #[(0, .tmp t), (1, .tmp s)]) (h : ev (.tmp t) = x) (h' : ev (.tmp s) = y) : (execOp ev o).run Try.prog w = .ok (.value (.agg #[x, y])) w := by
  cases o
  cases ho
  obtain ⟨a, rfl⟩ := hx
  obtain ⟨b, n, c, rfl⟩ := hy
  simp [execOp, h, h', go_sem]
theorem r_cnt (ev : Operand → Value) (w : World) (o : Oper) (t : Nat) (x : Value) (hx : ∃ a, x = .pointer a) (ho : o.op = .build 88 #[(0, .tmp t)]) (h : ev (.tmp t) = x) : (execOp ev o).run Try.prog w = .ok (.value (.agg #[x])) w := by
  cases o
  cases ho
  obtain ⟨a, rfl⟩ := hx
  simp [execOp, h, go_sem]
theorem r_prt (ev : Operand → Value) (w : World) (o : Oper) (t : Nat) (s : ByteArray) (y : Value) (hy : ∃ ty v, y = .iface ty v) (ho : o.op = .build 46 #[(0, .const (.string s)), (1, .tmp t)]) (hs : ev (.const (.string s)) = .string s) (h : ev (.tmp t) = y) : (execOp ev o).run Try.prog w = .ok (.value (.agg #[.string s, y])) w := by
  cases o
  cases ho
  obtain ⟨ty, v, rfl⟩ := hy
  simp [execOp, h, hs, go_sem]
theorem r_slc2 (ev : Operand → Value) (w : World) (o : Oper) (t g : Nat) (ho : o.op = .slice 82 (.tmp t) none (some (.const (.int .i64 2))) (some (.const (.int .i64 2)))) (hc : ev (.const (.int .i64 2)) = .int .i64 2) (h : ev (.tmp t) = .slice (some ⟨g, 0, none⟩) 2 2) : (execOp ev o).run Try.prog w = .ok (.value (.slice (some ⟨g, 0, none⟩) 2 2)) w := by
  cases o
  cases ho
  simp [execOp, h, hc, go_sem]
theorem r_slc3 (ev : Operand → Value) (w : World) (o : Oper) (t g : Nat) (ho : o.op = .slice 82 (.tmp t) none (some (.const (.int .i64 3))) (some (.const (.int .i64 3)))) (hc : ev (.const (.int .i64 3)) = .int .i64 3) (h : ev (.tmp t) = .slice (some ⟨g, 0, none⟩) 3 3) : (execOp ev o).run Try.prog w = .ok (.value (.slice (some ⟨g, 0, none⟩) 3 3)) w := by
  cases o
  cases ho
  simp [execOp, h, hc, go_sem]
theorem r_nmd (ev : Operand → Value) (w : World) (o : Oper) (s : ByteArray) (n : Int) (ho : o.op = .build 81 #[(0, .const (.string s)), (1, .const (.int .i64 n))]) (hs : ev (.const (.string s)) = .string s) (hc : ev (.const (.int .i64 n)) = .int .i64 n) : (execOp ev o).run Try.prog w = .ok (.value (.agg #[.string s, .int .i64 n])) w := by
  cases o
  cases ho
  simp [execOp, hs, hc, go_sem]
theorem r_one (ev : Operand → Value) (w : World) (o : Oper) (t : Nat) (s : ByteArray) (n : Int) (ho : o.op = .buildSlice 82 1 #[(0, .tmp t)]) (h : ev (.tmp t) = .agg #[.string s, .int .i64 n]) : (execOp ev o).run Try.prog w = .ok (.value (.slice (some ⟨w.heap.size, 0, none⟩) 1 1)) (w.alloc (.cells #[.string s, .int .i64 n] 81)) := by
  cases o
  cases ho
  simp [execOp, h, go_sem]
theorem opv' {P : Program} {o : Oper} {a : Act} {w w' : World} {K : Act → World → Prop} {Q : Exit → Act → World → Prop} {v : Value} (h : (execOp a.eval o).run P w = .ok (.value v) w') (hk : K (a.put o.dst v) w') : o.wp P a w K Q := by
  unfold Oper.wp
  rw [h]
  exact hk
def nmcs (ns : Nm) : List Value := ns.flatMap fun x => [.string x.1, .int .i64 x.2]
theorem nmcs_len : ∀ ns : Nm, (nmcs ns).length = ns.length * 2
  | [] => rfl
  | x :: l => by have := nmcs_len l; simp [nmcs] at this ⊢; omega
theorem nmcs_get : ∀ (ns : Nm) (i : Nat), i < ns.length → (nmcs ns)[i * 2]? = some (.string (ns.getD i default).1) ∧ (nmcs ns)[i * 2 + 1]? = some (.int .i64 (ns.getD i default).2)
  | [], i, h => by simp at h
  | x :: l, 0, _ => by simp [nmcs]
  | x :: l, i + 1, h => by
    obtain ⟨h1, h2⟩ := nmcs_get l i (by simpa using h)
    have e : nmcs (x :: l) = .string x.1 :: .int .i64 x.2 :: nmcs l := rfl
    rw [e]
    refine ⟨?_, ?_⟩
    · rw [show (i + 1) * 2 = i * 2 + 1 + 1 by omega]; simpa using h1
    · rw [show (i + 1) * 2 + 1 = i * 2 + 1 + 1 + 1 by omega]; simpa using h2
theorem Try.infoN : (Try.prog.info? 81).map (fun i => (i.zero, i.size, i.bytes)) = some (some (.agg #[.string ⟨#[]⟩, .int .i64 0]), 2, 24) := by kernel_rfl
theorem infoNs : ∃ i, Try.prog.info? 81 = some i ∧ i.zero = some (.agg #[.string ⟨#[]⟩, .int .i64 0]) ∧ i.size = 2 ∧ i.bytes = 24 := by
  have h := Try.infoN
  cases hi : Try.prog.info? 81 with
  | none => rw [hi] at h; simp at h
  | some i => rw [hi] at h; simp at h; exact ⟨i, rfl, h.1, h.2.1, h.2.2⟩
theorem append_names {w : World} {g q n : Nat} {ns : Nm} {s : ByteArray} {x : Int} (ty : TypeId) (hn : NmL w (.slice (some ⟨g, 0, none⟩) n n) ns) (hsm : n ≤ 100) (c0 : w.cell? ⟨q, 0, none⟩ = some (.string s)) (c1 : w.cell? ⟨q, 1, none⟩ = some (.int .i64 x)) :
    ∃ v w', (Builtin.append_ #[82, 82] ty #[.slice (some ⟨g, 0, none⟩) n n, .slice (some ⟨q, 0, none⟩) 1 1]).run Try.prog w = .ok v w' ∧ NmL w' v (ns ++ [(s, x)]) ∧ Below w.heap.size w w' := by
  obtain ⟨i, hi, hz, hsize, hby⟩ := infoNs
  have ht : Try.prog.underlying 82 = some (.slice 81) := Try.underlying82
  obtain ⟨g', off, cap, e, n1, n2, n3⟩ := hn
  simp only [Value.slice.injEq, Option.some.injEq, Addr.mk.injEq] at e
  obtain ⟨⟨rfl, rfl, -⟩, rfl, rfl⟩ := e
  have holds : ∀ j u, (nmcs ns)[j]? = some u → w.cell? ((⟨g, 0, none⟩ : Addr).add j) = some u := by
    intro j u hj
    have hlt : j < (nmcs ns).length := (List.getElem?_eq_some_iff.1 hj).1
    rw [nmcs_len] at hlt
    rw [Addr.add_lit, Nat.zero_add]
    rcases Nat.mod_two_eq_zero_or_one j with h | h
    · obtain ⟨k, rfl⟩ : ∃ k, j = k * 2 := ⟨j / 2, by omega⟩
      rw [(nmcs_get ns k (by omega)).1] at hj
      cases hj
      simpa using (n3 k (by omega)).1
    · obtain ⟨k, rfl⟩ : ∃ k, j = k * 2 + 1 := ⟨j / 2, by omega⟩
      rw [(nmcs_get ns k (by omega)).2] at hj
      cases hj
      simpa using (n3 k (by omega)).2
  have hnews : ∀ j u, [Value.string s, Value.int .i64 x][j]? = some u → w.cell? ((⟨q, 0, none⟩ : Addr).add j) = some u := by
    intro j u hj
    rw [Addr.add_lit, Nat.zero_add]
    match j, hj with
    | 0, hj => cases hj; exact c0
    | 1, hj => cases hj; exact c1
    | j + 2, hj => simp at hj
  have hr := run_append_grow (P := Try.prog) (w := w) 82 ty 81 i (.agg #[.string ⟨#[]⟩, .int .i64 0]) ht hi hz ⟨g, 0, none⟩ ns.length ns.length (nmcs ns) (by rw [hsize, nmcs_len]) holds ⟨q, 0, none⟩ 1 1 [.string s, .int .i64 x] (by rw [hsize]; rfl) hnews (by omega) (by omega) (by rw [hby]; exact growslice_fits (by omega) (by omega))
  have hlen : (ns ++ [(s, x)]).length = ns.length + 1 := by simp
  refine ⟨_, _, hr, ⟨w.heap.size, 0, grownCap w (ns.length + 1) ns.length 81, by rw [hlen], by rw [hlen]; exact grownCap_ge .., grownCap_le_maxLen _ _ _ _ (by unfold maxLen; omega), fun k hk => ?_⟩, (Below.refl _ _).drew.alloc (Nat.le_refl _) _⟩
  have hg := Go.heap_alloc_new w.drew (Obj.cells ((nmcs ns).toArray ++ [Value.string s, Value.int .i64 x].toArray ++ Builtin.zeroCells (Value.agg #[.string ⟨#[]⟩, .int .i64 0]).cells (grownCap w (ns.length + 1) ns.length 81 - (ns.length + 1))) 81)
  have hap : nmcs (ns ++ [(s, x)]) = nmcs ns ++ [Value.string s, Value.int .i64 x] := by simp [nmcs]
  obtain ⟨g1, g2⟩ := nmcs_get (ns ++ [(s, x)]) k hk
  have hk2 : k * 2 + 1 < (nmcs (ns ++ [(s, x)])).length := by rw [nmcs_len]; omega
  have hpre : ∀ j, j < (nmcs (ns ++ [(s, x)])).length → ∀ Z : Array Value, ((nmcs ns).toArray ++ [Value.string s, Value.int .i64 x].toArray ++ Z)[j]? = (nmcs (ns ++ [(s, x)]))[j]? := by
    intro j hj Z
    rw [hap] at hj ⊢
    have e : (nmcs ns).toArray ++ [Value.string s, Value.int .i64 x].toArray = (nmcs ns ++ [Value.string s, Value.int .i64 x]).toArray := by simp
    rw [e, Array.getElem?_append_left (by simpa using hj)]
    simp
  refine ⟨?_, ?_⟩
  · rw [Nat.zero_add]
    refine (cell_of_row _ _ _ _ _ _ hg).trans ?_
    rw [hpre _ (by omega), g1]
  · rw [Nat.zero_add]
    refine (cell_of_row _ _ _ _ _ _ hg).trans ?_
    rw [hpre _ hk2, g2]
theorem r_app {w : World} {g q n : Nat} {ns : Nm} {s : ByteArray} {x : Int} (ev : Operand → Value) (o : Oper) (t u : Nat) (hn : NmL w (.slice (some ⟨g, 0, none⟩) n n) ns) (hsm : n ≤ 100) (c0 : w.cell? ⟨q, 0, none⟩ = some (.string s)) (c1 : w.cell? ⟨q, 1, none⟩ = some (.int .i64 x))
    (ho : o.op = .call { callee := .builtin .append, args := #[.tmp t, .tmp u], argTypes := #[82, 82] }) (h : ev (.tmp t) = .slice (some ⟨g, 0, none⟩) n n) (h' : ev (.tmp u) = .slice (some ⟨q, 0, none⟩) 1 1) :
    ∃ v w', (execOp ev o).run Try.prog w = .ok (.value v) w' ∧ NmL w' v (ns ++ [(s, x)]) ∧ Below w.heap.size w w' := by
  obtain ⟨v, w', e1, e2, e3⟩ := append_names (w := w) o.type hn hsm c0 c1
  refine ⟨v, w', ?_, e2, e3⟩
  unfold execOp
  simp only [ho, resolve, invoke, builtin, Sem.run_bind, Sem.run_pure, Result.andThen_ok, List.map_toArray, List.map_cons, List.map_nil, h, h', e1]
/-- a call of a function of no arguments -/
theorem op_call0 {P : Program} {o : Oper} {a : Act} {w : World} {K : Act → World → Prop} {Q : Exit → Act → World → Prop} (f : FuncId) (hrun : (execOp a.eval o).run P w = .ok (.enter f #[]) w) {post : Ending → World → Prop} (hc : Calls P f #[] w post) (hp : ∀ e w', post e w' → ∃ v, e = .returned v) (h : ∀ v w', post (.returned v) w' → K (a.put o.dst v) w') : o.wp P a w K Q := by
  unfold Oper.wp
  rw [hrun, Oper.upon_enter]
  refine hc.mono fun e w'' hh => ?_
  obtain ⟨v, rfl⟩ := hp e w'' hh
  exact h v w'' hh
theorem r_cl (ev : Operand → Value) (w : World) (o : Oper) (f : FuncId) (hf : f = 35 ∨ f = 36) (ho : o.op = .call { callee := .value (.func f), args := #[], argTypes := #[] }) (h : ev (.func f) = .func (.func f) #[] #[]) : (execOp ev o).run Try.prog w = .ok (.enter f #[]) w := by
  cases o
  cases ho
  rcases hf with rfl | rfl <;> simp [execOp, h, go_sem]
end Go.Proofs.Ytdjdcpldofmdjaa
