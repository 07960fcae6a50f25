import Derived.Test.YtlkccencilhacaaARp1
import Derived.Test.YtlkccencilhacaaALogB
import Derived.Test.YtlkccencilhacaaAOrd
namespace Go.Proofs.Ytlkccencilhacaa
open Go.RowKit Go.Sort
open Num
set_option linter.unusedVariables false
set_option linter.unusedSimpArgs false
set_option maxRecDepth 20000

theorem ctxWordO_any (w : World) (g off n cap i : Nat) (hi : i < 4) (hn : 44 ≤ n) (hc : n ≤ cap) (hc2 : cap ≤ maxLen) :
    Calls Try.prog 80 #[.slice (some ⟨g, off, none⟩) n cap, .int .i64 (i : Int)] w fun e w' => e = .returned (.slice (some ⟨g, off + (28 + i * 4), none⟩) 4 (cap - (28 + i * 4))) ∧ w' = w := by
  unfold maxLen at hc2
  go_enter Try.func80, Try.ntmps80
  go_wp2_with fail
  go_ret
  refine ⟨?_, rfl⟩
  have e : 28 + i * 4 + 4 - (28 + i * 4) = 4 := by omega
  show Ending.returned (.slice (some ⟨g, off + (28 + i * 4), none⟩) (28 + i * 4 + 4 - (28 + i * 4)) (cap - (28 + i * 4))) = _
  rw [e]
theorem r_mov (ev : Operand → Value) (w : World) (o : Oper) (x : Operand) (v : Value) (ho : o.op = .move x) (h : ev x = v) : (execOp ev o).run Try.prog w = .ok (.value v) w := by
  cases o
  cases ho
  simp [execOp, h, go_sem]
theorem r_slice (ev : Operand → Value) (w : World) (o : Oper) (t lo hi g off n cap : Nat) (ho : o.op = .slice 23 (.tmp t) (some (.const (.int .i64 (lo : Int)))) (some (.const (.int .i64 (hi : Int)))) none) (h1 : lo ≤ hi) (h2 : hi ≤ cap) (h3 : lo < cap) (h : ev (.tmp t) = .slice (some ⟨g, off, none⟩) n cap) (c1 : ev (.const (.int .i64 (lo : Int))) = .int .i64 (lo : Int)) (c2 : ev (.const (.int .i64 (hi : Int))) = .int .i64 (hi : Int)) : (execOp ev o).run Try.prog w = .ok (.value (.slice (some ⟨g, off + lo, none⟩) (hi - lo) (cap - lo))) w := by
  cases o
  cases ho
  have b1 : (lo : Int) ≤ (hi : Int) := by omega
  have b2 : (hi : Int) ≤ (cap : Int) := by omega
  have b3 : ¬ cap = lo := by omega
  simp [execOp, h, c1, c2, go_sem, b1, b2, b3, h1, h2]
theorem r_conv (ev : Operand → Value) (w : World) (o : Oper) (t : Nat) (x : Nat) (ho : o.op = .convert 26 3 (.tmp t)) (h : ev (.tmp t) = .int .u32 (x : Int)) (hx : x < 4294967296) : (execOp ev o).run Try.prog w = .ok (.value (.int .i64 (x : Int))) w := by
  cases o
  cases ho
  have hw : IntKind.i64.wrap (x : Int) = (x : Int) := by simp [IntKind.wrap, IntKind.bits, IntKind.signed]; omega
  simp [execOp, h, go_sem, hw]
theorem r_call1 (ev : Operand → Value) (w : World) (o : Oper) (f t : Nat) (v : Value) (ho : o.op = .call { callee := .value (.func f), args := #[.tmp t], argTypes := #[23] }) (h : ev (.tmp t) = v) (hf : f = 88 ∨ f = 89) (h2 : ev (.func f) = .func (.func f) #[] #[]) : (execOp ev o).run Try.prog w = .ok (.enter f #[v]) w := by
  cases o
  cases ho
  rcases hf with rfl | rfl <;> simp [execOp, h, h2, go_sem]
theorem r_change (ev : Operand → Value) (w : World) (o : Oper) (x y z : Int) (ho : o.op = .build 48 #[(0, .tmp 19), (1, .tmp 22), (2, .tmp 25)]) (h1 : ev (.tmp 19) = .int .i64 x) (h2 : ev (.tmp 22) = .int .i64 y) (h3 : ev (.tmp 25) = .int .i64 z) : (execOp ev o).run Try.prog w = .ok (.value (.agg #[.int .i64 x, .int .i64 y, .int .i64 z])) w := by
  cases o
  cases ho
  simp [execOp, h1, h2, h3, go_sem]
theorem r_record (ev : Operand → Value) (w : World) (o : Oper) (n a s x y z t : Int) (ho : o.op = .build 90 #[(0, .tmp 8), (1, .tmp 12), (2, .tmp 16), (3, .tmp 26), (4, .tmp 29)]) (h1 : ev (.tmp 8) = .int .u32 n) (h2 : ev (.tmp 12) = .int .i64 a) (h3 : ev (.tmp 16) = .int .i64 s) (h4 : ev (.tmp 26) = .agg #[.int .i64 x, .int .i64 y, .int .i64 z]) (h5 : ev (.tmp 29) = .int .i64 t) : (execOp ev o).run Try.prog w = .ok (.value (.agg #[.int .u32 n, .int .i64 a, .int .i64 s, .int .i64 x, .int .i64 y, .int .i64 z, .int .i64 t, .int .i64 0, .int .i64 0, .int .i64 0, .int .i64 0])) w := by
  cases o
  cases ho
  simp [execOp, h1, h2, h3, h4, h5, go_sem]
theorem r_alloc (ev : Operand → Value) (w : World) (o : Oper) (ho : o.op = .alloc 90) : (execOp ev o).run Try.prog w = .ok (.value (.pointer (some ⟨w.heap.size, 0, none⟩))) (w.alloc (.cells zrec 90)) := by
  cases o
  cases ho
  simp [execOp, go_sem]
theorem r_len (ev : Operand → Value) (w : World) (o : Oper) (t : Nat) (a : Option Addr) (n c : Nat) (ho : o.op = .call { callee := .builtin .len, args := #[.tmp t], argTypes := #[23] }) (h : ev (.tmp t) = .slice a n c) : (execOp ev o).run Try.prog w = .ok (.value (.int .i64 (n : Int))) w := by
  cases o
  cases ho
  simp [execOp, h, go_sem]
theorem r_call2 (ev : Operand → Value) (w : World) (o : Oper) (x y : Value) (ho : o.op = .call { callee := .value (.func 50), args := #[.tmp 44, .tmp 46], argTypes := #[90, 3] }) (h1 : ev (.tmp 44) = x) (h2 : ev (.tmp 46) = y) (h3 : ev (.func 50) = .func (.func 50) #[] #[]) : (execOp ev o).run Try.prog w = .ok (.enter 50 #[x, y]) w := by
  cases o
  cases ho
  simp [execOp, h1, h2, h3, go_sem]
theorem r_call3 (ev : Operand → Value) (w : World) (o : Oper) (x y : Value) (ho : o.op = .call { callee := .value (.func 90), args := #[.tmp 43, .tmp 47], argTypes := #[23, 23] }) (h1 : ev (.tmp 43) = x) (h2 : ev (.tmp 47) = y) (h3 : ev (.func 90) = .func (.func 90) #[] #[]) : (execOp ev o).run Try.prog w = .ok (.enter 90 #[x, y]) w := by
  cases o
  cases ho
  simp [execOp, h1, h2, h3, go_sem]
theorem bsl_row {w : World} {g n : Nat} {l : List Nat} (h : w.heap[g]? = some (.cells (byts l) 5 (0, 0))) (hl : l.length = n) (hn : n ≤ maxLen) (hb : ∀ b ∈ l, b < 256) : BSl w (.slice (some ⟨g, 0, none⟩) n n) l := by
  subst hl
  refine ⟨_, _, rfl, Nat.le_refl _, hn, fun e => (by cases e), hb, fun _ => ⟨g, 0, rfl, fun i hi => ?_⟩⟩
  rw [cell_of_row _ _ _ _ _ _ h]
  simp [byts, byV, hi, List.getD]
theorem results_row_tmp1 {P : Program} {fn : Func} {p u : Tmp} {ty : TypeId} (h : fn.results = #[.cell p ty, .tmp u]) (tmps : Array Value) (w : World) (g : Nat) (t : TypeId) (cs : Array Value) (fr : Nat × Nat) (d : TypeDesc)
    (hp : tmps.getD p undef = .pointer (some ⟨g, 0, none⟩)) (hg : w.heap[g]? = some (.cells cs t fr))
    (hu : P.underlying ty = some d) (hd : (match d with | .struct _ | .array _ _ => true | _ => false) = true) (hi : (P.info? ty).map (·.size) = some cs.size) :
    (results fn tmps).run P w = .ok (.tuple #[.agg cs, tmps.getD u undef]) w := by
  have hp' : tmps[p]?.getD undef = .pointer (some ⟨g, 0, none⟩) := by simpa using hp
  simp [results, h, hp', asAddr, run_loadVar_row w g t ty cs fr d hg hu hd hi]
/-- the record as it is read, i words of its context -/
def prI (l : List Nat) (i : Nat) : Rc := { prs l with C := (List.range 4).map fun j => if j < i then sgI (bvA l (28 + j * 4) 4) else 0 }
theorem prI_four (l : List Nat) : prI l 4 = prs l := rfl
theorem prI_step (l : List Nat) (i : Nat) (h : i < 4) : (recI (prI l i)).setIfInBounds (7 + i) (.int .i64 (sgI (bvA l (28 + i * 4) 4))) = recI (prI l (i + 1)) := by
  rcases (show i = 0 ∨ i = 1 ∨ i = 2 ∨ i = 3 by omega) with rfl | rfl | rfl | rfl <;> rfl
/-- while parse reads -/
structure PaW (w x : World) (q : Nat) (l : List Nat) (i : Nat) : Prop where
  row : x.heap[q]? = some (.cells (recI (prI l i)) 90 (0, 0))
  res : x.heap[w.heap.size]? = some (.cells zrec 90 (0, 0))
  lo : w.heap.size < q
  be : Below w.heap.size w x
theorem PaW.cell {w x : World} {q : Nat} {l : List Nat} {i : Nat} (h : PaW w x q l i) (j : Nat) (hj : j < 4) : ∃ z, x.cell? ⟨q, 7 + j, none⟩ = some (.int .i64 z) := by
  rw [cell_of_row _ _ _ _ _ _ h.row]
  rcases (show j = 0 ∨ j = 1 ∨ j = 2 ∨ j = 3 by omega) with rfl | rfl | rfl | rfl <;> exact ⟨_, rfl⟩
theorem PaW.step {w x : World} {q : Nat} {l : List Nat} {i : Nat} (h : PaW w x q l i) (hi : i < 4) : PaW w (x.setCell ⟨q, 7 + i, none⟩ (.int .i64 (sgI (bvA l (28 + i * 4) 4)))) q l (i + 1) := by
  refine ⟨?_, ?_, h.lo, h.be.trans ⟨rfl, rfl, rfl, by rw [World.size_setCell]; exact Nat.le_refl _, fun b hb => Go.heap_setCell_other _ _ _ _ (by show b ≠ q; have := h.lo; omega)⟩⟩
  · rw [Go.heap_setCell_same _ _ _ _ _ _ h.row, prI_step l i hi]
  · rw [Go.heap_setCell_other _ _ _ _ (by show w.heap.size ≠ q; have := h.lo; omega)]; exact h.res
set_option maxHeartbeats 4000000 in
theorem parse_any (w : World) (v : Value) (l : List Nat) (hv : BSl w v l) (hsz : vsz l.length) :
    Calls Try.prog 65 #[v] w fun e w' => e = .returned (.tuple #[.agg (recI (prs l)), .bool (decide (l = (prs l).bytes l.length))]) ∧ Below w.heap.size w w' := by
  have hs := hsz.ge
  obtain ⟨g, off, cap, rfl, h1, h2, h3, h4⟩ := hv.form (by omega)
  have HV := hide hv
  unfold maxLen at h2
  clear hv h4
  generalize hN : l.length = size at *
  obtain ⟨hs1, hs2⟩ := hs

  have HT : Hid (∀ x, Below w.heap.size w x → ∀ i k c, i + k ≤ size → 1 ≤ k → k ≤ 4 → c = cap - i → Calls Try.prog 88 #[.slice (some ⟨g, off + i, none⟩) k c] x fun e w' => e = .returned (.int .u32 ((bvA l i k : Nat) : Int)) ∧ w' = x) := hide fun x hx i k c h1 h2 h3 h4 => by
    rw [h4]
    exact takeB_any _ _ x (BSl.below (HV.out.seg i k h1 h2) hx) (by simp; omega)
  have HS : Hid (∀ x, Below w.heap.size w x → ∀ i k c, i + k ≤ size → 1 ≤ k → k ≤ 4 → c = cap - i → Calls Try.prog 89 #[.slice (some ⟨g, off + i, none⟩) k c] x fun e w' => e = .returned (.int .i64 (sgI (bvA l i k))) ∧ w' = x) := hide fun x hx i k c h1 h2 h3 h4 => by
    rw [h4]
    exact signed_any _ _ x (BSl.below (HV.out.seg i k h1 h2) hx) (by simp; omega)
  have HBV : Hid (∀ i k : Nat, k ≤ 4 → bvA l i k < 4294967296) := hide fun i k hk => bval_u32 (fun b hb => h3 b (List.mem_of_mem_drop (List.mem_of_mem_take hb))) (by simp; omega)
  have HB0 : Hid (Below w.heap.size w (w.alloc (.cells zrec 90))) := hide ((Below.refl _ _).alloc (Nat.le_refl _) _)
  go_enter Try.func65, Try.ntmps65
  go_wp2_with fail
  generalize hw0 : w.alloc _ = w0 at *
  have HW0 := hide hw0
  clear hw0
  refine wp_region_specT (by kernel_rfl) 26 (by decide) (by kernel_rfl) (fun x y => Below x.heap.size x y) ⟨rfl, rfl, rfl, Nat.le_refl _, fun _ _ => rfl⟩ (fun x y z h k => h.trans (k.mono h.size))
    (fun i v x => (([.ex (.slice (some ⟨g, off, none⟩) size cap),
    .ex (.slice (some ⟨g, off + 4, none⟩) 4 (cap - 4)),
    .ex (.int .u32 ((bvA l 4 4 : Nat) : Int)),
    .ex (.slice (some ⟨g, off, none⟩) size cap),
    .ex (.slice (some ⟨g, off + 8, none⟩) 2 (cap - 8)),
    .ex (.int .u32 ((bvA l 8 2 : Nat) : Int)),
    .ex (.int .i64 ((bvA l 8 2 : Nat) : Int)),
    .ex (.slice (some ⟨g, off, none⟩) size cap),
    .ex (.slice (some ⟨g, off + 10, none⟩) 2 (cap - 10)),
    .ex (.int .u32 ((bvA l 10 2 : Nat) : Int)),
    .ex (.int .i64 ((bvA l 10 2 : Nat) : Int)),
    .ex (.slice (some ⟨g, off, none⟩) size cap),
    .ex (.slice (some ⟨g, off + 12, none⟩) 4 (cap - 12)),
    .ex (.int .i64 (sgI (bvA l 12 4))),
    .ex (.slice (some ⟨g, off, none⟩) size cap),
    .ex (.slice (some ⟨g, off + 16, none⟩) 4 (cap - 16)),
    .ex (.int .i64 (sgI (bvA l 16 4))),
    .ex (.slice (some ⟨g, off, none⟩) size cap),
    .ex (.slice (some ⟨g, off + 20, none⟩) 4 (cap - 20)),
    .ex (.int .i64 (sgI (bvA l 20 4))),
    .ex (.agg #[.int .i64 (sgI (bvA l 12 4)), .int .i64 (sgI (bvA l 16 4)), .int .i64 (sgI (bvA l 20 4))]),
    .ex (.slice (some ⟨g, off, none⟩) size cap),
    .ex (.slice (some ⟨g, off + 24, none⟩) 4 (cap - 24)),
    .ex (.int .i64 (sgI (bvA l 24 4))),
    .ex (.agg #[.int .u32 ((bvA l 4 4 : Nat) : Int), .int .i64 ((bvA l 8 2 : Nat) : Int), .int .i64 ((bvA l 10 2 : Nat) : Int), .int .i64 (sgI (bvA l 12 4)), .int .i64 (sgI (bvA l 16 4)), .int .i64 (sgI (bvA l 20 4)), .int .i64 (sgI (bvA l 24 4)), .int .i64 0, .int .i64 0, .int .i64 0, .int .i64 0]),
    .new w0.heap.size zrec 90] : List Dv).getD i (.of (fun _ _ => True) (fun _ _ _ _ _ => trivial))).holds v x) (fun i v x y h hb => Dv.stays h hb) ?step ?tail
  case step =>
    intro i o a w1 hi ho hL hG hd
    have hd' : ∀ j, (depsOf _ i).contains j = true → _ := fun j hj => hd j (by simpa using hj)
    have h0 : a.eval (.tmp 0) = .slice (some ⟨g, off, none⟩) size cap := hL.ev 0 (by kernel_rfl) rfl
    clear hd hL
    rcases (show i = 0 ∨ i = 1 ∨ i = 2 ∨ i = 3 ∨ i = 4 ∨ i = 5 ∨ i = 6 ∨ i = 7 ∨ i = 8 ∨ i = 9 ∨ i = 10 ∨ i = 11 ∨ i = 12 ∨ i = 13 ∨ i = 14 ∨ i = 15 ∨ i = 16 ∨ i = 17 ∨ i = 18 ∨ i = 19 ∨ i = 20 ∨ i = 21 ∨ i = 22 ∨ i = 23 ∨ i = 24 ∨ i = 25 by omega) with rfl | rfl | rfl | rfl | rfl | rfl | rfl | rfl | rfl | rfl | rfl | rfl | rfl | rfl | rfl | rfl | rfl | rfl | rfl | rfl | rfl | rfl | rfl | rfl | rfl | rfl
    · cases ho; exact opv (r_mov _ w1 _ (.tmp 0) _ rfl h0) ⟨_, rfl, rfl, Below.refl _ _⟩
    · cases ho; have e := hd' 0 (by kernel_rfl) _ rfl; exact opv (r_slice _ w1 _ 6 4 8 _ _ _ _ rfl (by omega) (by omega) (by omega) e rfl rfl) ⟨_, rfl, rfl, Below.refl _ _⟩
    · cases ho; have e := hd' 1 (by kernel_rfl) _ rfl; exact opc 88 _ (r_call1 _ w1 _ 88 _ _ rfl e (by first | exact .inl rfl | exact .inr rfl) rfl) (HT.out _ (HB0.out.trans (hG.mono HB0.out.size)) 4 4 _ (by omega) (by omega) (by omega) rfl) (fun e w2 h => ⟨_, h.1, _, rfl, rfl, h.2 ▸ Below.refl _ _⟩)
    · cases ho; exact opv (r_mov _ w1 _ (.tmp 0) _ rfl h0) ⟨_, rfl, rfl, Below.refl _ _⟩
    · cases ho; have e := hd' 3 (by kernel_rfl) _ rfl; exact opv (r_slice _ w1 _ 9 8 10 _ _ _ _ rfl (by omega) (by omega) (by omega) e rfl rfl) ⟨_, rfl, rfl, Below.refl _ _⟩
    · cases ho; have e := hd' 4 (by kernel_rfl) _ rfl; exact opc 88 _ (r_call1 _ w1 _ 88 _ _ rfl e (by first | exact .inl rfl | exact .inr rfl) rfl) (HT.out _ (HB0.out.trans (hG.mono HB0.out.size)) 8 2 _ (by omega) (by omega) (by omega) rfl) (fun e w2 h => ⟨_, h.1, _, rfl, rfl, h.2 ▸ Below.refl _ _⟩)
    · cases ho; have e := hd' 5 (by kernel_rfl) _ rfl; exact opv (r_conv _ w1 _ _ _ rfl e (HBV.out _ _ (by omega))) ⟨_, rfl, rfl, Below.refl _ _⟩
    · cases ho; exact opv (r_mov _ w1 _ (.tmp 0) _ rfl h0) ⟨_, rfl, rfl, Below.refl _ _⟩
    · cases ho; have e := hd' 7 (by kernel_rfl) _ rfl; exact opv (r_slice _ w1 _ 13 10 12 _ _ _ _ rfl (by omega) (by omega) (by omega) e rfl rfl) ⟨_, rfl, rfl, Below.refl _ _⟩
    · cases ho; have e := hd' 8 (by kernel_rfl) _ rfl; exact opc 88 _ (r_call1 _ w1 _ 88 _ _ rfl e (by first | exact .inl rfl | exact .inr rfl) rfl) (HT.out _ (HB0.out.trans (hG.mono HB0.out.size)) 10 2 _ (by omega) (by omega) (by omega) rfl) (fun e w2 h => ⟨_, h.1, _, rfl, rfl, h.2 ▸ Below.refl _ _⟩)
    · cases ho; have e := hd' 9 (by kernel_rfl) _ rfl; exact opv (r_conv _ w1 _ _ _ rfl e (HBV.out _ _ (by omega))) ⟨_, rfl, rfl, Below.refl _ _⟩
    · cases ho; exact opv (r_mov _ w1 _ (.tmp 0) _ rfl h0) ⟨_, rfl, rfl, Below.refl _ _⟩
    · cases ho; have e := hd' 11 (by kernel_rfl) _ rfl; exact opv (r_slice _ w1 _ 17 12 16 _ _ _ _ rfl (by omega) (by omega) (by omega) e rfl rfl) ⟨_, rfl, rfl, Below.refl _ _⟩
    · cases ho; have e := hd' 12 (by kernel_rfl) _ rfl; exact opc 89 _ (r_call1 _ w1 _ 89 _ _ rfl e (by first | exact .inl rfl | exact .inr rfl) rfl) (HS.out _ (HB0.out.trans (hG.mono HB0.out.size)) 12 4 _ (by omega) (by omega) (by omega) rfl) (fun e w2 h => ⟨_, h.1, _, rfl, rfl, h.2 ▸ Below.refl _ _⟩)
    · cases ho; exact opv (r_mov _ w1 _ (.tmp 0) _ rfl h0) ⟨_, rfl, rfl, Below.refl _ _⟩
    · cases ho; have e := hd' 14 (by kernel_rfl) _ rfl; exact opv (r_slice _ w1 _ 20 16 20 _ _ _ _ rfl (by omega) (by omega) (by omega) e rfl rfl) ⟨_, rfl, rfl, Below.refl _ _⟩
    · cases ho; have e := hd' 15 (by kernel_rfl) _ rfl; exact opc 89 _ (r_call1 _ w1 _ 89 _ _ rfl e (by first | exact .inl rfl | exact .inr rfl) rfl) (HS.out _ (HB0.out.trans (hG.mono HB0.out.size)) 16 4 _ (by omega) (by omega) (by omega) rfl) (fun e w2 h => ⟨_, h.1, _, rfl, rfl, h.2 ▸ Below.refl _ _⟩)
    · cases ho; exact opv (r_mov _ w1 _ (.tmp 0) _ rfl h0) ⟨_, rfl, rfl, Below.refl _ _⟩
    · cases ho; have e := hd' 17 (by kernel_rfl) _ rfl; exact opv (r_slice _ w1 _ 23 20 24 _ _ _ _ rfl (by omega) (by omega) (by omega) e rfl rfl) ⟨_, rfl, rfl, Below.refl _ _⟩
    · cases ho; have e := hd' 18 (by kernel_rfl) _ rfl; exact opc 89 _ (r_call1 _ w1 _ 89 _ _ rfl e (by first | exact .inl rfl | exact .inr rfl) rfl) (HS.out _ (HB0.out.trans (hG.mono HB0.out.size)) 20 4 _ (by omega) (by omega) (by omega) rfl) (fun e w2 h => ⟨_, h.1, _, rfl, rfl, h.2 ▸ Below.refl _ _⟩)
    · cases ho; have e1 := hd' 13 (by kernel_rfl) _ rfl; have e2 := hd' 16 (by kernel_rfl) _ rfl; have e3 := hd' 19 (by kernel_rfl) _ rfl; exact opv (r_change _ w1 _ _ _ _ rfl e1 e2 e3) ⟨_, rfl, rfl, Below.refl _ _⟩
    · cases ho; exact opv (r_mov _ w1 _ (.tmp 0) _ rfl h0) ⟨_, rfl, rfl, Below.refl _ _⟩
    · cases ho; have e := hd' 21 (by kernel_rfl) _ rfl; exact opv (r_slice _ w1 _ 27 24 28 _ _ _ _ rfl (by omega) (by omega) (by omega) e rfl rfl) ⟨_, rfl, rfl, Below.refl _ _⟩
    · cases ho; have e := hd' 22 (by kernel_rfl) _ rfl; exact opc 89 _ (r_call1 _ w1 _ 89 _ _ rfl e (by first | exact .inl rfl | exact .inr rfl) rfl) (HS.out _ (HB0.out.trans (hG.mono HB0.out.size)) 24 4 _ (by omega) (by omega) (by omega) rfl) (fun e w2 h => ⟨_, h.1, _, rfl, rfl, h.2 ▸ Below.refl _ _⟩)
    · cases ho; have e1 := hd' 2 (by kernel_rfl) _ rfl; have e2 := hd' 6 (by kernel_rfl) _ rfl; have e3 := hd' 10 (by kernel_rfl) _ rfl; have e4 := hd' 20 (by kernel_rfl) _ rfl; have e5 := hd' 23 (by kernel_rfl) _ rfl; exact opv (r_record _ w1 _ _ _ _ _ _ _ _ rfl e1 e2 e3 e4 e5) ⟨_, rfl, rfl, Below.refl _ _⟩
    · cases ho; exact opv (r_alloc _ w1 _ rfl) ⟨_, rfl, ⟨_, rfl, hG.size, Go.heap_alloc_new _ _⟩, (Below.refl _ _).alloc (Nat.le_refl _) _⟩
  case tail =>
    intro a w1 hL hG hA
    have e0 : a.eval (.tmp 0) = .slice (some ⟨g, off, none⟩) size cap := hL.ev 0 (by kernel_rfl) rfl
    have e2 : a.eval (.tmp 2) = .pointer (some ⟨w.heap.size, 0, none⟩) := hL.ev 2 (by kernel_rfl) rfl
    have e3 : a.eval (.tmp 3) = .bool false := hL.ev 3 (by kernel_rfl) rfl
    obtain ⟨q, e4', hq, hrow⟩ := hA 25 _ (by decide) rfl
    have e4 : a.eval (.tmp 4) = .pointer (some ⟨q, 0, none⟩) := e4'
    clear e4'
    have e30 : a.eval (.tmp 30) = .agg #[.int .u32 ((bvA l 4 4 : Nat) : Int), .int .i64 ((bvA l 8 2 : Nat) : Int), .int .i64 ((bvA l 10 2 : Nat) : Int), .int .i64 (sgI (bvA l 12 4)), .int .i64 (sgI (bvA l 16 4)), .int .i64 (sgI (bvA l 20 4)), .int .i64 (sgI (bvA l 24 4)), .int .i64 0, .int .i64 0, .int .i64 0, .int .i64 0] := hA 24 _ (by decide) rfl
    obtain ⟨u1, hu1⟩ : ∃ u, a.eval (.tmp 1) = u := ⟨_, rfl⟩
    obtain ⟨u5, hu5⟩ : ∃ u, a.eval (.tmp 5) = u := ⟨_, rfl⟩
    obtain ⟨u6, hu6⟩ : ∃ u, a.eval (.tmp 6) = u := ⟨_, rfl⟩
    obtain ⟨u7, hu7⟩ : ∃ u, a.eval (.tmp 7) = u := ⟨_, rfl⟩
    obtain ⟨u8, hu8⟩ : ∃ u, a.eval (.tmp 8) = u := ⟨_, rfl⟩
    obtain ⟨u9, hu9⟩ : ∃ u, a.eval (.tmp 9) = u := ⟨_, rfl⟩
    obtain ⟨u10, hu10⟩ : ∃ u, a.eval (.tmp 10) = u := ⟨_, rfl⟩
    obtain ⟨u11, hu11⟩ : ∃ u, a.eval (.tmp 11) = u := ⟨_, rfl⟩
    obtain ⟨u12, hu12⟩ : ∃ u, a.eval (.tmp 12) = u := ⟨_, rfl⟩
    obtain ⟨u13, hu13⟩ : ∃ u, a.eval (.tmp 13) = u := ⟨_, rfl⟩
    obtain ⟨u14, hu14⟩ : ∃ u, a.eval (.tmp 14) = u := ⟨_, rfl⟩
    obtain ⟨u15, hu15⟩ : ∃ u, a.eval (.tmp 15) = u := ⟨_, rfl⟩
    obtain ⟨u16, hu16⟩ : ∃ u, a.eval (.tmp 16) = u := ⟨_, rfl⟩
    obtain ⟨u17, hu17⟩ : ∃ u, a.eval (.tmp 17) = u := ⟨_, rfl⟩
    obtain ⟨u18, hu18⟩ : ∃ u, a.eval (.tmp 18) = u := ⟨_, rfl⟩
    obtain ⟨u19, hu19⟩ : ∃ u, a.eval (.tmp 19) = u := ⟨_, rfl⟩
    obtain ⟨u20, hu20⟩ : ∃ u, a.eval (.tmp 20) = u := ⟨_, rfl⟩
    obtain ⟨u21, hu21⟩ : ∃ u, a.eval (.tmp 21) = u := ⟨_, rfl⟩
    obtain ⟨u22, hu22⟩ : ∃ u, a.eval (.tmp 22) = u := ⟨_, rfl⟩
    obtain ⟨u23, hu23⟩ : ∃ u, a.eval (.tmp 23) = u := ⟨_, rfl⟩
    obtain ⟨u24, hu24⟩ : ∃ u, a.eval (.tmp 24) = u := ⟨_, rfl⟩
    obtain ⟨u25, hu25⟩ : ∃ u, a.eval (.tmp 25) = u := ⟨_, rfl⟩
    obtain ⟨u26, hu26⟩ : ∃ u, a.eval (.tmp 26) = u := ⟨_, rfl⟩
    obtain ⟨u27, hu27⟩ : ∃ u, a.eval (.tmp 27) = u := ⟨_, rfl⟩
    obtain ⟨u28, hu28⟩ : ∃ u, a.eval (.tmp 28) = u := ⟨_, rfl⟩
    obtain ⟨u29, hu29⟩ : ∃ u, a.eval (.tmp 29) = u := ⟨_, rfl⟩
    obtain ⟨u31, hu31⟩ : ∃ u, a.eval (.tmp 31) = u := ⟨_, rfl⟩
    obtain ⟨u32, hu32⟩ : ∃ u, a.eval (.tmp 32) = u := ⟨_, rfl⟩
    obtain ⟨u33, hu33⟩ : ∃ u, a.eval (.tmp 33) = u := ⟨_, rfl⟩
    obtain ⟨u34, hu34⟩ : ∃ u, a.eval (.tmp 34) = u := ⟨_, rfl⟩
    obtain ⟨u35, hu35⟩ : ∃ u, a.eval (.tmp 35) = u := ⟨_, rfl⟩
    obtain ⟨u36, hu36⟩ : ∃ u, a.eval (.tmp 36) = u := ⟨_, rfl⟩
    obtain ⟨u37, hu37⟩ : ∃ u, a.eval (.tmp 37) = u := ⟨_, rfl⟩
    obtain ⟨u38, hu38⟩ : ∃ u, a.eval (.tmp 38) = u := ⟨_, rfl⟩
    obtain ⟨u39, hu39⟩ : ∃ u, a.eval (.tmp 39) = u := ⟨_, rfl⟩
    obtain ⟨u40, hu40⟩ : ∃ u, a.eval (.tmp 40) = u := ⟨_, rfl⟩
    obtain ⟨u41, hu41⟩ : ∃ u, a.eval (.tmp 41) = u := ⟨_, rfl⟩
    obtain ⟨u42, hu42⟩ : ∃ u, a.eval (.tmp 42) = u := ⟨_, rfl⟩
    obtain ⟨u43, hu43⟩ : ∃ u, a.eval (.tmp 43) = u := ⟨_, rfl⟩
    obtain ⟨u44, hu44⟩ : ∃ u, a.eval (.tmp 44) = u := ⟨_, rfl⟩
    obtain ⟨u45, hu45⟩ : ∃ u, a.eval (.tmp 45) = u := ⟨_, rfl⟩
    obtain ⟨u46, hu46⟩ : ∃ u, a.eval (.tmp 46) = u := ⟨_, rfl⟩
    obtain ⟨u47, hu47⟩ : ∃ u, a.eval (.tmp 47) = u := ⟨_, rfl⟩
    obtain ⟨u48, hu48⟩ : ∃ u, a.eval (.tmp 48) = u := ⟨_, rfl⟩
    have hact : a = { tmps := #[.slice (some ⟨g, off, none⟩) size cap, u1, .pointer (some ⟨w.heap.size, 0, none⟩), .bool false, .pointer (some ⟨q, 0, none⟩), u5, u6, u7, u8, u9, u10, u11, u12, u13, u14, u15, u16, u17, u18, u19, u20, u21, u22, u23, u24, u25, u26, u27, u28, u29, .agg #[.int .u32 ((bvA l 4 4 : Nat) : Int), .int .i64 ((bvA l 8 2 : Nat) : Int), .int .i64 ((bvA l 10 2 : Nat) : Int), .int .i64 (sgI (bvA l 12 4)), .int .i64 (sgI (bvA l 16 4)), .int .i64 (sgI (bvA l 20 4)), .int .i64 (sgI (bvA l 24 4)), .int .i64 0, .int .i64 0, .int .i64 0, .int .i64 0], u31, u32, u33, u34, u35, u36, u37, u38, u39, u40, u41, u42, u43, u44, u45, u46, u47, u48], defers := [] } := by
      refine (act_lit hL.size hL.defers).trans ?_
      congr 1
      simp only [List.size_toArray, List.length_cons, List.length_nil, List.range, List.range.loop, Nat.reduceAdd, List.map, e0, e2, e3, e4, e30, hu1, hu5, hu6, hu7, hu8, hu9, hu10, hu11, hu12, hu13, hu14, hu15, hu16, hu17, hu18, hu19, hu20, hu21, hu22, hu23, hu24, hu25, hu26, hu27, hu28, hu29, hu31, hu32, hu33, hu34, hu35, hu36, hu37, hu38, hu39, hu40, hu41, hu42, hu43, hu44, hu45, hu46, hu47, hu48]
    clear hA
    have hlo : w0.heap.size = w.heap.size + 1 := by rw [← HW0.out]; simp
    have HPA : Hid (PaW w (w1.setRow q #[.int .u32 ((bvA l 4 4 : Nat) : Int), .int .i64 ((bvA l 8 2 : Nat) : Int), .int .i64 ((bvA l 10 2 : Nat) : Int), .int .i64 (sgI (bvA l 12 4)), .int .i64 (sgI (bvA l 16 4)), .int .i64 (sgI (bvA l 20 4)), .int .i64 (sgI (bvA l 24 4)), .int .i64 0, .int .i64 0, .int .i64 0, .int .i64 0]) q l 0) := hide (by
      have hb1 : Below w.heap.size w w1 := HB0.out.trans (hG.mono HB0.out.size)
      have hql := (Array.getElem?_eq_some_iff.1 hrow).1
      refine ⟨?_, ?_, by omega, hb1.trans ⟨rfl, rfl, rfl, Nat.le_of_eq (setRow_size ..).symm, fun k hk => setRow_other _ _ _ _ (by omega)⟩⟩
      · rw [setRow_heap _ _ _ _ _ _ hrow]; rfl
      · rw [setRow_other _ _ _ _ (by omega), hG.block _ (by omega), ← HW0.out]
        exact Go.heap_alloc_new _ _)
    rw [hact]
    clear hact e0 e2 e3 e4 e30 hL hu1 hu5 hu6 hu7 hu8 hu9 hu10 hu11 hu12 hu13 hu14 hu15 hu16 hu17 hu18 hu19 hu20 hu21 hu22 hu23 hu24 hu25 hu26 hu27 hu28 hu29 hu31 hu32 hu33 hu34 hu35 hu36 hu37 hu38 hu39 hu40 hu41 hu42 hu43 hu44 hu45 hu46 hu47 hu48
    clear a
    refine wpList_store_row rfl 90 (.tmp 4) (.tmp 30) rfl q #[.int .u32 ((bvA l 4 4 : Nat) : Int), .int .i64 ((bvA l 8 2 : Nat) : Int), .int .i64 ((bvA l 10 2 : Nat) : Int), .int .i64 (sgI (bvA l 12 4)), .int .i64 (sgI (bvA l 16 4)), .int .i64 (sgI (bvA l 20 4)), .int .i64 (sgI (bvA l 24 4)), .int .i64 0, .int .i64 0, .int .i64 0, .int .i64 0] rfl rfl 90 zrec hrow recSize rfl (by first | kernel_rfl | simp [Value.oneCell']) ?_
    clear hrow hG hq hlo HW0 HB0
    generalize w1.setRow q #[.int .u32 ((bvA l 4 4 : Nat) : Int), .int .i64 ((bvA l 8 2 : Nat) : Int), .int .i64 ((bvA l 10 2 : Nat) : Int), .int .i64 (sgI (bvA l 12 4)), .int .i64 (sgI (bvA l 16 4)), .int .i64 (sgI (bvA l 20 4)), .int .i64 (sgI (bvA l 24 4)), .int .i64 0, .int .i64 0, .int .i64 0, .int .i64 0] = w2 at *
    clear w1 w0
    rename_i Q' K hK
    refine hK _ _ ?_
    clear hK K
    simp only [Act.put]
    go_wp2_with fail
    go_loopw [31] (fun x wr => ∃ i : Nat, i ≤ 4 ∧ x = .int .i64 (i : Int) ∧ PaW w wr q l i) (fun x _ => 4 - (intOf x).toNat)
    case atStart => exact ⟨0, by omega, rfl, HPA.out⟩
    case round =>
      clear HPA
      obtain ⟨i, hi, rfl, hb⟩ := hrel
      have HB := hide hb
      by_cases hlt : i < 4
      · have c1 := hb.cell i hlt
        obtain ⟨z, c1⟩ := c1
        have c2 := frozen_of_row _ _ (7 + i) _ 90 hb.row
        have HN := hide (hb.step hlt)
        have HBE := hide hb.be
        clear hb
        have hil : (i : Int) < 4 := by omega
        have HCW := hide fun x => ctxWordO_any x g off size cap i hlt (by omega) h1 (by unfold maxLen; omega)
        have HSG := hide (HS.out wr HBE.out (28 + i * 4) 4 _ (by omega) (by omega) (by omega) rfl)
        clear HS HT
        generalize sgI (bvA l (28 + i * 4) 4) = zz at *
        go_wp2_with (first
          | (go_at_call 80; refine (HCW.out _).mono ?_; rintro e y ⟨rfl, rfl⟩)
          | (go_at_call 89; refine HSG.out.mono ?_; rintro e y ⟨rfl, rfl⟩))
        go_roundw
        case rel => exact ⟨i + 1, by omega, by go_num, HN.out⟩
        case measure => simp [intOf]; omega
      · have e4 : i = 4 := by omega
        subst e4
        go_wp2_with fail
        have HROW := hide hb.row
        rw [prI_four] at HROW
        have hql := (Array.getElem?_eq_some_iff.1 hb.row).1
        have HBL := hide hb.be
        have HRES := hide hb.res
        have hqlo := hb.lo
        clear hb HS HT HB
        generalize hRI : recI (prs l) = RI at *
        have HRI := hide hRI
        clear hRI
        refine wp_region_specT (by kernel_rfl) 7 (by decide) (by kernel_rfl) (fun x y => Below x.heap.size x y) ⟨rfl, rfl, rfl, Nat.le_refl _, fun _ _ => rfl⟩ (fun x y z h k => h.trans (k.mono h.size))
          (fun i v x => (([.ex (.agg RI), .ex (.slice (some ⟨g, off, none⟩) size cap), .ex (.agg RI), .ex (.slice (some ⟨g, off, none⟩) size cap), .ex (.int .i64 (size : Int)), .of (fun v x => BSl x v ((prs l).bytes size)) (fun v x y h hb => h.below hb), .ex (.bool (decide (l = (prs l).bytes size)))] : List Dv).getD i (.of (fun _ _ => True) (fun _ _ _ _ _ => trivial))).holds v x) (fun i v x y h hb => Dv.stays h hb) ?step2 ?tail2
        case step2 =>
          intro i o a w1 hi ho hL hG hd
          have hd' : ∀ j, (depsOf _ i).contains j = true → _ := fun j hj => hd j (by simpa using hj)
          have h0 : a.eval (.tmp 0) = .slice (some ⟨g, off, none⟩) size cap := hL.ev 0 (by kernel_rfl) rfl
          have h4 : a.eval (.tmp 4) = .pointer (some ⟨q, 0, none⟩) := hL.ev 4 (by kernel_rfl) rfl
          have hrow : w1.heap[q]? = some (.cells RI 90 (0, 0)) := (hG.block q hql).trans HROW.out
          have hRsz : (Try.prog.info? 90).map (·.size) = some RI.size := by rw [← HRI.out]; exact recSize
          clear hd hL
          rcases (show i = 0 ∨ i = 1 ∨ i = 2 ∨ i = 3 ∨ i = 4 ∨ i = 5 ∨ i = 6 by omega) with rfl | rfl | rfl | rfl | rfl | rfl | rfl
          · cases ho; exact wp_load_row 90 (.tmp 4) rfl q h4 90 RI (0, 0) _ hrow Try.underlying90 rfl hRsz ⟨_, rfl, rfl, Below.refl _ _⟩
          · cases ho; exact opv (r_mov _ w1 _ (.tmp 0) _ rfl h0) ⟨_, rfl, rfl, Below.refl _ _⟩
          · cases ho; exact wp_load_row 90 (.tmp 4) rfl q h4 90 RI (0, 0) _ hrow Try.underlying90 rfl hRsz ⟨_, rfl, rfl, Below.refl _ _⟩
          · cases ho; exact opv (r_mov _ w1 _ (.tmp 0) _ rfl h0) ⟨_, rfl, rfl, Below.refl _ _⟩
          · cases ho; have e := hd' 3 (by kernel_rfl) _ rfl; exact opv (r_len _ w1 _ _ _ _ _ rfl e) ⟨_, rfl, rfl, Below.refl _ _⟩
          · cases ho
            have e1 := hd' 2 (by kernel_rfl) _ rfl
            have e2 := hd' 4 (by kernel_rfl) _ rfl
            have hc := blockI_any w1 size (prs l).num (prs l).age (prs l).slots (prs l).c0 (prs l).c1 (prs l).c2 (prs l).st (prs l).C hsz (HBV.out 4 4 (by omega)) (HBV.out 8 2 (by omega)) (HBV.out 10 2 (by omega))
            rw [show Rc.mk (prs l).num (prs l).age (prs l).slots (prs l).c0 (prs l).c1 (prs l).c2 (prs l).st (prs l).C = prs l from rfl, HRI.out] at hc
            exact opc 50 _ (r_call2 _ w1 _ _ _ rfl e1 e2 rfl) hc (fun e w2 h => ⟨_, h.1, _, rfl, bsl_row h.2.1 (bytes_len _ _ (by omega)) (by unfold maxLen; omega) (bytes_lt _ _), h.2.2⟩)
          · cases ho
            have e1 := hd' 1 (by kernel_rfl) _ rfl
            have e2 : BSl w1 _ _ := hd' 5 (by kernel_rfl) _ rfl
            exact opc 90 _ (r_call3 _ w1 _ _ _ rfl e1 rfl rfl) (equal_any _ _ l ((prs l).bytes size) w1 (HV.out.below (HBL.out.trans (hG.mono HBL.out.size))) e2 (by omega) (by rw [bytes_len _ _ (by omega)]; omega)) (fun e w2 h => ⟨_, h.1, _, rfl, rfl, h.2 ▸ Below.refl _ _⟩)
        case tail2 =>
          intro a w1 hL hG hA
          have e2 : a.eval (.tmp 2) = .pointer (some ⟨w.heap.size, 0, none⟩) := hL.ev 2 (by kernel_rfl) rfl
          have e42 : a.eval (.tmp 42) = .agg RI := hA 0 _ (by decide) rfl
          have e48 : a.eval (.tmp 48) = .bool (decide (l = (prs l).bytes size)) := hA 6 _ (by decide) rfl
          obtain ⟨t0, ht0⟩ : ∃ u, a.eval (.tmp 0) = u := ⟨_, rfl⟩
          obtain ⟨t1, ht1⟩ : ∃ u, a.eval (.tmp 1) = u := ⟨_, rfl⟩
          obtain ⟨t3, ht3⟩ : ∃ u, a.eval (.tmp 3) = u := ⟨_, rfl⟩
          obtain ⟨t4, ht4⟩ : ∃ u, a.eval (.tmp 4) = u := ⟨_, rfl⟩
          obtain ⟨t5, ht5⟩ : ∃ u, a.eval (.tmp 5) = u := ⟨_, rfl⟩
          obtain ⟨t6, ht6⟩ : ∃ u, a.eval (.tmp 6) = u := ⟨_, rfl⟩
          obtain ⟨t7, ht7⟩ : ∃ u, a.eval (.tmp 7) = u := ⟨_, rfl⟩
          obtain ⟨t8, ht8⟩ : ∃ u, a.eval (.tmp 8) = u := ⟨_, rfl⟩
          obtain ⟨t9, ht9⟩ : ∃ u, a.eval (.tmp 9) = u := ⟨_, rfl⟩
          obtain ⟨t10, ht10⟩ : ∃ u, a.eval (.tmp 10) = u := ⟨_, rfl⟩
          obtain ⟨t11, ht11⟩ : ∃ u, a.eval (.tmp 11) = u := ⟨_, rfl⟩
          obtain ⟨t12, ht12⟩ : ∃ u, a.eval (.tmp 12) = u := ⟨_, rfl⟩
          obtain ⟨t13, ht13⟩ : ∃ u, a.eval (.tmp 13) = u := ⟨_, rfl⟩
          obtain ⟨t14, ht14⟩ : ∃ u, a.eval (.tmp 14) = u := ⟨_, rfl⟩
          obtain ⟨t15, ht15⟩ : ∃ u, a.eval (.tmp 15) = u := ⟨_, rfl⟩
          obtain ⟨t16, ht16⟩ : ∃ u, a.eval (.tmp 16) = u := ⟨_, rfl⟩
          obtain ⟨t17, ht17⟩ : ∃ u, a.eval (.tmp 17) = u := ⟨_, rfl⟩
          obtain ⟨t18, ht18⟩ : ∃ u, a.eval (.tmp 18) = u := ⟨_, rfl⟩
          obtain ⟨t19, ht19⟩ : ∃ u, a.eval (.tmp 19) = u := ⟨_, rfl⟩
          obtain ⟨t20, ht20⟩ : ∃ u, a.eval (.tmp 20) = u := ⟨_, rfl⟩
          obtain ⟨t21, ht21⟩ : ∃ u, a.eval (.tmp 21) = u := ⟨_, rfl⟩
          obtain ⟨t22, ht22⟩ : ∃ u, a.eval (.tmp 22) = u := ⟨_, rfl⟩
          obtain ⟨t23, ht23⟩ : ∃ u, a.eval (.tmp 23) = u := ⟨_, rfl⟩
          obtain ⟨t24, ht24⟩ : ∃ u, a.eval (.tmp 24) = u := ⟨_, rfl⟩
          obtain ⟨t25, ht25⟩ : ∃ u, a.eval (.tmp 25) = u := ⟨_, rfl⟩
          obtain ⟨t26, ht26⟩ : ∃ u, a.eval (.tmp 26) = u := ⟨_, rfl⟩
          obtain ⟨t27, ht27⟩ : ∃ u, a.eval (.tmp 27) = u := ⟨_, rfl⟩
          obtain ⟨t28, ht28⟩ : ∃ u, a.eval (.tmp 28) = u := ⟨_, rfl⟩
          obtain ⟨t29, ht29⟩ : ∃ u, a.eval (.tmp 29) = u := ⟨_, rfl⟩
          obtain ⟨t30, ht30⟩ : ∃ u, a.eval (.tmp 30) = u := ⟨_, rfl⟩
          obtain ⟨t31, ht31⟩ : ∃ u, a.eval (.tmp 31) = u := ⟨_, rfl⟩
          obtain ⟨t32, ht32⟩ : ∃ u, a.eval (.tmp 32) = u := ⟨_, rfl⟩
          obtain ⟨t33, ht33⟩ : ∃ u, a.eval (.tmp 33) = u := ⟨_, rfl⟩
          obtain ⟨t34, ht34⟩ : ∃ u, a.eval (.tmp 34) = u := ⟨_, rfl⟩
          obtain ⟨t35, ht35⟩ : ∃ u, a.eval (.tmp 35) = u := ⟨_, rfl⟩
          obtain ⟨t36, ht36⟩ : ∃ u, a.eval (.tmp 36) = u := ⟨_, rfl⟩
          obtain ⟨t37, ht37⟩ : ∃ u, a.eval (.tmp 37) = u := ⟨_, rfl⟩
          obtain ⟨t38, ht38⟩ : ∃ u, a.eval (.tmp 38) = u := ⟨_, rfl⟩
          obtain ⟨t39, ht39⟩ : ∃ u, a.eval (.tmp 39) = u := ⟨_, rfl⟩
          obtain ⟨t40, ht40⟩ : ∃ u, a.eval (.tmp 40) = u := ⟨_, rfl⟩
          obtain ⟨t41, ht41⟩ : ∃ u, a.eval (.tmp 41) = u := ⟨_, rfl⟩
          obtain ⟨t43, ht43⟩ : ∃ u, a.eval (.tmp 43) = u := ⟨_, rfl⟩
          obtain ⟨t44, ht44⟩ : ∃ u, a.eval (.tmp 44) = u := ⟨_, rfl⟩
          obtain ⟨t45, ht45⟩ : ∃ u, a.eval (.tmp 45) = u := ⟨_, rfl⟩
          obtain ⟨t46, ht46⟩ : ∃ u, a.eval (.tmp 46) = u := ⟨_, rfl⟩
          obtain ⟨t47, ht47⟩ : ∃ u, a.eval (.tmp 47) = u := ⟨_, rfl⟩
          have hact : a = { tmps := #[t0, t1, .pointer (some ⟨w.heap.size, 0, none⟩), t3, t4, t5, t6, t7, t8, t9, t10, t11, t12, t13, t14, t15, t16, t17, t18, t19, t20, t21, t22, t23, t24, t25, t26, t27, t28, t29, t30, t31, t32, t33, t34, t35, t36, t37, t38, t39, t40, t41, .agg RI, t43, t44, t45, t46, t47, .bool (decide (l = (prs l).bytes size))], defers := [] } := by
            refine (act_lit hL.size hL.defers).trans ?_
            congr 1
            simp only [List.size_toArray, List.length_cons, List.length_nil, List.range, List.range.loop, Nat.reduceAdd, List.map, e2, e42, e48, ht0, ht1, ht3, ht4, ht5, ht6, ht7, ht8, ht9, ht10, ht11, ht12, ht13, ht14, ht15, ht16, ht17, ht18, ht19, ht20, ht21, ht22, ht23, ht24, ht25, ht26, ht27, ht28, ht29, ht30, ht31, ht32, ht33, ht34, ht35, ht36, ht37, ht38, ht39, ht40, ht41, ht43, ht44, ht45, ht46, ht47]
          have hres : w1.heap[w.heap.size]? = some (.cells zrec 90 (0, 0)) := (hG.block _ (by omega)).trans HRES.out
          have hRs : RI.size = 11 := by rw [← HRI.out]; rfl
          have hRo : RI.all (·.oneCell') = true := by rw [← HRI.out]; simp [recI, Value.oneCell']
          have hrow := setRow_heap w1 w.heap.size zrec RI 90 (0, 0) hres
          have hbF : Below w.heap.size w (w1.setRow w.heap.size RI) := (HBL.out.trans (hG.mono HBL.out.size)).trans ⟨rfl, rfl, rfl, Nat.le_of_eq (setRow_size ..).symm, fun k hk => setRow_other _ _ _ _ (by omega)⟩
          rw [hact]
          clear hact e2 e42 e48 hL hA ht0 ht1 ht3 ht4 ht5 ht6 ht7 ht8 ht9 ht10 ht11 ht12 ht13 ht14 ht15 ht16 ht17 ht18 ht19 ht20 ht21 ht22 ht23 ht24 ht25 ht26 ht27 ht28 ht29 ht30 ht31 ht32 ht33 ht34 ht35 ht36 ht37 ht38 ht39 ht40 ht41 ht43 ht44 ht45 ht46 ht47
          clear a
          refine wpList_store_row rfl 90 (.tmp 2) (.tmp 42) rfl w.heap.size RI rfl rfl 90 zrec hres (by rw [hRs]; exact recSize) (by rw [hRs]; rfl) hRo ?_
          have HROW := hide hrow
          have HBF := hide hbF
          clear hrow hbF hres hG
          generalize w1.setRow w.heap.size RI = wF at *
          simp only [Act.put]
          go_wp2_with fail
          refine bodyPost_ret (results_row_tmp1 (fn := Try.f65) (p := 2) (u := 3) (ty := 90) (by kernel_rfl) _ _ w.heap.size 90 RI (0, 0) _ rfl HROW.out Try.underlying90 rfl (by rw [hRs]; exact recSize)) rfl ⟨?_, HBF.out⟩
          rw [HRI.out]
          rfl
end Go.Proofs.Ytlkccencilhacaa
