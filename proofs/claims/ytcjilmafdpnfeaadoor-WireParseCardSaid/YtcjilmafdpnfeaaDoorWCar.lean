import Derived.Test.YtcjilmafdpnfeaaDoorWCar0
import Derived.Great.Walk
namespace Go.Proofs.YtcjilmafdpnfeaaDoor
open Go.RowKit
set_option linter.unusedVariables false
set_option linter.unusedSimpArgs false
set_option maxRecDepth 100000
theorem wpList_mk {ops : Array Oper} {rest : List Oper} {o : Oper} {a : Act} {w : World} {Q : Exit → Act → World → Prop} (hgd : o.guard = none) (t : TypeId) (x : Operand) (ho : o.op = .makeInterface t x) (hc : Tryd.prog.concrete t = true) (v : Value) (hx : a.eval x = v)
    (h : wpList Tryd.prog ops Q rest (a.put o.dst (.iface t v)) w) : wpList Tryd.prog ops Q (o :: rest) a w := by
  refine wpList_plain hgd fun K hK => ?_
  unfold Oper.wp execOp
  simp only [ho, Sem.run_bind, run_makeInterface _ t _ hc, hx, Result.andThen_ok]
  exact hK _ _ h
theorem wpList_bd {ops : Array Oper} {rest : List Oper} {o : Oper} {a : Act} {w : World} {Q : Exit → Act → World → Prop} (hgd : o.guard = none) (t : TypeId) (parts : Array (Nat × Operand)) (ho : o.op = .build t parts) (vs : Array Value)
    (hf : Tryd.prog.built t (parts.map fun (i, x) => (i, a.eval x)).toList = some vs)
    (h : wpList Tryd.prog ops Q rest (a.put o.dst (.agg vs)) w) : wpList Tryd.prog ops Q (o :: rest) a w := by
  refine wpList_build hgd t parts ho (by rw [hf]; rfl) ?_
  rw [hf]
  exact h
theorem cN : Tryd.prog.concrete 66 = true := by kernel_rfl
theorem cD : Tryd.prog.concrete 68 = true := by kernel_rfl
theorem cS : Tryd.prog.concrete 70 = true := by kernel_rfl
theorem cI : Tryd.prog.concrete 72 = true := by kernel_rfl
/-- the fields of each command -/
def fldL (c : Nat) : List Value := ([[], [.iface 66 (.int .i64 0), .iface 66 (.int .i64 1), .iface 66 (.int .i64 4)], [.iface 68 (.agg #[.int .u64 16, .int .u64 16, .bool false])], [.iface 70 (.agg #[.bool false])], [.iface 66 (.int .i64 2), .iface 66 (.int .i64 3), .iface 66 (.int .i64 4)], [.iface 66 (.int .i64 5), .iface 66 (.int .i64 6), .iface 72 (.agg #[])], [.iface 66 (.int .i64 7)], [.iface 66 (.int .i64 8), .iface 66 (.int .i64 9), .iface 68 (.agg #[.int .u64 1, .int .u64 256, .bool false])], [.iface 66 (.int .i64 10), .iface 66 (.int .i64 11), .iface 66 (.int .i64 12), .iface 68 (.agg #[.int .u64 1, .int .u64 1024, .bool false])], [.iface 66 (.int .i64 10), .iface 66 (.int .i64 11), .iface 66 (.int .i64 12)], [.iface 66 (.int .i64 10), .iface 66 (.int .i64 11)], [.iface 66 (.int .i64 10), .iface 66 (.int .i64 11)], [.iface 66 (.int .i64 10), .iface 66 (.int .i64 11), .iface 66 (.int .i64 14)], [.iface 66 (.int .i64 12), .iface 66 (.int .i64 13)], [.iface 66 (.int .i64 12), .iface 66 (.int .i64 13)], [.iface 66 (.int .i64 10), .iface 66 (.int .i64 11), .iface 66 (.int .i64 16), .iface 70 (.agg #[.bool true])], [.iface 66 (.int .i64 10), .iface 66 (.int .i64 11)], [.iface 66 (.int .i64 10), .iface 66 (.int .i64 11), .iface 68 (.agg #[.int .u64 1, .int .u64 1024, .bool false])], [.iface 66 (.int .i64 10), .iface 66 (.int .i64 11)], [.iface 66 (.int .i64 17)], [.iface 66 (.int .i64 10), .iface 66 (.int .i64 11), .iface 70 (.agg #[.bool false])], [.iface 66 (.int .i64 10), .iface 66 (.int .i64 11), .iface 66 (.int .i64 16)], [.iface 66 (.int .i64 17)], [.iface 72 (.agg #[])], [.iface 66 (.int .i64 10), .iface 66 (.int .i64 11)], [.iface 66 (.int .i64 10), .iface 66 (.int .i64 11), .iface 66 (.int .i64 15), .iface 68 (.agg #[.int .u64 1, .int .u64 1024, .bool true])]] : List (List Value)).getD c []
/-- a list of fields in memory -/
def FL (w : World) (v : Value) (vs : List Value) : Prop := (vs = [] ∧ v = .slice none 0 0) ∨ ∃ b, v = .slice (some ⟨b, 0, none⟩) vs.length vs.length ∧ w.heap[b]? = some (.cells vs.toArray 53 (0, 0))
theorem act_eq {P : Program} {c : Code} {Q : Exit → Act → World → Prop} {A B : Act} {w : World} (h : A = B) (h2 : Code.wp P c Q B w) : Code.wp P c Q A w := h ▸ h2
theorem FS.tab {w x : World} {L : List (Nat × List Value)} (h : FS w x L) (zs tab : Array Value) (t : TypeId) : FS w ((x.alloc (.cells zs t)).setRow x.heap.size tab) L ∧ ((x.alloc (.cells zs t)).setRow x.heap.size tab).heap[x.heap.size]? = some (.cells tab t (0, 0)) := by
  refine ⟨⟨fun q hq => ?_, ?_⟩, setRow_heap _ _ zs _ t _ (Go.heap_alloc_new x _)⟩
  · have h1 := h.rows q hq
    have h2 := (Array.getElem?_eq_some_iff.1 h1).1
    rw [setRow_other _ _ _ _ (by omega), RowKit.Below.heap_alloc _ _ _ h2]
    exact h1
  · refine ⟨h.bel.os, h.bel.tape, h.bel.output, by simp [World.setRow]; have := h.bel.size; omega, fun k hk => ?_⟩
    have := h.bel.size
    rw [setRow_other _ _ _ _ (by omega), RowKit.Below.heap_alloc _ _ _ (by omega)]
    exact h.bel.block k hk
set_option maxHeartbeats 4000000 in
theorem carried_any (w : World) (c : Nat) (hc : c ≤ 25) : Calls Tryd.prog 13 #[.int .i64 (c : Int)] w fun e w' => ∃ v, e = .returned v ∧ FL w' v (fldL c) ∧ Below w.heap.size w w' := by
  have HF : Hid (FS w w []) := hide ⟨by simp, Below.refl _ _⟩
  go_enter Tryd.func13, Tryd.ntmps13
  refine wp_seq_k fun K0 hK0 => ?_
  have HK0 := hide hK0
  clear hK0
  refine wp_region_lit ?_
  go_wp2_with fail
  refine HK0.out _ _ ?_
  clear HK0
  refine wp_seq_k fun K1 hK1 => ?_
  have HK1 := hide hK1
  clear hK1
  refine wp_region_lit ?_
  refine wpList_mk rfl 66 _ rfl cN (.int .i64 0) (by kernel_rfl) ?_
  refine wpList_mk rfl 66 _ rfl cN (.int .i64 1) (by kernel_rfl) ?_
  refine wpList_mk rfl 66 _ rfl cN (.int .i64 4) (by kernel_rfl) ?_
  refine wpList_f3 rfl _ _ _ rfl 66 66 66 (.int .i64 0) (.int .i64 1) (.int .i64 4) (by kernel_rfl) (by kernel_rfl) (by kernel_rfl) HF.out ?_; clear HF; intro x1 b1 hf; have HF := hide hf; clear hf
  refine wpList_bd rfl 68 _ rfl #[.int .u64 16, .int .u64 16, .bool false] (by kernel_rfl) ?_
  refine wpList_mk rfl 68 _ rfl cD (.agg #[.int .u64 16, .int .u64 16, .bool false]) (by kernel_rfl) ?_
  refine wpList_f1 rfl _ rfl 68 (.agg #[.int .u64 16, .int .u64 16, .bool false]) (by kernel_rfl) HF.out ?_; clear HF; intro x2 b2 hf; have HF := hide hf; clear hf
  refine wpList_bd rfl 70 _ rfl #[.bool false] (by kernel_rfl) ?_
  refine wpList_mk rfl 70 _ rfl cS (.agg #[.bool false]) (by kernel_rfl) ?_
  refine wpList_f1 rfl _ rfl 70 (.agg #[.bool false]) (by kernel_rfl) HF.out ?_; clear HF; intro x3 b3 hf; have HF := hide hf; clear hf
  refine wpList_mk rfl 66 _ rfl cN (.int .i64 2) (by kernel_rfl) ?_
  refine wpList_mk rfl 66 _ rfl cN (.int .i64 3) (by kernel_rfl) ?_
  refine wpList_mk rfl 66 _ rfl cN (.int .i64 4) (by kernel_rfl) ?_
  refine wpList_f3 rfl _ _ _ rfl 66 66 66 (.int .i64 2) (.int .i64 3) (.int .i64 4) (by kernel_rfl) (by kernel_rfl) (by kernel_rfl) HF.out ?_; clear HF; intro x4 b4 hf; have HF := hide hf; clear hf
  refine wpList_mk rfl 66 _ rfl cN (.int .i64 5) (by kernel_rfl) ?_
  refine wpList_mk rfl 66 _ rfl cN (.int .i64 6) (by kernel_rfl) ?_
  refine wpList_bd rfl 72 _ rfl #[] (by kernel_rfl) ?_
  refine wpList_mk rfl 72 _ rfl cI (.agg #[]) (by kernel_rfl) ?_
  refine wpList_f3 rfl _ _ _ rfl 66 66 72 (.int .i64 5) (.int .i64 6) (.agg #[]) (by kernel_rfl) (by kernel_rfl) (by kernel_rfl) HF.out ?_; clear HF; intro x5 b5 hf; have HF := hide hf; clear hf
  refine wpList_mk rfl 66 _ rfl cN (.int .i64 7) (by kernel_rfl) ?_
  refine wpList_f1 rfl _ rfl 66 (.int .i64 7) (by kernel_rfl) HF.out ?_; clear HF; intro x6 b6 hf; have HF := hide hf; clear hf
  refine wpList_mk rfl 66 _ rfl cN (.int .i64 8) (by kernel_rfl) ?_
  refine wpList_mk rfl 66 _ rfl cN (.int .i64 9) (by kernel_rfl) ?_
  refine wpList_bd rfl 68 _ rfl #[.int .u64 1, .int .u64 256, .bool false] (by kernel_rfl) ?_
  refine wpList_mk rfl 68 _ rfl cD (.agg #[.int .u64 1, .int .u64 256, .bool false]) (by kernel_rfl) ?_
  refine wpList_f3 rfl _ _ _ rfl 66 66 68 (.int .i64 8) (.int .i64 9) (.agg #[.int .u64 1, .int .u64 256, .bool false]) (by kernel_rfl) (by kernel_rfl) (by kernel_rfl) HF.out ?_; clear HF; intro x7 b7 hf; have HF := hide hf; clear hf
  refine wpList_mk rfl 66 _ rfl cN (.int .i64 10) (by kernel_rfl) ?_
  refine wpList_mk rfl 66 _ rfl cN (.int .i64 11) (by kernel_rfl) ?_
  refine wpList_mk rfl 66 _ rfl cN (.int .i64 12) (by kernel_rfl) ?_
  refine wpList_bd rfl 68 _ rfl #[.int .u64 1, .int .u64 1024, .bool false] (by kernel_rfl) ?_
  refine wpList_mk rfl 68 _ rfl cD (.agg #[.int .u64 1, .int .u64 1024, .bool false]) (by kernel_rfl) ?_
  refine wpList_f4 rfl _ _ _ _ rfl 66 66 66 68 (.int .i64 10) (.int .i64 11) (.int .i64 12) (.agg #[.int .u64 1, .int .u64 1024, .bool false]) (by kernel_rfl) (by kernel_rfl) (by kernel_rfl) (by kernel_rfl) HF.out ?_; clear HF; intro x8 b8 hf; have HF := hide hf; clear hf
  refine wpList_mk rfl 66 _ rfl cN (.int .i64 10) (by kernel_rfl) ?_
  refine wpList_mk rfl 66 _ rfl cN (.int .i64 11) (by kernel_rfl) ?_
  refine wpList_mk rfl 66 _ rfl cN (.int .i64 12) (by kernel_rfl) ?_
  refine wpList_f3 rfl _ _ _ rfl 66 66 66 (.int .i64 10) (.int .i64 11) (.int .i64 12) (by kernel_rfl) (by kernel_rfl) (by kernel_rfl) HF.out ?_; clear HF; intro x9 b9 hf; have HF := hide hf; clear hf
  refine wpList_mk rfl 66 _ rfl cN (.int .i64 10) (by kernel_rfl) ?_
  refine wpList_mk rfl 66 _ rfl cN (.int .i64 11) (by kernel_rfl) ?_
  refine wpList_f2 rfl _ _ rfl 66 66 (.int .i64 10) (.int .i64 11) (by kernel_rfl) (by kernel_rfl) HF.out ?_; clear HF; intro x10 b10 hf; have HF := hide hf; clear hf
  refine wpList_mk rfl 66 _ rfl cN (.int .i64 10) (by kernel_rfl) ?_
  refine wpList_mk rfl 66 _ rfl cN (.int .i64 11) (by kernel_rfl) ?_
  refine wpList_f2 rfl _ _ rfl 66 66 (.int .i64 10) (.int .i64 11) (by kernel_rfl) (by kernel_rfl) HF.out ?_; clear HF; intro x11 b11 hf; have HF := hide hf; clear hf
  refine wpList_mk rfl 66 _ rfl cN (.int .i64 10) (by kernel_rfl) ?_
  refine wpList_mk rfl 66 _ rfl cN (.int .i64 11) (by kernel_rfl) ?_
  refine wpList_mk rfl 66 _ rfl cN (.int .i64 14) (by kernel_rfl) ?_
  refine wpList_f3 rfl _ _ _ rfl 66 66 66 (.int .i64 10) (.int .i64 11) (.int .i64 14) (by kernel_rfl) (by kernel_rfl) (by kernel_rfl) HF.out ?_; clear HF; intro x12 b12 hf; have HF := hide hf; clear hf
  refine wpList_mk rfl 66 _ rfl cN (.int .i64 12) (by kernel_rfl) ?_
  refine wpList_mk rfl 66 _ rfl cN (.int .i64 13) (by kernel_rfl) ?_
  refine wpList_f2 rfl _ _ rfl 66 66 (.int .i64 12) (.int .i64 13) (by kernel_rfl) (by kernel_rfl) HF.out ?_; clear HF; intro x13 b13 hf; have HF := hide hf; clear hf
  refine wpList_mk rfl 66 _ rfl cN (.int .i64 12) (by kernel_rfl) ?_
  refine wpList_mk rfl 66 _ rfl cN (.int .i64 13) (by kernel_rfl) ?_
  refine wpList_f2 rfl _ _ rfl 66 66 (.int .i64 12) (.int .i64 13) (by kernel_rfl) (by kernel_rfl) HF.out ?_; clear HF; intro x14 b14 hf; have HF := hide hf; clear hf
  refine wpList_mk rfl 66 _ rfl cN (.int .i64 10) (by kernel_rfl) ?_
  refine wpList_mk rfl 66 _ rfl cN (.int .i64 11) (by kernel_rfl) ?_
  refine wpList_mk rfl 66 _ rfl cN (.int .i64 16) (by kernel_rfl) ?_
  refine wpList_bd rfl 70 _ rfl #[.bool true] (by kernel_rfl) ?_
  refine wpList_mk rfl 70 _ rfl cS (.agg #[.bool true]) (by kernel_rfl) ?_
  refine wpList_f4 rfl _ _ _ _ rfl 66 66 66 70 (.int .i64 10) (.int .i64 11) (.int .i64 16) (.agg #[.bool true]) (by kernel_rfl) (by kernel_rfl) (by kernel_rfl) (by kernel_rfl) HF.out ?_; clear HF; intro x15 b15 hf; have HF := hide hf; clear hf
  refine wpList_mk rfl 66 _ rfl cN (.int .i64 10) (by kernel_rfl) ?_
  refine wpList_mk rfl 66 _ rfl cN (.int .i64 11) (by kernel_rfl) ?_
  refine wpList_f2 rfl _ _ rfl 66 66 (.int .i64 10) (.int .i64 11) (by kernel_rfl) (by kernel_rfl) HF.out ?_; clear HF; intro x16 b16 hf; have HF := hide hf; clear hf
  refine wpList_mk rfl 66 _ rfl cN (.int .i64 10) (by kernel_rfl) ?_
  refine wpList_mk rfl 66 _ rfl cN (.int .i64 11) (by kernel_rfl) ?_
  refine wpList_bd rfl 68 _ rfl #[.int .u64 1, .int .u64 1024, .bool false] (by kernel_rfl) ?_
  refine wpList_mk rfl 68 _ rfl cD (.agg #[.int .u64 1, .int .u64 1024, .bool false]) (by kernel_rfl) ?_
  refine wpList_f3 rfl _ _ _ rfl 66 66 68 (.int .i64 10) (.int .i64 11) (.agg #[.int .u64 1, .int .u64 1024, .bool false]) (by kernel_rfl) (by kernel_rfl) (by kernel_rfl) HF.out ?_; clear HF; intro x17 b17 hf; have HF := hide hf; clear hf
  refine wpList_mk rfl 66 _ rfl cN (.int .i64 10) (by kernel_rfl) ?_
  refine wpList_mk rfl 66 _ rfl cN (.int .i64 11) (by kernel_rfl) ?_
  refine wpList_f2 rfl _ _ rfl 66 66 (.int .i64 10) (.int .i64 11) (by kernel_rfl) (by kernel_rfl) HF.out ?_; clear HF; intro x18 b18 hf; have HF := hide hf; clear hf
  refine wpList_mk rfl 66 _ rfl cN (.int .i64 17) (by kernel_rfl) ?_
  refine wpList_f1 rfl _ rfl 66 (.int .i64 17) (by kernel_rfl) HF.out ?_; clear HF; intro x19 b19 hf; have HF := hide hf; clear hf
  refine wpList_mk rfl 66 _ rfl cN (.int .i64 10) (by kernel_rfl) ?_
  refine wpList_mk rfl 66 _ rfl cN (.int .i64 11) (by kernel_rfl) ?_
  refine wpList_bd rfl 70 _ rfl #[.bool false] (by kernel_rfl) ?_
  refine wpList_mk rfl 70 _ rfl cS (.agg #[.bool false]) (by kernel_rfl) ?_
  refine wpList_f3 rfl _ _ _ rfl 66 66 70 (.int .i64 10) (.int .i64 11) (.agg #[.bool false]) (by kernel_rfl) (by kernel_rfl) (by kernel_rfl) HF.out ?_; clear HF; intro x20 b20 hf; have HF := hide hf; clear hf
  refine wpList_mk rfl 66 _ rfl cN (.int .i64 10) (by kernel_rfl) ?_
  refine wpList_mk rfl 66 _ rfl cN (.int .i64 11) (by kernel_rfl) ?_
  refine wpList_mk rfl 66 _ rfl cN (.int .i64 16) (by kernel_rfl) ?_
  refine wpList_f3 rfl _ _ _ rfl 66 66 66 (.int .i64 10) (.int .i64 11) (.int .i64 16) (by kernel_rfl) (by kernel_rfl) (by kernel_rfl) HF.out ?_; clear HF; intro x21 b21 hf; have HF := hide hf; clear hf
  refine wpList_mk rfl 66 _ rfl cN (.int .i64 17) (by kernel_rfl) ?_
  refine wpList_f1 rfl _ rfl 66 (.int .i64 17) (by kernel_rfl) HF.out ?_; clear HF; intro x22 b22 hf; have HF := hide hf; clear hf
  refine wpList_bd rfl 72 _ rfl #[] (by kernel_rfl) ?_
  refine wpList_mk rfl 72 _ rfl cI (.agg #[]) (by kernel_rfl) ?_
  refine wpList_f1 rfl _ rfl 72 (.agg #[]) (by kernel_rfl) HF.out ?_; clear HF; intro x23 b23 hf; have HF := hide hf; clear hf
  refine wpList_mk rfl 66 _ rfl cN (.int .i64 10) (by kernel_rfl) ?_
  refine wpList_mk rfl 66 _ rfl cN (.int .i64 11) (by kernel_rfl) ?_
  refine wpList_f2 rfl _ _ rfl 66 66 (.int .i64 10) (.int .i64 11) (by kernel_rfl) (by kernel_rfl) HF.out ?_; clear HF; intro x24 b24 hf; have HF := hide hf; clear hf
  refine wpList_mk rfl 66 _ rfl cN (.int .i64 10) (by kernel_rfl) ?_
  refine wpList_mk rfl 66 _ rfl cN (.int .i64 11) (by kernel_rfl) ?_
  refine wpList_mk rfl 66 _ rfl cN (.int .i64 15) (by kernel_rfl) ?_
  refine wpList_bd rfl 68 _ rfl #[.int .u64 1, .int .u64 1024, .bool true] (by kernel_rfl) ?_
  refine wpList_mk rfl 68 _ rfl cD (.agg #[.int .u64 1, .int .u64 1024, .bool true]) (by kernel_rfl) ?_
  refine wpList_f4 rfl _ _ _ _ rfl 66 66 66 68 (.int .i64 10) (.int .i64 11) (.int .i64 15) (.agg #[.int .u64 1, .int .u64 1024, .bool true]) (by kernel_rfl) (by kernel_rfl) (by kernel_rfl) (by kernel_rfl) HF.out ?_; clear HF; intro x25 b25 hf; have HF := hide hf; clear hf
  refine wpList_bd rfl 73 _ rfl #[.slice none 0 0, .slice (some ⟨b1, 0, none⟩) 3 3, .slice (some ⟨b2, 0, none⟩) 1 1, .slice (some ⟨b3, 0, none⟩) 1 1, .slice (some ⟨b4, 0, none⟩) 3 3, .slice (some ⟨b5, 0, none⟩) 3 3, .slice (some ⟨b6, 0, none⟩) 1 1, .slice (some ⟨b7, 0, none⟩) 3 3, .slice (some ⟨b8, 0, none⟩) 4 4, .slice (some ⟨b9, 0, none⟩) 3 3, .slice (some ⟨b10, 0, none⟩) 2 2, .slice (some ⟨b11, 0, none⟩) 2 2, .slice (some ⟨b12, 0, none⟩) 3 3, .slice (some ⟨b13, 0, none⟩) 2 2, .slice (some ⟨b14, 0, none⟩) 2 2, .slice (some ⟨b15, 0, none⟩) 4 4, .slice (some ⟨b16, 0, none⟩) 2 2, .slice (some ⟨b17, 0, none⟩) 3 3, .slice (some ⟨b18, 0, none⟩) 2 2, .slice (some ⟨b19, 0, none⟩) 1 1, .slice (some ⟨b20, 0, none⟩) 3 3, .slice (some ⟨b21, 0, none⟩) 3 3, .slice (some ⟨b22, 0, none⟩) 1 1, .slice (some ⟨b23, 0, none⟩) 1 1, .slice (some ⟨b24, 0, none⟩) 2 2, .slice (some ⟨b25, 0, none⟩) 4 4] (by kernel_rfl) ?_
  refine Great.wpList_runTo rfl (some 3) rfl (.pointer (some ⟨x25.heap.size, 0, none⟩)) (x25.alloc (.cells (Array.replicate 26 (.slice none 0 0)) 73)) (by kernel_rfl) ?_
  refine wpList_store_row rfl 73 _ _ rfl x25.heap.size #[.slice none 0 0, .slice (some ⟨b1, 0, none⟩) 3 3, .slice (some ⟨b2, 0, none⟩) 1 1, .slice (some ⟨b3, 0, none⟩) 1 1, .slice (some ⟨b4, 0, none⟩) 3 3, .slice (some ⟨b5, 0, none⟩) 3 3, .slice (some ⟨b6, 0, none⟩) 1 1, .slice (some ⟨b7, 0, none⟩) 3 3, .slice (some ⟨b8, 0, none⟩) 4 4, .slice (some ⟨b9, 0, none⟩) 3 3, .slice (some ⟨b10, 0, none⟩) 2 2, .slice (some ⟨b11, 0, none⟩) 2 2, .slice (some ⟨b12, 0, none⟩) 3 3, .slice (some ⟨b13, 0, none⟩) 2 2, .slice (some ⟨b14, 0, none⟩) 2 2, .slice (some ⟨b15, 0, none⟩) 4 4, .slice (some ⟨b16, 0, none⟩) 2 2, .slice (some ⟨b17, 0, none⟩) 3 3, .slice (some ⟨b18, 0, none⟩) 2 2, .slice (some ⟨b19, 0, none⟩) 1 1, .slice (some ⟨b20, 0, none⟩) 3 3, .slice (some ⟨b21, 0, none⟩) 3 3, .slice (some ⟨b22, 0, none⟩) 1 1, .slice (some ⟨b23, 0, none⟩) 1 1, .slice (some ⟨b24, 0, none⟩) 2 2, .slice (some ⟨b25, 0, none⟩) 4 4] (by kernel_rfl) (by kernel_rfl) 73 _ (Go.heap_alloc_new x25 _) (by kernel_rfl) (by kernel_rfl) (by kernel_rfl) ?_
  refine wpList_nil ?_
  refine HK1.out _ _ ?_
  clear HK1
  obtain ⟨hf, hrow⟩ := HF.out.tab (Array.replicate 26 (.slice none 0 0)) #[.slice none 0 0, .slice (some ⟨b1, 0, none⟩) 3 3, .slice (some ⟨b2, 0, none⟩) 1 1, .slice (some ⟨b3, 0, none⟩) 1 1, .slice (some ⟨b4, 0, none⟩) 3 3, .slice (some ⟨b5, 0, none⟩) 3 3, .slice (some ⟨b6, 0, none⟩) 1 1, .slice (some ⟨b7, 0, none⟩) 3 3, .slice (some ⟨b8, 0, none⟩) 4 4, .slice (some ⟨b9, 0, none⟩) 3 3, .slice (some ⟨b10, 0, none⟩) 2 2, .slice (some ⟨b11, 0, none⟩) 2 2, .slice (some ⟨b12, 0, none⟩) 3 3, .slice (some ⟨b13, 0, none⟩) 2 2, .slice (some ⟨b14, 0, none⟩) 2 2, .slice (some ⟨b15, 0, none⟩) 4 4, .slice (some ⟨b16, 0, none⟩) 2 2, .slice (some ⟨b17, 0, none⟩) 3 3, .slice (some ⟨b18, 0, none⟩) 2 2, .slice (some ⟨b19, 0, none⟩) 1 1, .slice (some ⟨b20, 0, none⟩) 3 3, .slice (some ⟨b21, 0, none⟩) 3 3, .slice (some ⟨b22, 0, none⟩) 1 1, .slice (some ⟨b23, 0, none⟩) 1 1, .slice (some ⟨b24, 0, none⟩) 2 2, .slice (some ⟨b25, 0, none⟩) 4 4] 73
  obtain ⟨tb, htb⟩ : ∃ tb, tb = x25.heap.size := ⟨_, rfl⟩
  rw [← htb] at hf hrow ⊢
  refine act_eq (B := { tmps := #[.int .i64 (c : Int), undef, .slice none 0 0, .pointer (some ⟨tb, 0, none⟩), .iface 66 (.int .i64 0), .iface 66 (.int .i64 1), .iface 66 (.int .i64 4), .slice (some ⟨b1, 0, none⟩) 3 3, (.agg #[.int .u64 16, .int .u64 16, .bool false]), .iface 68 (.agg #[.int .u64 16, .int .u64 16, .bool false]), .slice (some ⟨b2, 0, none⟩) 1 1, (.agg #[.bool false]), .iface 70 (.agg #[.bool false]), .slice (some ⟨b3, 0, none⟩) 1 1, .iface 66 (.int .i64 2), .iface 66 (.int .i64 3), .iface 66 (.int .i64 4), .slice (some ⟨b4, 0, none⟩) 3 3, .iface 66 (.int .i64 5), .iface 66 (.int .i64 6), (.agg #[]), .iface 72 (.agg #[]), .slice (some ⟨b5, 0, none⟩) 3 3, .iface 66 (.int .i64 7), .slice (some ⟨b6, 0, none⟩) 1 1, .iface 66 (.int .i64 8), .iface 66 (.int .i64 9), (.agg #[.int .u64 1, .int .u64 256, .bool false]), .iface 68 (.agg #[.int .u64 1, .int .u64 256, .bool false]), .slice (some ⟨b7, 0, none⟩) 3 3, .iface 66 (.int .i64 10), .iface 66 (.int .i64 11), .iface 66 (.int .i64 12), (.agg #[.int .u64 1, .int .u64 1024, .bool false]), .iface 68 (.agg #[.int .u64 1, .int .u64 1024, .bool false]), .slice (some ⟨b8, 0, none⟩) 4 4, .iface 66 (.int .i64 10), .iface 66 (.int .i64 11), .iface 66 (.int .i64 12), .slice (some ⟨b9, 0, none⟩) 3 3, .iface 66 (.int .i64 10), .iface 66 (.int .i64 11), .slice (some ⟨b10, 0, none⟩) 2 2, .iface 66 (.int .i64 10), .iface 66 (.int .i64 11), .slice (some ⟨b11, 0, none⟩) 2 2, .iface 66 (.int .i64 10), .iface 66 (.int .i64 11), .iface 66 (.int .i64 14), .slice (some ⟨b12, 0, none⟩) 3 3, .iface 66 (.int .i64 12), .iface 66 (.int .i64 13), .slice (some ⟨b13, 0, none⟩) 2 2, .iface 66 (.int .i64 12), .iface 66 (.int .i64 13), .slice (some ⟨b14, 0, none⟩) 2 2, .iface 66 (.int .i64 10), .iface 66 (.int .i64 11), .iface 66 (.int .i64 16), (.agg #[.bool true]), .iface 70 (.agg #[.bool true]), .slice (some ⟨b15, 0, none⟩) 4 4, .iface 66 (.int .i64 10), .iface 66 (.int .i64 11), .slice (some ⟨b16, 0, none⟩) 2 2, .iface 66 (.int .i64 10), .iface 66 (.int .i64 11), (.agg #[.int .u64 1, .int .u64 1024, .bool false]), .iface 68 (.agg #[.int .u64 1, .int .u64 1024, .bool false]), .slice (some ⟨b17, 0, none⟩) 3 3, .iface 66 (.int .i64 10), .iface 66 (.int .i64 11), .slice (some ⟨b18, 0, none⟩) 2 2, .iface 66 (.int .i64 17), .slice (some ⟨b19, 0, none⟩) 1 1, .iface 66 (.int .i64 10), .iface 66 (.int .i64 11), (.agg #[.bool false]), .iface 70 (.agg #[.bool false]), .slice (some ⟨b20, 0, none⟩) 3 3, .iface 66 (.int .i64 10), .iface 66 (.int .i64 11), .iface 66 (.int .i64 16), .slice (some ⟨b21, 0, none⟩) 3 3, .iface 66 (.int .i64 17), .slice (some ⟨b22, 0, none⟩) 1 1, (.agg #[]), .iface 72 (.agg #[]), .slice (some ⟨b23, 0, none⟩) 1 1, .iface 66 (.int .i64 10), .iface 66 (.int .i64 11), .slice (some ⟨b24, 0, none⟩) 2 2, .iface 66 (.int .i64 10), .iface 66 (.int .i64 11), .iface 66 (.int .i64 15), (.agg #[.int .u64 1, .int .u64 1024, .bool true]), .iface 68 (.agg #[.int .u64 1, .int .u64 1024, .bool true]), .slice (some ⟨b25, 0, none⟩) 4 4, .agg #[.slice none 0 0, .slice (some ⟨b1, 0, none⟩) 3 3, .slice (some ⟨b2, 0, none⟩) 1 1, .slice (some ⟨b3, 0, none⟩) 1 1, .slice (some ⟨b4, 0, none⟩) 3 3, .slice (some ⟨b5, 0, none⟩) 3 3, .slice (some ⟨b6, 0, none⟩) 1 1, .slice (some ⟨b7, 0, none⟩) 3 3, .slice (some ⟨b8, 0, none⟩) 4 4, .slice (some ⟨b9, 0, none⟩) 3 3, .slice (some ⟨b10, 0, none⟩) 2 2, .slice (some ⟨b11, 0, none⟩) 2 2, .slice (some ⟨b12, 0, none⟩) 3 3, .slice (some ⟨b13, 0, none⟩) 2 2, .slice (some ⟨b14, 0, none⟩) 2 2, .slice (some ⟨b15, 0, none⟩) 4 4, .slice (some ⟨b16, 0, none⟩) 2 2, .slice (some ⟨b17, 0, none⟩) 3 3, .slice (some ⟨b18, 0, none⟩) 2 2, .slice (some ⟨b19, 0, none⟩) 1 1, .slice (some ⟨b20, 0, none⟩) 3 3, .slice (some ⟨b21, 0, none⟩) 3 3, .slice (some ⟨b22, 0, none⟩) 1 1, .slice (some ⟨b23, 0, none⟩) 1 1, .slice (some ⟨b24, 0, none⟩) 2 2, .slice (some ⟨b25, 0, none⟩) 4 4], undef, undef, undef], defers := [] }) (by kernel_rfl) ?_
  generalize ((x25.alloc (.cells (Array.replicate 26 (.slice none 0 0)) 73)).setRow tb #[.slice none 0 0, .slice (some ⟨b1, 0, none⟩) 3 3, .slice (some ⟨b2, 0, none⟩) 1 1, .slice (some ⟨b3, 0, none⟩) 1 1, .slice (some ⟨b4, 0, none⟩) 3 3, .slice (some ⟨b5, 0, none⟩) 3 3, .slice (some ⟨b6, 0, none⟩) 1 1, .slice (some ⟨b7, 0, none⟩) 3 3, .slice (some ⟨b8, 0, none⟩) 4 4, .slice (some ⟨b9, 0, none⟩) 3 3, .slice (some ⟨b10, 0, none⟩) 2 2, .slice (some ⟨b11, 0, none⟩) 2 2, .slice (some ⟨b12, 0, none⟩) 3 3, .slice (some ⟨b13, 0, none⟩) 2 2, .slice (some ⟨b14, 0, none⟩) 2 2, .slice (some ⟨b15, 0, none⟩) 4 4, .slice (some ⟨b16, 0, none⟩) 2 2, .slice (some ⟨b17, 0, none⟩) 3 3, .slice (some ⟨b18, 0, none⟩) 2 2, .slice (some ⟨b19, 0, none⟩) 1 1, .slice (some ⟨b20, 0, none⟩) 3 3, .slice (some ⟨b21, 0, none⟩) 3 3, .slice (some ⟨b22, 0, none⟩) 1 1, .slice (some ⟨b23, 0, none⟩) 1 1, .slice (some ⟨b24, 0, none⟩) 2 2, .slice (some ⟨b25, 0, none⟩) 4 4]) = y at *
  have key : ∃ aa nn, (#[.slice none 0 0, .slice (some ⟨b1, 0, none⟩) 3 3, .slice (some ⟨b2, 0, none⟩) 1 1, .slice (some ⟨b3, 0, none⟩) 1 1, .slice (some ⟨b4, 0, none⟩) 3 3, .slice (some ⟨b5, 0, none⟩) 3 3, .slice (some ⟨b6, 0, none⟩) 1 1, .slice (some ⟨b7, 0, none⟩) 3 3, .slice (some ⟨b8, 0, none⟩) 4 4, .slice (some ⟨b9, 0, none⟩) 3 3, .slice (some ⟨b10, 0, none⟩) 2 2, .slice (some ⟨b11, 0, none⟩) 2 2, .slice (some ⟨b12, 0, none⟩) 3 3, .slice (some ⟨b13, 0, none⟩) 2 2, .slice (some ⟨b14, 0, none⟩) 2 2, .slice (some ⟨b15, 0, none⟩) 4 4, .slice (some ⟨b16, 0, none⟩) 2 2, .slice (some ⟨b17, 0, none⟩) 3 3, .slice (some ⟨b18, 0, none⟩) 2 2, .slice (some ⟨b19, 0, none⟩) 1 1, .slice (some ⟨b20, 0, none⟩) 3 3, .slice (some ⟨b21, 0, none⟩) 3 3, .slice (some ⟨b22, 0, none⟩) 1 1, .slice (some ⟨b23, 0, none⟩) 1 1, .slice (some ⟨b24, 0, none⟩) 2 2, .slice (some ⟨b25, 0, none⟩) 4 4] : Array Value)[c]? = some (.slice aa nn nn) ∧ FL y (.slice aa nn nn) (fldL c) := by
    rcases (show c = 0 ∨ c = 1 ∨ c = 2 ∨ c = 3 ∨ c = 4 ∨ c = 5 ∨ c = 6 ∨ c = 7 ∨ c = 8 ∨ c = 9 ∨ c = 10 ∨ c = 11 ∨ c = 12 ∨ c = 13 ∨ c = 14 ∨ c = 15 ∨ c = 16 ∨ c = 17 ∨ c = 18 ∨ c = 19 ∨ c = 20 ∨ c = 21 ∨ c = 22 ∨ c = 23 ∨ c = 24 ∨ c = 25 by omega) with rfl | rfl | rfl | rfl | rfl | rfl | rfl | rfl | rfl | rfl | rfl | rfl | rfl | rfl | rfl | rfl | rfl | rfl | rfl | rfl | rfl | rfl | rfl | rfl | rfl | rfl
    · exact ⟨none, 0, rfl, .inl ⟨rfl, rfl⟩⟩
    · exact ⟨some ⟨b1, 0, none⟩, 3, rfl, .inr ⟨b1, rfl, hf.rows (b1, [.iface 66 (.int .i64 0), .iface 66 (.int .i64 1), .iface 66 (.int .i64 4)]) (List.Mem.tail _ (List.Mem.tail _ (List.Mem.tail _ (List.Mem.tail _ (List.Mem.tail _ (List.Mem.tail _ (List.Mem.tail _ (List.Mem.tail _ (List.Mem.tail _ (List.Mem.tail _ (List.Mem.tail _ (List.Mem.tail _ (List.Mem.tail _ (List.Mem.tail _ (List.Mem.tail _ (List.Mem.tail _ (List.Mem.tail _ (List.Mem.tail _ (List.Mem.tail _ (List.Mem.tail _ (List.Mem.tail _ (List.Mem.tail _ (List.Mem.tail _ (List.Mem.tail _ (List.Mem.head _)))))))))))))))))))))))))⟩⟩
    · exact ⟨some ⟨b2, 0, none⟩, 1, rfl, .inr ⟨b2, rfl, hf.rows (b2, [.iface 68 (.agg #[.int .u64 16, .int .u64 16, .bool false])]) (List.Mem.tail _ (List.Mem.tail _ (List.Mem.tail _ (List.Mem.tail _ (List.Mem.tail _ (List.Mem.tail _ (List.Mem.tail _ (List.Mem.tail _ (List.Mem.tail _ (List.Mem.tail _ (List.Mem.tail _ (List.Mem.tail _ (List.Mem.tail _ (List.Mem.tail _ (List.Mem.tail _ (List.Mem.tail _ (List.Mem.tail _ (List.Mem.tail _ (List.Mem.tail _ (List.Mem.tail _ (List.Mem.tail _ (List.Mem.tail _ (List.Mem.tail _ (List.Mem.head _))))))))))))))))))))))))⟩⟩
    · exact ⟨some ⟨b3, 0, none⟩, 1, rfl, .inr ⟨b3, rfl, hf.rows (b3, [.iface 70 (.agg #[.bool false])]) (List.Mem.tail _ (List.Mem.tail _ (List.Mem.tail _ (List.Mem.tail _ (List.Mem.tail _ (List.Mem.tail _ (List.Mem.tail _ (List.Mem.tail _ (List.Mem.tail _ (List.Mem.tail _ (List.Mem.tail _ (List.Mem.tail _ (List.Mem.tail _ (List.Mem.tail _ (List.Mem.tail _ (List.Mem.tail _ (List.Mem.tail _ (List.Mem.tail _ (List.Mem.tail _ (List.Mem.tail _ (List.Mem.tail _ (List.Mem.tail _ (List.Mem.head _)))))))))))))))))))))))⟩⟩
    · exact ⟨some ⟨b4, 0, none⟩, 3, rfl, .inr ⟨b4, rfl, hf.rows (b4, [.iface 66 (.int .i64 2), .iface 66 (.int .i64 3), .iface 66 (.int .i64 4)]) (List.Mem.tail _ (List.Mem.tail _ (List.Mem.tail _ (List.Mem.tail _ (List.Mem.tail _ (List.Mem.tail _ (List.Mem.tail _ (List.Mem.tail _ (List.Mem.tail _ (List.Mem.tail _ (List.Mem.tail _ (List.Mem.tail _ (List.Mem.tail _ (List.Mem.tail _ (List.Mem.tail _ (List.Mem.tail _ (List.Mem.tail _ (List.Mem.tail _ (List.Mem.tail _ (List.Mem.tail _ (List.Mem.tail _ (List.Mem.head _))))))))))))))))))))))⟩⟩
    · exact ⟨some ⟨b5, 0, none⟩, 3, rfl, .inr ⟨b5, rfl, hf.rows (b5, [.iface 66 (.int .i64 5), .iface 66 (.int .i64 6), .iface 72 (.agg #[])]) (List.Mem.tail _ (List.Mem.tail _ (List.Mem.tail _ (List.Mem.tail _ (List.Mem.tail _ (List.Mem.tail _ (List.Mem.tail _ (List.Mem.tail _ (List.Mem.tail _ (List.Mem.tail _ (List.Mem.tail _ (List.Mem.tail _ (List.Mem.tail _ (List.Mem.tail _ (List.Mem.tail _ (List.Mem.tail _ (List.Mem.tail _ (List.Mem.tail _ (List.Mem.tail _ (List.Mem.tail _ (List.Mem.head _)))))))))))))))))))))⟩⟩
    · exact ⟨some ⟨b6, 0, none⟩, 1, rfl, .inr ⟨b6, rfl, hf.rows (b6, [.iface 66 (.int .i64 7)]) (List.Mem.tail _ (List.Mem.tail _ (List.Mem.tail _ (List.Mem.tail _ (List.Mem.tail _ (List.Mem.tail _ (List.Mem.tail _ (List.Mem.tail _ (List.Mem.tail _ (List.Mem.tail _ (List.Mem.tail _ (List.Mem.tail _ (List.Mem.tail _ (List.Mem.tail _ (List.Mem.tail _ (List.Mem.tail _ (List.Mem.tail _ (List.Mem.tail _ (List.Mem.tail _ (List.Mem.head _))))))))))))))))))))⟩⟩
    · exact ⟨some ⟨b7, 0, none⟩, 3, rfl, .inr ⟨b7, rfl, hf.rows (b7, [.iface 66 (.int .i64 8), .iface 66 (.int .i64 9), .iface 68 (.agg #[.int .u64 1, .int .u64 256, .bool false])]) (List.Mem.tail _ (List.Mem.tail _ (List.Mem.tail _ (List.Mem.tail _ (List.Mem.tail _ (List.Mem.tail _ (List.Mem.tail _ (List.Mem.tail _ (List.Mem.tail _ (List.Mem.tail _ (List.Mem.tail _ (List.Mem.tail _ (List.Mem.tail _ (List.Mem.tail _ (List.Mem.tail _ (List.Mem.tail _ (List.Mem.tail _ (List.Mem.tail _ (List.Mem.head _)))))))))))))))))))⟩⟩
    · exact ⟨some ⟨b8, 0, none⟩, 4, rfl, .inr ⟨b8, rfl, hf.rows (b8, [.iface 66 (.int .i64 10), .iface 66 (.int .i64 11), .iface 66 (.int .i64 12), .iface 68 (.agg #[.int .u64 1, .int .u64 1024, .bool false])]) (List.Mem.tail _ (List.Mem.tail _ (List.Mem.tail _ (List.Mem.tail _ (List.Mem.tail _ (List.Mem.tail _ (List.Mem.tail _ (List.Mem.tail _ (List.Mem.tail _ (List.Mem.tail _ (List.Mem.tail _ (List.Mem.tail _ (List.Mem.tail _ (List.Mem.tail _ (List.Mem.tail _ (List.Mem.tail _ (List.Mem.tail _ (List.Mem.head _))))))))))))))))))⟩⟩
    · exact ⟨some ⟨b9, 0, none⟩, 3, rfl, .inr ⟨b9, rfl, hf.rows (b9, [.iface 66 (.int .i64 10), .iface 66 (.int .i64 11), .iface 66 (.int .i64 12)]) (List.Mem.tail _ (List.Mem.tail _ (List.Mem.tail _ (List.Mem.tail _ (List.Mem.tail _ (List.Mem.tail _ (List.Mem.tail _ (List.Mem.tail _ (List.Mem.tail _ (List.Mem.tail _ (List.Mem.tail _ (List.Mem.tail _ (List.Mem.tail _ (List.Mem.tail _ (List.Mem.tail _ (List.Mem.tail _ (List.Mem.head _)))))))))))))))))⟩⟩
    · exact ⟨some ⟨b10, 0, none⟩, 2, rfl, .inr ⟨b10, rfl, hf.rows (b10, [.iface 66 (.int .i64 10), .iface 66 (.int .i64 11)]) (List.Mem.tail _ (List.Mem.tail _ (List.Mem.tail _ (List.Mem.tail _ (List.Mem.tail _ (List.Mem.tail _ (List.Mem.tail _ (List.Mem.tail _ (List.Mem.tail _ (List.Mem.tail _ (List.Mem.tail _ (List.Mem.tail _ (List.Mem.tail _ (List.Mem.tail _ (List.Mem.tail _ (List.Mem.head _))))))))))))))))⟩⟩
    · exact ⟨some ⟨b11, 0, none⟩, 2, rfl, .inr ⟨b11, rfl, hf.rows (b11, [.iface 66 (.int .i64 10), .iface 66 (.int .i64 11)]) (List.Mem.tail _ (List.Mem.tail _ (List.Mem.tail _ (List.Mem.tail _ (List.Mem.tail _ (List.Mem.tail _ (List.Mem.tail _ (List.Mem.tail _ (List.Mem.tail _ (List.Mem.tail _ (List.Mem.tail _ (List.Mem.tail _ (List.Mem.tail _ (List.Mem.tail _ (List.Mem.head _)))))))))))))))⟩⟩
    · exact ⟨some ⟨b12, 0, none⟩, 3, rfl, .inr ⟨b12, rfl, hf.rows (b12, [.iface 66 (.int .i64 10), .iface 66 (.int .i64 11), .iface 66 (.int .i64 14)]) (List.Mem.tail _ (List.Mem.tail _ (List.Mem.tail _ (List.Mem.tail _ (List.Mem.tail _ (List.Mem.tail _ (List.Mem.tail _ (List.Mem.tail _ (List.Mem.tail _ (List.Mem.tail _ (List.Mem.tail _ (List.Mem.tail _ (List.Mem.tail _ (List.Mem.head _))))))))))))))⟩⟩
    · exact ⟨some ⟨b13, 0, none⟩, 2, rfl, .inr ⟨b13, rfl, hf.rows (b13, [.iface 66 (.int .i64 12), .iface 66 (.int .i64 13)]) (List.Mem.tail _ (List.Mem.tail _ (List.Mem.tail _ (List.Mem.tail _ (List.Mem.tail _ (List.Mem.tail _ (List.Mem.tail _ (List.Mem.tail _ (List.Mem.tail _ (List.Mem.tail _ (List.Mem.tail _ (List.Mem.tail _ (List.Mem.head _)))))))))))))⟩⟩
    · exact ⟨some ⟨b14, 0, none⟩, 2, rfl, .inr ⟨b14, rfl, hf.rows (b14, [.iface 66 (.int .i64 12), .iface 66 (.int .i64 13)]) (List.Mem.tail _ (List.Mem.tail _ (List.Mem.tail _ (List.Mem.tail _ (List.Mem.tail _ (List.Mem.tail _ (List.Mem.tail _ (List.Mem.tail _ (List.Mem.tail _ (List.Mem.tail _ (List.Mem.tail _ (List.Mem.head _))))))))))))⟩⟩
    · exact ⟨some ⟨b15, 0, none⟩, 4, rfl, .inr ⟨b15, rfl, hf.rows (b15, [.iface 66 (.int .i64 10), .iface 66 (.int .i64 11), .iface 66 (.int .i64 16), .iface 70 (.agg #[.bool true])]) (List.Mem.tail _ (List.Mem.tail _ (List.Mem.tail _ (List.Mem.tail _ (List.Mem.tail _ (List.Mem.tail _ (List.Mem.tail _ (List.Mem.tail _ (List.Mem.tail _ (List.Mem.tail _ (List.Mem.head _)))))))))))⟩⟩
    · exact ⟨some ⟨b16, 0, none⟩, 2, rfl, .inr ⟨b16, rfl, hf.rows (b16, [.iface 66 (.int .i64 10), .iface 66 (.int .i64 11)]) (List.Mem.tail _ (List.Mem.tail _ (List.Mem.tail _ (List.Mem.tail _ (List.Mem.tail _ (List.Mem.tail _ (List.Mem.tail _ (List.Mem.tail _ (List.Mem.tail _ (List.Mem.head _))))))))))⟩⟩
    · exact ⟨some ⟨b17, 0, none⟩, 3, rfl, .inr ⟨b17, rfl, hf.rows (b17, [.iface 66 (.int .i64 10), .iface 66 (.int .i64 11), .iface 68 (.agg #[.int .u64 1, .int .u64 1024, .bool false])]) (List.Mem.tail _ (List.Mem.tail _ (List.Mem.tail _ (List.Mem.tail _ (List.Mem.tail _ (List.Mem.tail _ (List.Mem.tail _ (List.Mem.tail _ (List.Mem.head _)))))))))⟩⟩
    · exact ⟨some ⟨b18, 0, none⟩, 2, rfl, .inr ⟨b18, rfl, hf.rows (b18, [.iface 66 (.int .i64 10), .iface 66 (.int .i64 11)]) (List.Mem.tail _ (List.Mem.tail _ (List.Mem.tail _ (List.Mem.tail _ (List.Mem.tail _ (List.Mem.tail _ (List.Mem.tail _ (List.Mem.head _))))))))⟩⟩
    · exact ⟨some ⟨b19, 0, none⟩, 1, rfl, .inr ⟨b19, rfl, hf.rows (b19, [.iface 66 (.int .i64 17)]) (List.Mem.tail _ (List.Mem.tail _ (List.Mem.tail _ (List.Mem.tail _ (List.Mem.tail _ (List.Mem.tail _ (List.Mem.head _)))))))⟩⟩
    · exact ⟨some ⟨b20, 0, none⟩, 3, rfl, .inr ⟨b20, rfl, hf.rows (b20, [.iface 66 (.int .i64 10), .iface 66 (.int .i64 11), .iface 70 (.agg #[.bool false])]) (List.Mem.tail _ (List.Mem.tail _ (List.Mem.tail _ (List.Mem.tail _ (List.Mem.tail _ (List.Mem.head _))))))⟩⟩
    · exact ⟨some ⟨b21, 0, none⟩, 3, rfl, .inr ⟨b21, rfl, hf.rows (b21, [.iface 66 (.int .i64 10), .iface 66 (.int .i64 11), .iface 66 (.int .i64 16)]) (List.Mem.tail _ (List.Mem.tail _ (List.Mem.tail _ (List.Mem.tail _ (List.Mem.head _)))))⟩⟩
    · exact ⟨some ⟨b22, 0, none⟩, 1, rfl, .inr ⟨b22, rfl, hf.rows (b22, [.iface 66 (.int .i64 17)]) (List.Mem.tail _ (List.Mem.tail _ (List.Mem.tail _ (List.Mem.head _))))⟩⟩
    · exact ⟨some ⟨b23, 0, none⟩, 1, rfl, .inr ⟨b23, rfl, hf.rows (b23, [.iface 72 (.agg #[])]) (List.Mem.tail _ (List.Mem.tail _ (List.Mem.head _)))⟩⟩
    · exact ⟨some ⟨b24, 0, none⟩, 2, rfl, .inr ⟨b24, rfl, hf.rows (b24, [.iface 66 (.int .i64 10), .iface 66 (.int .i64 11)]) (List.Mem.tail _ (List.Mem.head _))⟩⟩
    · exact ⟨some ⟨b25, 0, none⟩, 4, rfl, .inr ⟨b25, rfl, hf.rows (b25, [.iface 66 (.int .i64 10), .iface 66 (.int .i64 11), .iface 66 (.int .i64 15), .iface 68 (.agg #[.int .u64 1, .int .u64 1024, .bool true])]) (List.Mem.head _)⟩⟩
  obtain ⟨aa, nn, hk, hfl⟩ := key
  have hcell : y.cell? ⟨tb, c, none⟩ = some (.slice aa nn nn) := by rw [cell_of_row _ _ _ _ _ _ hrow]; exact hk
  have HFL := hide hfl
  have HBE := hide hf.bel
  have hci : (c : Int) < 26 := by omega
  clear hrow hk hfl hf HF htb
  go_wp2
  go_ret
  exact ⟨_, rfl, HFL.out, HBE.out⟩
end Go.Proofs.YtcjilmafdpnfeaaDoor
