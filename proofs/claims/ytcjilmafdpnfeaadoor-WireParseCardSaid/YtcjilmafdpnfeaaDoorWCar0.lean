import Derived.Test.YtcjilmafdpnfeaaDoorWBase
import Derived.Great.BuildSlice
namespace Go.Proofs.YtcjilmafdpnfeaaDoor
open Go.RowKit
set_option linter.unusedVariables false
set_option linter.unusedSimpArgs false
set_option maxRecDepth 20000

/-- lists of fields that were made -/
structure FS (w x : World) (L : List (Nat × List Value)) : Prop where
  rows : ∀ q ∈ L, x.heap[q.1]? = some (.cells q.2.toArray 53 (0, 0))
  bel : Below w.heap.size w x
theorem FS.add {w x : World} {L : List (Nat × List Value)} (h : FS w x L) (vs : List Value) : FS w (x.alloc (.cells vs.toArray 53)) ((x.heap.size, vs) :: L) := by
  refine ⟨fun q hq => ?_, h.bel.alloc h.bel.size _⟩
  rcases List.mem_cons.1 hq with rfl | hq
  · exact Go.heap_alloc_new x _
  · have := h.rows q hq
    rw [RowKit.Below.heap_alloc _ _ _ (Array.getElem?_eq_some_iff.1 this).1]
    exact this
theorem infoF : (Tryd.prog.info? 53).map (fun i => (i.zero, i.size)) = some (some .nilIface, 1) := by kernel_rfl
theorem infoF' : ∃ ie, Tryd.prog.info? 53 = some ie ∧ ie.zero = some .nilIface ∧ ie.size = 1 := by
  obtain ⟨ie, h, e⟩ := Option.map_eq_some_iff.1 infoF
  simp only [Prod.mk.injEq] at e
  exact ⟨ie, h, e.1, e.2⟩
theorem wpList_f1 {ops : Array Oper} {rest : List Oper} {o : Oper} {a : Act} {w x : World} {Q : Exit → Act → World → Prop} {L : List (Nat × List Value)} (hgd : o.guard = none) (x0 : Operand) (ho : o.op = .buildSlice 50 1 #[(0, x0)])
    (t0 : TypeId) (u0 : Value) (h0 : a.eval x0 = .iface t0 u0) (hf : FS w x L) (h : ∀ x' b, FS w x' ((b, [.iface t0 u0]) :: L) → wpList Tryd.prog ops Q rest (a.put o.dst (.slice (some ⟨b, 0, none⟩) 1 1)) x') : wpList Tryd.prog ops Q (o :: rest) a x := by
  obtain ⟨ie, hie, hz, hs⟩ := infoF'
  refine wpList_buildSlice hgd 50 53 1 _ ho #[.iface t0 u0] ie .nilIface Tryd.underlying50 hie hz (by rw [hs]; decide) (by rw [hs]; decide) ?_ (h _ _ (hf.add _))
  rw [hs]
  simp only [List.map_toArray, List.map_cons, List.map_nil, h0]
  kernel_rfl
theorem wpList_f2 {ops : Array Oper} {rest : List Oper} {o : Oper} {a : Act} {w x : World} {Q : Exit → Act → World → Prop} {L : List (Nat × List Value)} (hgd : o.guard = none) (x0 x1 : Operand) (ho : o.op = .buildSlice 50 2 #[(0, x0), (1, x1)])
    (t0 t1 : TypeId) (u0 u1 : Value) (h0 : a.eval x0 = .iface t0 u0) (h1 : a.eval x1 = .iface t1 u1) (hf : FS w x L) (h : ∀ x' b, FS w x' ((b, [.iface t0 u0, .iface t1 u1]) :: L) → wpList Tryd.prog ops Q rest (a.put o.dst (.slice (some ⟨b, 0, none⟩) 2 2)) x') : wpList Tryd.prog ops Q (o :: rest) a x := by
  obtain ⟨ie, hie, hz, hs⟩ := infoF'
  refine wpList_buildSlice hgd 50 53 2 _ ho #[.iface t0 u0, .iface t1 u1] ie .nilIface Tryd.underlying50 hie hz (by rw [hs]; decide) (by rw [hs]; decide) ?_ (h _ _ (hf.add _))
  rw [hs]
  simp only [List.map_toArray, List.map_cons, List.map_nil, h0, h1]
  kernel_rfl
theorem wpList_f3 {ops : Array Oper} {rest : List Oper} {o : Oper} {a : Act} {w x : World} {Q : Exit → Act → World → Prop} {L : List (Nat × List Value)} (hgd : o.guard = none) (x0 x1 x2 : Operand) (ho : o.op = .buildSlice 50 3 #[(0, x0), (1, x1), (2, x2)])
    (t0 t1 t2 : TypeId) (u0 u1 u2 : Value) (h0 : a.eval x0 = .iface t0 u0) (h1 : a.eval x1 = .iface t1 u1) (h2 : a.eval x2 = .iface t2 u2) (hf : FS w x L) (h : ∀ x' b, FS w x' ((b, [.iface t0 u0, .iface t1 u1, .iface t2 u2]) :: L) → wpList Tryd.prog ops Q rest (a.put o.dst (.slice (some ⟨b, 0, none⟩) 3 3)) x') : wpList Tryd.prog ops Q (o :: rest) a x := by
  obtain ⟨ie, hie, hz, hs⟩ := infoF'
  refine wpList_buildSlice hgd 50 53 3 _ ho #[.iface t0 u0, .iface t1 u1, .iface t2 u2] ie .nilIface Tryd.underlying50 hie hz (by rw [hs]; decide) (by rw [hs]; decide) ?_ (h _ _ (hf.add _))
  rw [hs]
  simp only [List.map_toArray, List.map_cons, List.map_nil, h0, h1, h2]
  kernel_rfl
theorem wpList_f4 {ops : Array Oper} {rest : List Oper} {o : Oper} {a : Act} {w x : World} {Q : Exit → Act → World → Prop} {L : List (Nat × List Value)} (hgd : o.guard = none) (x0 x1 x2 x3 : Operand) (ho : o.op = .buildSlice 50 4 #[(0, x0), (1, x1), (2, x2), (3, x3)])
    (t0 t1 t2 t3 : TypeId) (u0 u1 u2 u3 : Value) (h0 : a.eval x0 = .iface t0 u0) (h1 : a.eval x1 = .iface t1 u1) (h2 : a.eval x2 = .iface t2 u2) (h3 : a.eval x3 = .iface t3 u3) (hf : FS w x L) (h : ∀ x' b, FS w x' ((b, [.iface t0 u0, .iface t1 u1, .iface t2 u2, .iface t3 u3]) :: L) → wpList Tryd.prog ops Q rest (a.put o.dst (.slice (some ⟨b, 0, none⟩) 4 4)) x') : wpList Tryd.prog ops Q (o :: rest) a x := by
  obtain ⟨ie, hie, hz, hs⟩ := infoF'
  refine wpList_buildSlice hgd 50 53 4 _ ho #[.iface t0 u0, .iface t1 u1, .iface t2 u2, .iface t3 u3] ie .nilIface Tryd.underlying50 hie hz (by rw [hs]; decide) (by rw [hs]; decide) ?_ (h _ _ (hf.add _))
  rw [hs]
  simp only [List.map_toArray, List.map_cons, List.map_nil, h0, h1, h2, h3]
  kernel_rfl

end Go.Proofs.YtcjilmafdpnfeaaDoor
