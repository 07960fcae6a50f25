import Derived.Test.YtcjilmafdpnfeaaDoorWSum
namespace Go.Proofs.YtcjilmafdpnfeaaDoor
open Go.RowKit
set_option linter.unusedVariables false
set_option linter.unusedSimpArgs false
set_option maxRecDepth 20000

theorem SpL.below {w x : World} {v : Value} {L : List (Nat × Nat)} (h : SpL w v L) (hb : Below w.heap.size w x) : SpL x v L := by
  obtain ⟨b, off, cap, rfl, h1, h2, h3, h4⟩ := h
  refine ⟨b, off, cap, rfl, h1, h2, h3, fun i hi => ?_⟩
  obtain ⟨c0, c1⟩ := h4 i hi
  have hl := World.block_lt_of_cell? w _ c0
  exact ⟨(World.cell?_of_block (hb.block b hl)).trans c0, (World.cell?_of_block (hb.block b hl)).trans c1⟩
theorem u8L_get {s : List Nat} {j : Nat} (h : j < s.length) : (u8L s)[j]? = some (.int .u8 ((s.getD j 0 : Nat) : Int)) := by
  unfold u8L
  rw [List.getElem?_map, List.getElem?_eq_getElem h, List.getD_eq_getElem?_getD, List.getElem?_eq_getElem h]
  rfl
theorem idx32 {s : List Nat} (h : s.length = 32) (j : Nat) (hj : j < 32) (w : World) : (Instr.index 28 (.agg (u8L s).toArray) (.int .i64 (j : Int))).run Tryd.prog w = .ok (.int .u8 ((s.getD j 0 : Nat) : Int)) w := by
  obtain ⟨i, hi, _, hz, _⟩ := info_parts Tryd.infoU8
  have hg := u8L_get (s := s) (j := j) (by omega)
  have hl : (u8L s).length = 32 := (u8L_len s).trans h
  generalize u8L s = SL at *
  have hjj : (j : Int) < 32 := by omega
  simp [Instr.index, run_underlying Tryd.underlying28, asIntOf, go_sem, sizeOf, typeInfo, hi, hz, hg, hjj]
  intro hh
  omega
/-- is each byte as it may be? -/
theorem all_take {s : List Nat} {f : Nat → Bool} {k : Nat} (h : k < s.length) : (s.take (k + 1)).all f = ((s.take k).all f && f (s.getD k 0)) := by
  rw [List.take_add_one, List.all_append, List.getElem?_eq_getElem h, List.getD_eq_getElem?_getD, List.getElem?_eq_getElem h]
  simp
theorem all_stop {s : List Nat} {f : Nat → Bool} {k : Nat} (h : k < s.length) (hf : f (s.getD k 0) = false) : s.all f = false := by
  rw [List.all_eq_false]
  refine ⟨s.getD k 0, ?_, by simpa using hf⟩
  rw [List.getD_eq_getElem?_getD, List.getElem?_eq_getElem h]
  exact List.getElem_mem h

end Go.Proofs.YtcjilmafdpnfeaaDoor
