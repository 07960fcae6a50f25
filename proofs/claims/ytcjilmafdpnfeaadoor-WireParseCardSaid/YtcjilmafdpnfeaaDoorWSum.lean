import Derived.Test.YtcjilmafdpnfeaaDoorWEmp
namespace Go.Proofs.YtcjilmafdpnfeaaDoor
open Go.RowKit
set_option linter.unusedVariables false
set_option linter.unusedSimpArgs false
set_option maxRecDepth 20000

/-- a whole array into the middle of a row -/
theorem wpList_store_at {P : Program} {ops : Array Oper} {rest : List Oper} {o : Oper} {a : Act} {w : World} {Q : Exit → Act → World → Prop} (hgd : o.guard = none) (ty : TypeId) (x y : Operand) (ho : o.op = .store ty x y)
    (g of : Nat) (cells : List Value) (hx : a.eval x = .pointer (some ⟨g, of, none⟩)) (hy : a.eval y = .agg cells.toArray)
    (t : TypeId) (cur : Array Value) (hg : w.heap[g]? = some (.cells cur t (0, 0))) (hi : (P.info? ty).map (·.size) = some cells.length) (hfit : of + cells.length ≤ cur.size) (h1 : ∀ v ∈ cells, v.oneCell' = true)
    (h : wpList P ops Q rest (a.put o.dst undef) (w.setRow g (cur.toList.take of ++ cells ++ cur.toList.drop (of + cells.length)).toArray)) : wpList P ops Q (o :: rest) a w := by
  refine wpList_plain hgd fun K hK => ?_
  have hst := run_storeCells_at P g of t cells 0 cur w hg (by simpa using hfit) h1
  simp only [Nat.add_zero] at hst
  cases hq : P.info? ty with
  | none => simp [hq] at hi
  | some i =>
    have hs : cells.length = i.size := by simp [hq] at hi; omega
    have hsv : (storeVar ty ⟨g, of, none⟩ (.agg cells.toArray)).run P w = .ok () (w.setRow g (cur.toList.take of ++ cells ++ cur.toList.drop (of + cells.length)).toArray) := by
      simp [storeVar, sizeOf, typeInfo, hq, Value.cells, hs, hst]
    unfold Oper.wp execOp
    simp only [ho, hx, hy, Instr.storeAt, Instr.sureAddr, Sem.run_bind, Sem.run_pure, Result.andThen_ok, hsv]
    exact hK _ _ h
theorem row_setS (p : PV) (h : p.s.length = 32) (v : Value) (l : List Nat) (hl : l.length = 32) : ((p.row v).toArray.toList.take 9 ++ u8L l ++ (p.row v).toArray.toList.drop (9 + (u8L l).length)) = PV.row { p with s := l } v := by
  rw [row_eq, row_eq, u8L_len, hl]
  have h1 : (u8L p.s).length = 32 := (u8L_len _).trans h
  simp only [List.append_assoc]
  rw [List.take_append_of_le_length (by simp), List.drop_append, List.drop_append]
  simp [h1]
/-- a digest -/
theorem PM.setS {w : World} {pb : Nat} {p : PV} {v : Value} (h : PM w pb p v) (l : List Nat) (hl : l.length = 32) (hb : ∀ x ∈ l, x < 256) : PM (w.setRow pb ((p.row v).toArray.toList.take 9 ++ u8L l ++ (p.row v).toArray.toList.drop (9 + (u8L l).length)).toArray) pb { p with s := l } v := by
  rw [row_setS p h.ok.n v l hl]
  obtain ⟨h1, h2, h3, h4, h5, h6, h7, h8, h9, h10, h11⟩ := h.ok
  refine ⟨setRow_heap w pb _ _ 49 _ h.row, ⟨h1, h2, h3, h4, h5, h6, h7, h8, h9, hl, hb⟩, h.dat.stay fun g hg => ?_, h.ne⟩
  exact setRow_other _ _ _ _ (by intro e; exact h.ne (by rw [hg, e]))

end Go.Proofs.YtcjilmafdpnfeaaDoor
