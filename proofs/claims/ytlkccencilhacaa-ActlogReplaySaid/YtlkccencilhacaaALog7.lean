import Derived.Test.YtlkccencilhacaaALog6
namespace Go.Proofs.Ytlkccencilhacaa
open Go.RowKit Go.Sort
set_option linter.unusedVariables false
set_option linter.unusedSimpArgs false
set_option maxRecDepth 20000

abbrev zrec : Array Value := #[.int .u32 0, .int .i64 0, .int .i64 0, .int .i64 0, .int .i64 0, .int .i64 0, .int .i64 0, .int .i64 0, .int .i64 0, .int .i64 0, .int .i64 0]
/-- the walk of record: the change's block and the result's -/
structure RcR (w wr : World) (lp p bm : Nat) (kv rv iv : Value) (S : LS) (ext size first written : Nat) (c0 c1 c2 : Int) : Prop where
  lg : LgR wr lp p bm kv rv iv S ext size first written
  ch : wr.heap[w.heap.size]? = some (.cells #[.int .i64 c0, .int .i64 c1, .int .i64 c2] 48 (0, 0))
  re : wr.heap[w.heap.size + 1]? = some (.cells zrec 90 (0, 0))
  be : Below w.heap.size w wr
theorem RcR.below {w wr y : World} {lp p bm : Nat} {kv rv iv : Value} {S : LS} {ext size first written : Nat} {c0 c1 c2 : Int} (h : RcR w wr lp p bm kv rv iv S ext size first written c0 c1 c2) (hb : Below wr.heap.size wr y) : RcR w y lp p bm kv rv iv S ext size first written c0 c1 c2 :=
  ⟨h.lg.below hb, (hb.block _ (Array.getElem?_eq_some_iff.1 h.ch).1).trans h.ch, (hb.block _ (Array.getElem?_eq_some_iff.1 h.re).1).trans h.re, h.be.trans (hb.mono h.be.size)⟩
end Go.Proofs.Ytlkccencilhacaa
