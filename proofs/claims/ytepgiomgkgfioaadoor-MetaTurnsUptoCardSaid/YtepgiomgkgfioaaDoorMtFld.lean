import Derived.Test.YtepgiomgkgfioaaDoorMtRead
namespace Go.Proofs.YtepgiomgkgfioaaDoor
open Go.RowKit Go.Lib
set_option linter.unusedVariables false
set_option linter.unusedSimpArgs false
set_option maxRecDepth 20000

theorem But.new {g : Nat} {w a w' : World} (h : But g w a) (hb : Below w.heap.size a w') : But g w w' := ⟨hb.os.trans h.os, hb.tape.trans h.tape, hb.output.trans h.output, Nat.le_trans h.size hb.size, fun k hk hg => (hb.block k hk).trans (h.block k hk hg)⟩
theorem Cur.lt' {w : World} {rb b off cap : Nat} {l : List Nat} (h : Cur w rb b off cap l) (hl : 0 < l.length) : b < w.heap.size := World.block_lt_of_cell? w _ (h.dat 0 hl)
theorem Cur.new {w w' : World} {rb b off cap B : Nat} {l : List Nat} (h : Cur w rb b off cap l) (hb : Below B w w') (h1 : rb < B) (h2 : b < B) : Cur w' rb b off cap l :=
  Cur.mk' ((hb.block _ h1).trans h.row) h.le.1 h.le.2 h.bytes (fun i hi => by rw [hb.cell (p := ⟨b, off + i, none⟩) h2]; exact h.dat i hi) h.ne
def GensPost (w : World) (rb b off cap : Nat) (l : List Nat) (e : Ending) (w' : World) : Prop := e = .returned (.agg #[.int .u64 (bval (l.take 8) : Nat), .int .u64 (bval ((l.drop 8).take 8) : Nat), .int .u64 (bval ((l.drop 16).take 8) : Nat), .int .u64 (bval ((l.drop 24).take 8) : Nat)]) ∧ Cur w' rb b (off + 32) (cap - 32) (l.drop 32) ∧ But rb w w'
set_option maxHeartbeats 1000000 in
theorem gens_any (w : World) (rb b off cap : Nat) (l : List Nat) (h : Cur w rb b off cap l) (hl : 32 < l.length) : Calls Tryd.prog 54 #[.pointer (some ⟨rb, 0, none⟩)] w fun e w' => GensPost w rb b off cap l e w' := by
  have HC := hide (h.below (below_alloc w (.cells #[.int .u64 0, .int .u64 0, .int .u64 0, .int .u64 0] 24)).drew)
  have HB := hide (But.refl rb (w.alloc (.cells #[.int .u64 0, .int .u64 0, .int .u64 0, .int .u64 0] 24)).drew)
  have HB0 := hide (But.of (g := rb) (below_alloc w (.cells #[.int .u64 0, .int .u64 0, .int .u64 0, .int .u64 0] 24)).drew)
  have hrb := h.lt
  have hbb := h.lt' (by omega)
  clear h
  go_enter Tryd.func54, Tryd.ntmps54
  go_wp2_with fail
  go_region_with ((go_at_call 52; refine (long_any _ rb b _ _ _ HC.out (by (try simp only [List.length_drop]); omega)).mono ?_; rintro e w2 ⟨rfl, hc, hb⟩; clear HC; have HC := hide hc; have HB := hide (HB.out.trans hb); clear hc hb; have HRW := hide ((HB.out.block w.heap.size (by show w.heap.size < (w.alloc _).heap.size; simp) (by omega)).trans (Go.heap_alloc_new _ _)); have c0 : w2.cell? ⟨w.heap.size, 0, none⟩ = some (.int .u64 0) := cell_of_row _ _ _ _ _ _ HRW.out; have c1 : w2.cell? ⟨w.heap.size, 1, none⟩ = some (.int .u64 0) := cell_of_row _ _ _ _ _ _ HRW.out; have c2 : w2.cell? ⟨w.heap.size, 2, none⟩ = some (.int .u64 0) := cell_of_row _ _ _ _ _ _ HRW.out; have c3 : w2.cell? ⟨w.heap.size, 3, none⟩ = some (.int .u64 0) := cell_of_row _ _ _ _ _ _ HRW.out; have z0 := frozen_of_row _ _ 0 _ 24 HRW.out; have z1 := frozen_of_row _ _ 1 _ 24 HRW.out; have z2 := frozen_of_row _ _ 2 _ 24 HRW.out; have z3 := frozen_of_row _ _ 3 _ 24 HRW.out))
  go_wp2_with fail
  have HR4 := hide (heap_setCell_same _ w.heap.size 3 _ 24 (.int .u64 (bval ((l.drop 24).take 8) : Nat)) (heap_setCell_same _ w.heap.size 2 _ 24 (.int .u64 (bval ((l.drop 16).take 8) : Nat)) (heap_setCell_same _ w.heap.size 1 _ 24 (.int .u64 (bval ((l.drop 8).take 8) : Nat)) (heap_setCell_same _ w.heap.size 0 _ 24 (.int .u64 (bval (l.take 8) : Nat)) HRW.out))))
  have HBn := hide (((((Below.refl w.heap.size w2).setCell (p := ⟨w.heap.size, 0, none⟩) (Nat.le_refl _) (.int .u64 (bval (l.take 8) : Nat))).setCell (p := ⟨w.heap.size, 1, none⟩) (Nat.le_refl _) (.int .u64 (bval ((l.drop 8).take 8) : Nat))).setCell (p := ⟨w.heap.size, 2, none⟩) (Nat.le_refl _) (.int .u64 (bval ((l.drop 16).take 8) : Nat))).setCell (p := ⟨w.heap.size, 3, none⟩) (Nat.le_refl _) (.int .u64 (bval ((l.drop 24).take 8) : Nat)))
  exact bodyPost_ret (results_cell_row rfl _ _ w.heap.size 24 _ (0, 0) _ rfl HR4.out Tryd.underlying24 rfl (by kernel_rfl)) rfl ⟨rfl, (by have hx := HC.out.new HBn.out hrb hbb; simp only [List.drop_drop, Nat.add_assoc, Nat.sub_sub, Nat.reduceAdd] at hx; exact hx), (HB0.out.trans HB.out).new HBn.out⟩
end Go.Proofs.YtepgiomgkgfioaaDoor
