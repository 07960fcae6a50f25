import Derived.Test.YtcjilmafdpnfeaaDoorWRdr
namespace Go.Proofs.YtcjilmafdpnfeaaDoor
open Go.RowKit
set_option linter.unusedVariables false
set_option linter.unusedSimpArgs false
set_option maxRecDepth 20000

/-- a number read, k bytes still to come: the value, the place, whether it is stuck -/
def rdN (l : List Nat) (L : List (Nat × Nat)) : Nat → Nat → Nat → Nat × Nat × Bool
  | 0, v, at' => (v, at', false)
  | k + 1, v, at' => if l.length ≤ at' then (0, at', true)
    else if meets L ((v * 256 + l.getD at' 0) * 256 ^ k) ((v * 256 + l.getD at' 0) * 256 ^ k + (256 ^ k - 1)) then rdN l L k (v * 256 + l.getD at' 0) (at' + 1) else (0, at', true)

/-- a reader in memory -/
structure Rd (w : World) (rb : Nat) (b off cap : Nat) (l : List Nat) (at' : Nat) (stuck : Bool) : Prop where
  row : w.heap[rb]? = some (.cells #[.slice (some ⟨b, off, none⟩) l.length cap, .int .i64 (at' : Int), .bool stuck] 41 (0, 0))
  h1 : l.length ≤ cap
  h2 : cap ≤ maxLen
  hb : ∀ x ∈ l, x < 256
  dat : ∀ i, i < l.length → w.cell? ⟨b, off + i, none⟩ = some (.int .u8 (l.getD i 0 : Nat))
  ne : b ≠ rb

/-- only block rb and new blocks have turned -/
structure Oth (rb : Nat) (w x : World) : Prop where
  os : x.os = w.os
  tape : x.tape = w.tape
  output : x.output = w.output
  size : w.heap.size ≤ x.heap.size
  block : ∀ j, j < w.heap.size → j ≠ rb → x.heap[j]? = w.heap[j]?
theorem Oth.refl (rb : Nat) (w : World) : Oth rb w w := ⟨rfl, rfl, rfl, Nat.le_refl _, fun _ _ _ => rfl⟩
theorem Oth.below {rb : Nat} {w x y : World} (h : Oth rb w x) (hb : Below x.heap.size x y) : Oth rb w y := ⟨hb.os.trans h.os, hb.tape.trans h.tape, hb.output.trans h.output, Nat.le_trans h.size hb.size, fun j h1 h2 => (hb.block j (Nat.lt_of_lt_of_le h1 h.size)).trans (h.block j h1 h2)⟩
theorem Oth.drewN {rb : Nat} {w x : World} (h : Oth rb w x) (n : Nat) : Oth rb w (x.drewN n) := ⟨h.os, h.tape, h.output, h.size, h.block⟩
theorem Oth.set {rb : Nat} {w x : World} (h : Oth rb w x) (i : Nat) (v : Value) : Oth rb w (x.setCell ⟨rb, i, none⟩ v) := ⟨h.os, h.tape, h.output, by rw [World.size_setCell]; exact h.size, fun j h1 h2 => (Go.heap_setCell_other _ _ _ _ (by exact h2)).trans (h.block j h1 h2)⟩
theorem SpL.oth {rb : Nat} {w x : World} {v : Value} {L : List (Nat × Nat)} (h : SpL w v L) (ho : Oth rb w x) (hne : v.ownBlock ≠ some rb) : SpL x v L := by
  obtain ⟨b, off, cap, rfl, h1, h2, h3, h4⟩ := h
  have hne' : b ≠ rb := fun e => hne (by simp [Value.ownBlock, e])
  refine ⟨b, off, cap, rfl, h1, h2, h3, fun i hi => ?_⟩
  obtain ⟨c0, c1⟩ := h4 i hi
  have hl := World.block_lt_of_cell? w _ c0
  exact ⟨(World.cell?_of_block (ho.block b hl hne')).trans c0, (World.cell?_of_block (ho.block b hl hne')).trans c1⟩
theorem Rd.same {w x : World} {rb b off cap at' : Nat} {l : List Nat} {stuck : Bool} (h : Rd w rb b off cap l at' stuck) (hr : x.heap[rb]? = w.heap[rb]?) (hb : x.heap[b]? = w.heap[b]?) : Rd x rb b off cap l at' stuck :=
  ⟨hr.trans h.row, h.h1, h.h2, h.hb, fun i hi => (World.cell?_of_block hb).trans (h.dat i hi), h.ne⟩
theorem Rd.below {w x : World} {rb b off cap at' : Nat} {l : List Nat} {stuck : Bool} (h : Rd w rb b off cap l at' stuck) (hb : Below w.heap.size w x) : Rd x rb b off cap l at' stuck := by
  have hr := (Array.getElem?_eq_some_iff.1 h.row).1
  refine ⟨(hb.block rb hr).trans h.row, h.h1, h.h2, h.hb, fun i hi => ?_, h.ne⟩
  have hc := h.dat i hi
  exact (hb.cell (p := ⟨b, off + i, none⟩) (World.block_lt_of_cell? w _ hc)).trans hc
theorem Rd.stop {w : World} {rb b off cap at' : Nat} {l : List Nat} {stuck : Bool} (h : Rd w rb b off cap l at' stuck) : Rd (w.setCell ⟨rb, 2, none⟩ (.bool true)) rb b off cap l at' true :=
  ⟨by rw [Go.heap_setCell_same w rb 2 _ 41 _ h.row]; rfl, h.h1, h.h2, h.hb, fun i hi => (World.cell?_of_block (Go.heap_setCell_other _ _ _ _ (by exact h.ne))).trans (h.dat i hi), h.ne⟩
theorem Rd.go {w : World} {rb b off cap at' : Nat} {l : List Nat} {stuck : Bool} (h : Rd w rb b off cap l at' stuck) (q : Nat) : Rd (w.setCell ⟨rb, 1, none⟩ (.int .i64 (q : Int))) rb b off cap l q stuck :=
  ⟨by rw [Go.heap_setCell_same w rb 1 _ 41 _ h.row]; rfl, h.h1, h.h2, h.hb, fun i hi => (World.cell?_of_block (Go.heap_setCell_other _ _ _ _ (by exact h.ne))).trans (h.dat i hi), h.ne⟩
theorem Rd.cells {w : World} {rb b off cap at' : Nat} {l : List Nat} {stuck : Bool} (h : Rd w rb b off cap l at' stuck) : w.cell? ⟨rb, 0, none⟩ = some (.slice (some ⟨b, off, none⟩) l.length cap) ∧ w.cell? ⟨rb, 1, none⟩ = some (.int .i64 (at' : Int)) ∧ w.cell? ⟨rb, 2, none⟩ = some (.bool stuck) ∧ w.frozen? ⟨rb, 1, none⟩ = false ∧ w.frozen? ⟨rb, 2, none⟩ = false :=
  ⟨by rw [cell_of_row _ _ _ _ _ _ h.row]; rfl, by rw [cell_of_row _ _ _ _ _ _ h.row]; rfl, by rw [cell_of_row _ _ _ _ _ _ h.row]; rfl, frozen_of_row _ _ _ _ _ h.row, frozen_of_row _ _ _ _ _ h.row⟩

end Go.Proofs.YtcjilmafdpnfeaaDoor
