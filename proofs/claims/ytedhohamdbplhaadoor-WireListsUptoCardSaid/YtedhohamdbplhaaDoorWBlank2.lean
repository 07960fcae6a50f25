import Derived.Test.YtedhohamdbplhaaDoorWBlank
namespace Go.Proofs.YtedhohamdbplhaaDoor
open Go.RowKit
set_option linter.unusedVariables false
set_option linter.unusedSimpArgs false
set_option maxRecDepth 20000

set_option maxHeartbeats 1000000 in
theorem dblank_any (w : World) (lo hi : Int) (tied : Bool) (pb : Nat) (da : Option Addr) (dn dc : Nat) (hd : w.cell? ⟨pb, 41, none⟩ = some (.slice da dn dc)) (hf : w.frozen? ⟨pb, 41, none⟩ = false) :
    Calls Tryd.prog 99 #[.agg #[.int .u64 lo, .int .u64 hi, .bool tied], .pointer (some ⟨pb, 0, none⟩)] w fun e' w' => e' = .returned (.tuple #[]) ∧ w' = (w.alloc (.cells #[.int .u64 lo, .int .u64 hi, .bool tied] 94)).setCell ⟨pb, 41, none⟩ (.slice none 0 0) := by
  have hb := (Below.refl w.heap.size w).alloc (Nat.le_refl _) (.cells #[.int .u64 lo, .int .u64 hi, .bool tied] 94)
  have hl := World.block_lt_of_cell? w _ hd
  have hd2 := (hb.cell (p := ⟨pb, 41, none⟩) hl).trans hd
  have hf2 := (hb.frozen (p := ⟨pb, 41, none⟩) hl).trans hf
  clear hd hf hb hl
  go_enter Tryd.func99, Tryd.ntmps99
  go_wp2
  go_end0
  exact ⟨rfl, rfl⟩
set_option maxHeartbeats 1000000 in
theorem iblank_any (w : World) (pb g0 g1 g2 g3 : Nat) (h0 : w.cell? ⟨pb, 5, none⟩ = some (.int .u64 (g0 : Int))) (h1 : w.cell? ⟨pb, 6, none⟩ = some (.int .u64 (g1 : Int))) (h2 : w.cell? ⟨pb, 7, none⟩ = some (.int .u64 (g2 : Int))) (h3 : w.cell? ⟨pb, 8, none⟩ = some (.int .u64 (g3 : Int))) (hf : ∀ i, w.frozen? ⟨pb, i, none⟩ = false) :
    Calls Tryd.prog 103 #[.agg #[], .pointer (some ⟨pb, 0, none⟩)] w fun e' w' => e' = .returned (.tuple #[]) ∧ w' = ((((w.alloc (.cells #[] 98)).setCell ⟨pb, 5, none⟩ (.int .u64 0)).setCell ⟨pb, 6, none⟩ (.int .u64 0)).setCell ⟨pb, 7, none⟩ (.int .u64 0)).setCell ⟨pb, 8, none⟩ (.int .u64 0) := by
  have hb := (Below.refl w.heap.size w).alloc (Nat.le_refl _) (.cells #[] 98)
  have hl : pb < w.heap.size := World.block_lt_of_cell? w _ h0
  have c5 := (hb.cell (p := ⟨pb, 5, none⟩) hl).trans h0
  have f5 := (hb.frozen (p := ⟨pb, 5, none⟩) hl).trans (hf 5)
  have c6 := (hb.cell (p := ⟨pb, 6, none⟩) hl).trans h1
  have f6 := (hb.frozen (p := ⟨pb, 6, none⟩) hl).trans (hf 6)
  have c7 := (hb.cell (p := ⟨pb, 7, none⟩) hl).trans h2
  have f7 := (hb.frozen (p := ⟨pb, 7, none⟩) hl).trans (hf 7)
  have c8 := (hb.cell (p := ⟨pb, 8, none⟩) hl).trans h3
  have f8 := (hb.frozen (p := ⟨pb, 8, none⟩) hl).trans (hf 8)
  clear h0 h1 h2 h3 hf hb hl
  go_enter Tryd.func103, Tryd.ntmps103
  go_wp2
  go_end0
  exact ⟨rfl, rfl⟩
end Go.Proofs.YtedhohamdbplhaaDoor
