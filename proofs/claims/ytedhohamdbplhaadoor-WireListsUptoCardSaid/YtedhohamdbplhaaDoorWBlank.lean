import Derived.Test.YtedhohamdbplhaaDoorWFits2
import Derived.StillTailTactics
namespace Go.Proofs.YtedhohamdbplhaaDoor
open Go.RowKit
set_option linter.unusedVariables false
set_option linter.unusedSimpArgs false
set_option maxRecDepth 20000

set_option maxHeartbeats 1000000 in
theorem nblank_any (w : World) (n pb a b c d e : Nat) (hT : BTab w) (hP : P5 w pb a b c d e) (hn : n < 18) (hfz : ∀ i, w.frozen? ⟨pb, i, none⟩ = false) :
    Calls Tryd.prog 97 #[.int .i64 (n : Int), .pointer (some ⟨pb, 0, none⟩)] w fun e' w' => e' = .returned (.tuple #[]) ∧ ∃ k, w' = (w.drewN k).setCell ⟨pb, (bnd n).1, none⟩ (.int .u32 0) := by
  obtain ⟨t0, _, _⟩ := hT n hn
  obtain ⟨hpl, _, _⟩ := bnd_lt n hn
  have hc := hP.at hpl
  have hf := hfz (bnd n).1
  generalize five a b c d e (bnd n).1 = x at *
  generalize (bnd n).1 = pl at *
  have i1 : (n : Int) < 18 := by omega
  have i2 : (pl : Int) < 5 := by omega
  rename_i dead1 dead2 dead3 dead4
  clear dead1 dead2 dead3 dead4 hT hP hfz
  go_enter Tryd.func97, Tryd.ntmps97
  go_wp2_with fail
  refine wp_region_still_tail 8 (by kernel_rfl) (by kernel_rfl) ?_
  simp only [List.take_succ_cons, List.take_zero, List.drop_succ_cons, List.drop_zero]
  repeat still_step
  refine wpStill_nil ?_
  go_wp2_with fail
  go_end0
  exact ⟨rfl, 1, rfl⟩
end Go.Proofs.YtedhohamdbplhaaDoor
