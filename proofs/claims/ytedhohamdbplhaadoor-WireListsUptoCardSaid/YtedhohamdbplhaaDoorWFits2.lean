import Derived.Test.YtedhohamdbplhaaDoorWFits
namespace Go.Proofs.YtedhohamdbplhaaDoor
open Go.RowKit
set_option linter.unusedVariables false
set_option linter.unusedSimpArgs false
set_option maxRecDepth 20000

set_option maxHeartbeats 1000000 in
theorem ifits_any (w : World) (p : Value) : Calls Tryd.prog 104 #[.agg #[], p] w fun e' w' => e' = .returned (.bool true) ∧ Below w.heap.size w w' := by
  go_enter Tryd.func104, Tryd.ntmps104
  go_wp2
  go_ret
  exact ⟨rfl, by first | exact Below.refl _ _ | exact (Below.refl _ _).alloc (Nat.le_refl _) _⟩

set_option maxHeartbeats 1000000 in
theorem dfits_any (w : World) (lo hi : Nat) (tied : Bool) (pb a b c d e : Nat) (da : Option Addr) (dn dc : Nat) (hP : P5 w pb a b c d e) (hd : w.cell? ⟨pb, 41, none⟩ = some (.slice da dn dc)) (hlo : lo < 18446744073709551616) (hhi : hi < 18446744073709551616) (hdn : dn ≤ dc) (hdc : dc ≤ maxLen) :
    Calls Tryd.prog 100 #[.agg #[.int .u64 (lo : Int), .int .u64 (hi : Int), .bool tied], .pointer (some ⟨pb, 0, none⟩)] w fun e' w' => e' = .returned (.bool (meets (dmayL lo hi tied e) dn dn)) ∧ Below w.heap.size w w' := by
  unfold maxLen at hdc
  have HM := hide fun y => dmay_any y lo hi tied a b c d e hlo hhi
  have HH := hide fun (y : World) (v : Value) (h : SpL y v (dmayL lo hi tied e)) => have_any y v (dmayL lo hi tied e) dn h (by omega)
  generalize meets (dmayL lo hi tied e) dn dn = r at *
  have hwx : IntKind.u64.wrap (dn : Int) = (dn : Int) := by simp [IntKind.wrap, IntKind.bits, IntKind.signed]; omega
  unfold aheadV at HM
  have HZ := hide ((Below.refl w.heap.size w).alloc (Nat.le_refl _) (.cells #[.int .u64 (lo : Int), .int .u64 (hi : Int), .bool tied] 94))
  have HSS : Hid (∀ y, Below (w.heap.size + 1) (w.alloc (.cells #[.int .u64 (lo : Int), .int .u64 (hi : Int), .bool tied] 94)) y → y.cell? ⟨pb, 0, none⟩ = some (.int .u32 (a : Int)) ∧ y.cell? ⟨pb, 1, none⟩ = some (.int .u32 (b : Int)) ∧ y.cell? ⟨pb, 2, none⟩ = some (.int .u32 (c : Int)) ∧ y.cell? ⟨pb, 3, none⟩ = some (.int .u32 (d : Int)) ∧ y.cell? ⟨pb, 4, none⟩ = some (.int .u32 (e : Int)) ∧ y.cell? ⟨pb, 41, none⟩ = some (.slice da dn dc) ∧ y.cell? ⟨w.heap.size, 0, none⟩ = some (.int .u64 (lo : Int)) ∧ y.cell? ⟨w.heap.size, 1, none⟩ = some (.int .u64 (hi : Int)) ∧ y.cell? ⟨w.heap.size, 2, none⟩ = some (.bool tied)) := hide fun y hb => by
    have hbw : Below w.heap.size w y := HZ.out.trans (hb.mono (by omega))
    obtain ⟨h0, h1, h2, h3, h4⟩ := hP.below hbw
    have hr : y.heap[w.heap.size]? = some (.cells #[.int .u64 (lo : Int), .int .u64 (hi : Int), .bool tied] 94 (0, 0)) := by rw [hb.block _ (by omega)]; exact Go.heap_alloc_new w _
    exact ⟨h0, h1, h2, h3, h4, (hbw.cell (p := ⟨pb, 41, none⟩) (World.block_lt_of_cell? w _ hd)).trans hd, by rw [cell_of_row _ _ _ _ _ _ hr]; rfl, by rw [cell_of_row _ _ _ _ _ _ hr]; rfl, by rw [cell_of_row _ _ _ _ _ _ hr]; rfl⟩
  have HSZE := hide (show ((w.alloc (.cells #[.int .u64 (lo : Int), .int .u64 (hi : Int), .bool tied] 94)).drewN 1).heap.size = w.heap.size + 1 by show (w.alloc _).heap.size = _; simp)
  obtain ⟨h0, h1, h2, h3, h4, h5, h6, h7, h8⟩ := HSS.out _ (Below.refl _ _)
  clear hP hd
  go_enter Tryd.func100, Tryd.ntmps100
  go_wp2_with fail
  go_region_held3 (fun y => y.cell? ⟨pb, 0, none⟩ = some (.int .u32 (a : Int)) ∧ y.cell? ⟨pb, 1, none⟩ = some (.int .u32 (b : Int)) ∧ y.cell? ⟨pb, 2, none⟩ = some (.int .u32 (c : Int)) ∧ y.cell? ⟨pb, 3, none⟩ = some (.int .u32 (d : Int)) ∧ y.cell? ⟨pb, 4, none⟩ = some (.int .u32 (e : Int)) ∧ y.cell? ⟨pb, 41, none⟩ = some (.slice da dn dc) ∧ y.cell? ⟨w.heap.size, 0, none⟩ = some (.int .u64 (lo : Int)) ∧ y.cell? ⟨w.heap.size, 1, none⟩ = some (.int .u64 (hi : Int)) ∧ y.cell? ⟨w.heap.size, 2, none⟩ = some (.bool tied)) (first | exact ⟨h0, h1, h2, h3, h4, h5, h6, h7, h8⟩ | exact HSQ.out | exact HSY.out)
    ((first
      | (go_at_call 44; refine (HM.out ((w.alloc (.cells #[.int .u64 (lo : Int), .int .u64 (hi : Int), .bool tied] 94)).drewN 1)).mono ?_; rintro e' y ⟨v, rfl, hs, hb2⟩; have HSP := hide hs; have HBY : Hid (Below (w.heap.size + 1) (w.alloc (.cells #[.int .u64 (lo : Int), .int .u64 (hi : Int), .bool tied] 94)) y) := hide ((bel_drewN (Below.refl _ _) 1).trans (by have := hb2; rw [HSZE.out] at this; exact this)); have HSY := hide (HSS.out y HBY.out); obtain ⟨g0, g1, g2, g3, g4, g5, g6, g7, g8⟩ := HSY.out; clear hs hb2 HM)
      | (go_at_call 96; refine (HH.out _ _ HSP.out).mono ?_; rintro e' z ⟨rfl, hb3⟩; have HBQ := hide (HBY.out.trans (hb3.mono (by have := HBY.out.size; simp at this; omega))); have HSQ := hide (HSS.out z HBQ.out); clear hb3)))
  all_goals
    go_wp2_with fail
    go_ret
    exact ⟨rfl, HZ.out.trans (HBQ.out.mono (by omega))⟩
end Go.Proofs.YtedhohamdbplhaaDoor
