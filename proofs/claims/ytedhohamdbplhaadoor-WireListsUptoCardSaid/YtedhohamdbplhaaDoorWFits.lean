import Derived.Test.YtedhohamdbplhaaDoorWMay2
namespace Go.Proofs.YtedhohamdbplhaaDoor
open Go.RowKit
set_option linter.unusedVariables false
set_option linter.unusedSimpArgs false
set_option maxRecDepth 20000

/-- the five numbers of some parts in memory -/
def P5 (w : World) (pb a b c d e : Nat) : Prop := w.cell? ⟨pb, 0, none⟩ = some (.int .u32 (a : Int)) ∧ w.cell? ⟨pb, 1, none⟩ = some (.int .u32 (b : Int)) ∧ w.cell? ⟨pb, 2, none⟩ = some (.int .u32 (c : Int)) ∧ w.cell? ⟨pb, 3, none⟩ = some (.int .u32 (d : Int)) ∧ w.cell? ⟨pb, 4, none⟩ = some (.int .u32 (e : Int))
def five (a b c d e i : Nat) : Nat := [a, b, c, d, e].getD i 0
theorem P5.at {w : World} {pb a b c d e i : Nat} (h : P5 w pb a b c d e) (hi : i < 5) : w.cell? ⟨pb, i, none⟩ = some (.int .u32 (five a b c d e i : Nat)) := by
  obtain ⟨h0, h1, h2, h3, h4⟩ := h
  rcases (show i = 0 ∨ i = 1 ∨ i = 2 ∨ i = 3 ∨ i = 4 by omega) with rfl | rfl | rfl | rfl | rfl
  · exact h0
  · exact h1
  · exact h2
  · exact h3
  · exact h4
theorem P5.below {w w' : World} {pb a b c d e : Nat} (h : P5 w pb a b c d e) (hb : Below w.heap.size w w') : P5 w' pb a b c d e := by
  obtain ⟨h0, h1, h2, h3, h4⟩ := h
  exact ⟨(hb.cell (p := ⟨pb, 0, none⟩) (World.block_lt_of_cell? w _ h0)).trans h0, (hb.cell (p := ⟨pb, 1, none⟩) (World.block_lt_of_cell? w _ h1)).trans h1, (hb.cell (p := ⟨pb, 2, none⟩) (World.block_lt_of_cell? w _ h2)).trans h2, (hb.cell (p := ⟨pb, 3, none⟩) (World.block_lt_of_cell? w _ h3)).trans h3, (hb.cell (p := ⟨pb, 4, none⟩) (World.block_lt_of_cell? w _ h4)).trans h4⟩

set_option maxHeartbeats 1000000 in
theorem nfits_any (w : World) (n pb a b c d e : Nat) (hT : BTab w) (hP : P5 w pb a b c d e) (hn : n < 18) (ha : a < 4294967296) (hb : b < 4294967296) (hx : five a b c d e (bnd n).1 < 4294967296) :
    Calls Tryd.prog 98 #[.int .i64 (n : Int), .pointer (some ⟨pb, 0, none⟩)] w fun e' w' => e' = .returned (.bool (meets (mayL n a b) (five a b c d e (bnd n).1) (five a b c d e (bnd n).1))) ∧ Below w.heap.size w w' := by
  have HM := hide fun k => may_any (w.drewN k) n a b c d e hT hn ha hb
  obtain ⟨t0, _, _⟩ := hT n hn
  obtain ⟨hpl, _, _⟩ := bnd_lt n hn
  have hc := hP.at hpl
  obtain ⟨h0, h1, h2, h3, h4⟩ := hP
  generalize five a b c d e (bnd n).1 = x at *
  generalize (bnd n).1 = pl at *
  have i1 : (n : Int) < 18 := by omega
  have i2 : (pl : Int) < 5 := by omega
  have HH := hide fun (y : World) (v : Value) (h : SpL y v (mayL n a b)) => have_any y v (mayL n a b) x h (by omega)
  generalize meets (mayL n a b) x x = r at *
  unfold aheadV at HM
  have hwx : IntKind.u64.wrap (x : Int) = (x : Int) := by simp [IntKind.wrap, IntKind.bits, IntKind.signed]; omega
  have HSS : Hid (∀ y, Below w.heap.size w y → y.cell? ⟨pb, 0, none⟩ = some (.int .u32 (a : Int)) ∧ y.cell? ⟨pb, 1, none⟩ = some (.int .u32 (b : Int)) ∧ y.cell? ⟨pb, 2, none⟩ = some (.int .u32 (c : Int)) ∧ y.cell? ⟨pb, 3, none⟩ = some (.int .u32 (d : Int)) ∧ y.cell? ⟨pb, 4, none⟩ = some (.int .u32 (e : Int)) ∧ y.cell? ⟨0, n * 3, none⟩ = some (.int .i64 (pl : Int)) ∧ y.cell? ⟨pb, pl, none⟩ = some (.int .u32 (x : Int))) := hide fun y hb => ⟨(hb.cell (p := ⟨pb, 0, none⟩) (World.block_lt_of_cell? w _ h0)).trans h0, (hb.cell (p := ⟨pb, 1, none⟩) (World.block_lt_of_cell? w _ h1)).trans h1, (hb.cell (p := ⟨pb, 2, none⟩) (World.block_lt_of_cell? w _ h2)).trans h2, (hb.cell (p := ⟨pb, 3, none⟩) (World.block_lt_of_cell? w _ h3)).trans h3, (hb.cell (p := ⟨pb, 4, none⟩) (World.block_lt_of_cell? w _ h4)).trans h4, (hb.cell (p := ⟨0, n * 3, none⟩) (World.block_lt_of_cell? w _ t0)).trans t0, (hb.cell (p := ⟨pb, pl, none⟩) (World.block_lt_of_cell? w _ hc)).trans hc⟩
  rename_i dead1 dead2 dead3 dead4
  clear dead1 dead2 dead3 dead4 hT
  go_enter Tryd.func98, Tryd.ntmps98
  go_wp2_with fail
  go_region_held3 (fun y => y.cell? ⟨pb, 0, none⟩ = some (.int .u32 (a : Int)) ∧ y.cell? ⟨pb, 1, none⟩ = some (.int .u32 (b : Int)) ∧ y.cell? ⟨pb, 2, none⟩ = some (.int .u32 (c : Int)) ∧ y.cell? ⟨pb, 3, none⟩ = some (.int .u32 (d : Int)) ∧ y.cell? ⟨pb, 4, none⟩ = some (.int .u32 (e : Int)) ∧ y.cell? ⟨0, n * 3, none⟩ = some (.int .i64 (pl : Int)) ∧ y.cell? ⟨pb, pl, none⟩ = some (.int .u32 (x : Int))) (first | exact ⟨h0, h1, h2, h3, h4, t0, hc⟩ | exact HSZ.out | exact HSY.out)
    ((first
      | (go_at_call 40; refine (HM.out 1).mono ?_; rintro e' y ⟨v, rfl, hs, hb2⟩; have HSP := hide hs; have HBY : Hid (Below w.heap.size w y) := hide ((bel_drewN (Below.refl _ _) 1).trans hb2); have HSY := hide (HSS.out y HBY.out); obtain ⟨g0, g1, g2, g3, g4, g5, g6⟩ := HSY.out; clear hs hb2 HM)
      | (go_at_call 96; refine (HH.out _ _ HSP.out).mono ?_; rintro e' z ⟨rfl, hb3⟩; have HBZ := hide (HBY.out.trans (hb3.mono HBY.out.size)); have HSZ := hide (HSS.out z HBZ.out); clear hb3)))
  all_goals
    go_wp2_with fail
    go_ret
    exact ⟨rfl, HBZ.out⟩
end Go.Proofs.YtedhohamdbplhaaDoor
