import Derived.Test.YtafjldmfghokaabAGh
namespace Go.Proofs.Ytafjldmfghokaab
open Go.RowKit Go.Sort
open Num
set_option linter.unusedVariables false
set_option linter.unusedSimpArgs false
set_option maxRecDepth 20000

theorem boxOp (w : World) (k0 k1 k2 : Int) : Below w.heap.size w (w.alloc (.cells #[.int .i64 k0, .int .i64 k1, .int .i64 k2] 31)) := (Below.refl _ _).alloc (Nat.le_refl _) _
theorem GIn.wo {w x : World} {v : Value} {T : List Int} (h : GIn w x v T) : Wo x x v 3 .i64 T.length := ⟨⟨_, fun y hy => by obtain ⟨z, -, rfl⟩ := List.mem_map.1 hy; exact ⟨z, rfl⟩, h.ow⟩, Chg.refl _ _⟩
set_option maxHeartbeats 1000000 in
theorem asks_refs {w : World} {lp rp M : Nat} {U : Nat → Prop} (h : TG w lp rp M U) (k1 k2 i : Int) (hk : i64ok k2) :
    Calls Try.prog 92 #[.pointer (some ⟨lp, 0, none⟩), .pointer (some ⟨rp, 0, none⟩), .agg #[.int .i64 2, .int .i64 k1, .int .i64 k2], .int .i64 i] w fun e w' => e = .returned (.bool true) ∧ Below w.heap.size w w' := by
  have HB := hide (boxOp w 2 k1 k2)
  obtain ⟨r, hr⟩ := tg_refs (h.below HB.out) hk
  have HR := hide hr
  clear h hk hr
  go_enter Try.func92, Try.ntmps92
  go_wp2_with fail
  go_quiet (first | (go_at_call 108; exact Calls.quiet_of_same (HR.out _).1) | (go_at_call 109; exact Calls.quiet_of_same (HR.out _).2))
  go_wp2_with fail
  go_ret
  exact ⟨rfl, below_drewN HB.out _⟩
set_option maxHeartbeats 1000000 in
theorem asks_hot {w : World} {lp rp M : Nat} {U : Nat → Prop} (h : TG w lp rp M U) (k1 k2 i : Int) (hi : -9000000000000000000 ≤ i ∧ i ≤ 9000000000000000000) :
    Calls Try.prog 92 #[.pointer (some ⟨lp, 0, none⟩), .pointer (some ⟨rp, 0, none⟩), .agg #[.int .i64 3, .int .i64 k1, .int .i64 k2], .int .i64 i] w fun e w' => e = .returned (.bool true) ∧ Below w.heap.size w w' := by
  have HB := hide (boxOp w 3 k1 k2)
  obtain ⟨T, hT, hc⟩ := tg_hot h
  have HL := hide (hc _ HB.out).1
  have HR := hide fun y (hy : Below w.heap.size w y) => (hc y hy).2
  have HSP := hide fun y v (hv : Wo y y v 3 .i64 T.length) => spoilInts_any i hi hv hT
  clear h hc hi
  go_enter Try.func92, Try.ntmps92
  go_wp2_with (first
    | (go_at_call 34; refine HL.out.mono ?_; rintro e y1 ⟨v1, rfl, g1⟩; have H1 := hide g1; have HB1 := hide (HB.out.trans (g1.be.mono HB.out.size)); clear g1 HL)
    | (go_at_call 110; refine (HR.out _ HB1.out).mono ?_; rintro e y2 ⟨v2, rfl, g2⟩; have H2 := hide g2; have HB2 := hide (HB1.out.trans (g2.be.mono HB1.out.size)); have H12 := hide (H1.out.later g2.be); have HSM := hide (sameInts_any H12.out.ow g2.ow); clear g2 HR)
    | (go_at_call 22; refine HSM.out.mono ?_; rintro e y3 ⟨rfl, m3, rfl⟩; clear HSM)
    | (go_at_call 111; refine (HSP.out _ _ (H12.out.later (below_drewN (Below.refl _ _) _)).wo).mono ?_; rintro e y4 ⟨rfl, hch⟩; have HC := hide hch; clear hch HSP))
  go_ret
  exact ⟨rfl, (below_drewN HB2.out _).trans (HC.out.below (below_drewN HB2.out _).size fun b e => Nat.le_trans HB.out.size (H12.out.nw b e))⟩
set_option maxHeartbeats 1000000 in
theorem asks_slots {w : World} {lp rp M : Nat} {U : Nat → Prop} (h : TG w lp rp M U) (k1 k2 i : Int) (hi : -9000000000000000000 ≤ i ∧ i ≤ 9000000000000000000) :
    Calls Try.prog 92 #[.pointer (some ⟨lp, 0, none⟩), .pointer (some ⟨rp, 0, none⟩), .agg #[.int .i64 4, .int .i64 k1, .int .i64 k2], .int .i64 i] w fun e w' => e = .returned (.bool true) ∧ Below w.heap.size w w' := by
  have HB := hide (boxOp w 4 k1 k2)
  obtain ⟨T, hT, hc⟩ := tg_slots h
  have HL := hide (hc _ HB.out).1
  have HR := hide fun y (hy : Below w.heap.size w y) => (hc y hy).2
  have HSP := hide fun y v (hv : Wo y y v 3 .i64 T.length) => spoilInts_any i hi hv hT
  clear h hc hi
  go_enter Try.func92, Try.ntmps92
  go_wp2_with (first
    | (go_at_call 23; refine HL.out.mono ?_; rintro e y1 ⟨v1, rfl, g1⟩; have H1 := hide g1; have HB1 := hide (HB.out.trans (g1.be.mono HB.out.size)); clear g1 HL)
    | (go_at_call 105; refine (HR.out _ HB1.out).mono ?_; rintro e y2 ⟨v2, rfl, g2⟩; have H2 := hide g2; have HB2 := hide (HB1.out.trans (g2.be.mono HB1.out.size)); have H12 := hide (H1.out.later g2.be); have HSM := hide (sameInts_any H12.out.ow g2.ow); clear g2 HR)
    | (go_at_call 22; refine HSM.out.mono ?_; rintro e y3 ⟨rfl, m3, rfl⟩; clear HSM)
    | (go_at_call 111; refine (HSP.out _ _ (H12.out.later (below_drewN (Below.refl _ _) _)).wo).mono ?_; rintro e y4 ⟨rfl, hch⟩; have HC := hide hch; clear hch HSP))
  go_ret
  exact ⟨rfl, (below_drewN HB2.out _).trans (HC.out.below (below_drewN HB2.out _).size fun b e => Nat.le_trans HB.out.size (H12.out.nw b e))⟩
set_option maxHeartbeats 1000000 in
theorem asks_num {w : World} {lp rp M : Nat} {U : Nat → Prop} (h : TG w lp rp M U) (hM : M ≤ 1000000000000000) (k1 k2 i : Int) :
    Calls Try.prog 92 #[.pointer (some ⟨lp, 0, none⟩), .pointer (some ⟨rp, 0, none⟩), .agg #[.int .i64 5, .int .i64 k1, .int .i64 k2], .int .i64 i] w fun e w' => e = .returned (.bool true) ∧ Below w.heap.size w w' := by
  have HB := hide (boxOp w 5 k1 k2)
  obtain ⟨r, hc⟩ := tg_num h hM
  have HL := hide fun y (hy : Below w.heap.size w y) => (hc y hy).1
  have HR := hide fun y (hy : Below w.heap.size w y) => (hc y hy).2
  have HD : Hid (Below w.heap.size w (w.alloc (.cells #[.int .i64 5, .int .i64 k1, .int .i64 k2] 31)).drew) := hide HB.out.drew
  have c3 := (hc _ HB.out).2
  clear h hc
  go_enter Try.func92, Try.ntmps92
  go_wp2_with fail
  go_region_held3 (fun z => z.cell? ⟨rp, 3, none⟩ = some (.int .u32 r)) (first | exact c3 | exact d3)
    ((go_at_call 12; refine (HL.out _ HD.out).mono ?_; rintro e y1 ⟨rfl, hq⟩; have HB1 := hide (HD.out.trans (hq.2.mono HD.out.size)); have d3 : y1.cell? ⟨rp, 3, none⟩ = some (.int .u32 r) := HR.out _ HB1.out; clear hq))
  go_wp2_with fail
  go_ret
  exact ⟨by simp, HB1.out⟩
set_option maxHeartbeats 1000000 in
theorem asks_none {w : World} {lp rp : Nat} (k0 k1 k2 i : Int) (h2 : k0 ≠ 2) (h3 : k0 ≠ 3) (h4 : k0 ≠ 4) (h5 : k0 ≠ 5) :
    Calls Try.prog 92 #[.pointer (some ⟨lp, 0, none⟩), .pointer (some ⟨rp, 0, none⟩), .agg #[.int .i64 k0, .int .i64 k1, .int .i64 k2], .int .i64 i] w fun e w' => e = .returned (.bool true) ∧ Below w.heap.size w w' := by
  have HB := hide (boxOp w k0 k1 k2)
  have b2 : (k0 == 2) = false := by simpa using h2
  have b3 : (k0 == 3) = false := by simpa using h3
  have b4 : (k0 == 4) = false := by simpa using h4
  have b5 : (k0 == 5) = false := by simpa using h5
  clear h2 h3 h4 h5
  go_enter Try.func92, Try.ntmps92
  go_wp2_with fail
  go_ret
  exact ⟨rfl, HB.out⟩
theorem asks_any {w : World} {lp rp M : Nat} {U : Nat → Prop} (h : TG w lp rp M U) (hM : M ≤ 1000000000000000) (k0 k1 k2 i : Int) (hk : i64ok k2) (hi : -9000000000000000000 ≤ i ∧ i ≤ 9000000000000000000) :
    Calls Try.prog 92 #[.pointer (some ⟨lp, 0, none⟩), .pointer (some ⟨rp, 0, none⟩), .agg #[.int .i64 k0, .int .i64 k1, .int .i64 k2], .int .i64 i] w fun e w' => e = .returned (.bool true) ∧ Below w.heap.size w w' := by
  by_cases h2 : k0 = 2
  · subst h2; exact asks_refs h k1 k2 i hk
  by_cases h3 : k0 = 3
  · subst h3; exact asks_hot h k1 k2 i hi
  by_cases h4 : k0 = 4
  · subst h4; exact asks_slots h k1 k2 i hi
  by_cases h5 : k0 = 5
  · subst h5; exact asks_num h hM k1 k2 i
  exact asks_none k0 k1 k2 i h2 h3 h4 h5
end Go.Proofs.Ytafjldmfghokaab
