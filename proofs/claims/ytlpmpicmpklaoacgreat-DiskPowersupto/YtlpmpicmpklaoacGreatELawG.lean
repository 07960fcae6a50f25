import Derived.Test.YtlpmpicmpklaoacGreatELawF
namespace Go.Proofs.YtlpmpicmpklaoacGreat
open Go.RowKit Go.Maps Go.Sort
set_option linter.unusedVariables false
set_option linter.unusedSimpArgs false
set_option maxRecDepth 20000

theorem OSl.belowE {w w' : World} {v : Value} {os : List OpV} (h : OSl w v os) (hb : Below w.heap.size w w') : OSl w' v os := by
  obtain ⟨a, cap, rfl, hl, hm, hall, hcell⟩ := h
  refine ⟨a, cap, rfl, hl, hm, fun p hp => ⟨(hall p hp).1.below hb, (hall p hp).2⟩, fun h0 => ?_⟩
  obtain ⟨b, off, rfl, hc⟩ := hcell h0
  refine ⟨b, off, rfl, fun i hi => ?_⟩
  obtain ⟨x0, x1, x2, x3⟩ := hc i hi
  exact ⟨by rw [hb.cell (World.block_lt_of_cell? w _ x0)]; exact x0, by rw [hb.cell (World.block_lt_of_cell? w _ x1)]; exact x1, by rw [hb.cell (World.block_lt_of_cell? w _ x2)]; exact x2, by rw [hb.cell (World.block_lt_of_cell? w _ x3)]; exact x3⟩

theorem play_DiskDurables (w : World) (ld : Bool) (n s : Int) (iv : Value) (l : List Nat) (hn : i64ok n) (hs : i64ok s) (hv : BSl w iv l) (hl : l.length ≤ 140737488355000) (v : Value) (os : List OpV) (ho : OSl w v os) (hlen : os.length ≤ 1048576) (hdat : ∀ o ∈ os, o.dl.length ≤ 1048576) :
    Calls Tryz.prog 3 #[.agg #[.bool ld, .int .i64 n, .int .i64 s, iv], v] w fun e w' => e = .returned (.bool true) ∧ Below w.heap.size w w' := by
  have HC := hide (fun w (hv : BSl w iv l) (ho : OSl w v os) => play_any w ld n s iv l hn hs hv hl v os ho hlen hdat 8 10)
  have H1 := hide hv
  have H2 := hide ho
  clear hn hs hv hl ho hlen hdat
  go_enter Tryz.func3, Tryz.ntmps3
  go_wp2_with fail
  have b0 : Below w.heap.size w (w.alloc (.cells #[.bool ld, .int .i64 n, .int .i64 s, iv] 24)) := (Below.refl _ _).alloc (Nat.le_refl _) _
  refine (HC.out _ (H1.out.below b0) (H2.out.belowE b0)).mono ?_
  rintro e w1 ⟨rfl, hb⟩
  have HB := hide (b0.trans (hb.mono b0.size))
  clear hb b0
  go_wp2
  go_ret
  exact ⟨rfl, HB.out⟩

theorem play_DiskPowers (w : World) (ld : Bool) (n s : Int) (iv : Value) (l : List Nat) (hn : i64ok n) (hs : i64ok s) (hv : BSl w iv l) (hl : l.length ≤ 140737488355000) (v : Value) (os : List OpV) (ho : OSl w v os) (hlen : os.length ≤ 1048576) (hdat : ∀ o ∈ os, o.dl.length ≤ 1048576) :
    Calls Tryz.prog 4 #[.agg #[.bool ld, .int .i64 n, .int .i64 s, iv], v] w fun e w' => e = .returned (.bool true) ∧ Below w.heap.size w w' := by
  have HC := hide (fun w (hv : BSl w iv l) (ho : OSl w v os) => play_any w ld n s iv l hn hs hv hl v os ho hlen hdat 12 15)
  have H1 := hide hv
  have H2 := hide ho
  clear hn hs hv hl ho hlen hdat
  go_enter Tryz.func4, Tryz.ntmps4
  go_wp2_with fail
  have b0 : Below w.heap.size w (w.alloc (.cells #[.bool ld, .int .i64 n, .int .i64 s, iv] 24)) := (Below.refl _ _).alloc (Nat.le_refl _) _
  refine (HC.out _ (H1.out.below b0) (H2.out.belowE b0)).mono ?_
  rintro e w1 ⟨rfl, hb⟩
  have HB := hide (b0.trans (hb.mono b0.size))
  clear hb b0
  go_wp2
  go_ret
  exact ⟨rfl, HB.out⟩
end Go.Proofs.YtlpmpicmpklaoacGreat
