import Derived.Test.YtglajdmkbckjjaaDoorBEnds
namespace Go.Proofs.YtglajdmkbckjjaaDoor
open Go.RowKit Go.Shelf
set_option linter.unusedVariables false
set_option linter.unusedSimpArgs false
set_option maxRecDepth 20000

theorem setR_at (B b : Nat) : (setR B b (b + 1)).testBit b = true := by rw [testBit_setR]; simp
theorem clrR_at (B b : Nat) : (clrR B b (b + 1)).testBit b = false := by rw [testBit_clrR]; simp
theorem nx_at {B n b : Nat} (hb : b < n) (h : B.testBit b = true) : nx B n b = some b := fnd_some _ _ _ (Nat.le_refl _) (by omega) h (fun j h1 h2 => by omega)
theorem nc_at {B n b : Nat} (hb : b < n) (h : B.testBit b = false) : nc B n b = some b := fnd_some _ _ _ (Nat.le_refl _) (by omega) (by simpa using h) (fun j h1 h2 => by omega)

theorem words_in {w : World} {L : BL} {n B : Nat} : ∀ W, BNewAt w W L n B → Calls Tryd.prog 17 #[PB L] W fun e w' => ∃ g o cap, e = .returned (.slice (some ⟨g, o, none⟩) (nW n) cap) ∧ nW n ≤ cap ∧ cap ≤ 9223372036854775807 ∧ BNewAt w w' L n B ∧ ∀ k, k < nW n → w'.cell? ⟨g, o + k, none⟩ = some (.int .u64 (wd B k : Nat)) := by
  intro W h
  refine (Words_any h.1).mono fun e w' hp => ?_
  obtain ⟨v, rfl, hr, hv, hb⟩ := hp
  obtain ⟨g, o, cap, e, h1, h2, hc⟩ := hv.parts (by rw [wds_len]; have := h.1.n1; unfold nW; omega)
  rw [wds_len] at e h1
  refine ⟨g, o, cap, by rw [e], h1, h2, h.below hb, fun k hk => ?_⟩
  have := hc k (by rw [wds_len]; exact hk)
  rwa [wds_get hk] at this

set_option maxHeartbeats 2000000 in
theorem two_main {w : World} {v ov : Value} {l : List Nat} {os : List OpV} (n bit a : Nat) (hT : TabAt w) (hv : WSl w v l) (hr : l.length ≤ 17592186044416) (ho : OSl w ov os) (h1 : 1 ≤ n) (h2 : n ≤ 65536) (he : cwErr n l = 0) (hb : bit < n) (ha : a < n) :
    Calls Tryd.prog 7 #[.int .i64 (n : Int), v, ov, .int .i64 (bit : Int), .int .i64 (a : Int)] w fun e w' => e = .returned (.bool true) ∧ Below w.heap.size w w' := by
  have hcan : canB (n : Int) l = true := decide_eq_true ⟨by omega, by omega, by rw [Int.toNat_natCast]; exact he⟩
  have HL := hide (listed_any (n : Int) hv)
  rw [hcan] at HL
  have HLAY := hide (lay_law n h1 h2 hv hr he ho)
  generalize foldO n (valW l) os = B0 at *
  have HSET : Hid (∀ W L, BNewAt w W L n B0 → Calls Tryd.prog 28 #[PB L, .int .i64 (bit : Int)] W fun e w' => (∃ x, e = .returned (.tuple #[.bool x, .int .i64 0])) ∧ BNewAt w w' L n (setR B0 bit (bit + 1))) := hide fun W L hw =>
    (Set_any hw.1 hb).mono fun e w' hp => ⟨⟨_, hp.1⟩, hw.step hp.2.1 hp.2.2⟩
  have s1 := setR_at B0 bit
  generalize setR B0 bit (bit + 1) = B1 at *
  have HTEST1 : Hid (∀ W L, BNewAt w W L n B1 → Calls Tryd.prog 29 #[PB L, .int .i64 (bit : Int)] W fun e w' => e = .returned (.tuple #[.bool true, .int .i64 0]) ∧ BNewAt w w' L n B1) := hide fun W L hw => by
    have := Test_any hw.1 hb
    rw [s1] at this
    exact this.mono fun e w' hp => ⟨hp.1, hw.below hp.2⟩
  have HLEV1 : Hid (∀ W L, BNewAt w W L n B1 → Calls Tryd.prog 30 #[PB L, .int .i64 (n : Int)] W fun e w' => e = .returned (.bool true) ∧ BNewAt w w' L n B1) := hide fun W L hw =>
    (levels_any hw.1).mono fun e w' hp => ⟨hp.1, hw.below hp.2⟩
  have HNEXT : Hid (∀ W L, BNewAt w W L n B1 → Calls Tryd.prog 31 #[PB L, .int .i64 (bit : Int)] W fun e w' => e = .returned (.int .i64 (bit : Int)) ∧ w' = W) := hide fun W L hw => by
    have := Next_any hw.1 (hT.below hw.2.1) (bit : Int)
    rw [Int.toNat_natCast, nx_at hb s1] at this
    exact this
  have HCLR : Hid (∀ W L, BNewAt w W L n B1 → Calls Tryd.prog 32 #[PB L, .int .i64 (bit : Int)] W fun e w' => e = .returned (.tuple #[.bool true, .int .i64 0]) ∧ BNewAt w w' L n (clrR B1 bit (bit + 1))) := hide fun W L hw => by
    have := Clear_any hw.1 hb
    rw [s1] at this
    exact this.mono fun e w' hp => ⟨hp.1, hw.step hp.2.1 hp.2.2⟩
  have s2 := clrR_at B1 bit
  generalize clrR B1 bit (bit + 1) = B2 at *
  have HTEST2 : Hid (∀ W L, BNewAt w W L n B2 → Calls Tryd.prog 29 #[PB L, .int .i64 (bit : Int)] W fun e w' => e = .returned (.tuple #[.bool false, .int .i64 0]) ∧ BNewAt w w' L n B2) := hide fun W L hw => by
    have := Test_any hw.1 hb
    rw [s2] at this
    exact this.mono fun e w' hp => ⟨hp.1, hw.below hp.2⟩
  have HLEV2 : Hid (∀ W L, BNewAt w W L n B2 → Calls Tryd.prog 30 #[PB L, .int .i64 (n : Int)] W fun e w' => e = .returned (.bool true) ∧ BNewAt w w' L n B2) := hide fun W L hw =>
    (levels_any hw.1).mono fun e w' hp => ⟨hp.1, hw.below hp.2⟩
  have HNC : Hid (∀ W L, BNewAt w W L n B2 → Calls Tryd.prog 33 #[PB L, .int .i64 (bit : Int)] W fun e w' => e = .returned (.int .i64 (bit : Int)) ∧ w' = W) := hide fun W L hw => by
    have := NextClear_any hw.1 (hT.below hw.2.1) (bit : Int)
    rw [Int.toNat_natCast, nc_at hb s2] at this
    exact this
  have HENDS : Hid (∀ W L, BNewAt w W L n B2 → Calls Tryd.prog 34 #[PB L, .int .i64 (n : Int), .int .i64 (a : Int)] W fun e w' => e = .returned (.bool true) ∧ Below w.heap.size w w') := hide fun W L hw =>
    (ends_any hw.1 (hT.below hw.2.1) ha).mono fun e w' hp => ⟨hp.1, hw.2.1.trans (hp.2.mono hw.2.1.size)⟩
  have HW1 := hide (fun W L => words_in (w := w) (L := L) (n := n) (B := B1) W)
  have HW2 := hide (fun W L => words_in (w := w) (L := L) (n := n) (B := B2) W)
  have hbit1 := bit_of_shift (B := B1) (k := bit)
  have hbit2 := bit_of_shift (B := B2) (k := bit)
  rw [s1] at hbit1
  rw [s2] at hbit2
  simp only [Bool.toNat_true, Bool.toNat_false, Int.natCast_one, Int.natCast_zero] at hbit1 hbit2
  have hbw : bit / 64 < nW n := by unfold nW; omega
  have hm1 : nW n ≤ 1024 := by unfold nW; omega
  have hpe := ptrEqNil
  obtain ⟨va, vcap, rfl, -⟩ := hv
  obtain ⟨oa, ocap, rfl, -⟩ := ho
  clear hcan he s1 s2 hT
  obtain ⟨x1, hx1⟩ : ∃ x1, wd B1 (bit / 64) = x1 := ⟨_, rfl⟩
  obtain ⟨x2, hx2⟩ : ∃ x2, wd B2 (bit / 64) = x2 := ⟨_, rfl⟩
  rw [hx1] at hbit1
  rw [hx2] at hbit2
  have HX1 := hide hx1
  have HX2 := hide hx2
  have hxl1 : x1 < 18446744073709551616 := by rw [← hx1]; exact wd_lt _ _
  have hxl2 : x2 < 18446744073709551616 := by rw [← hx2]; exact wd_lt _ _
  clear hx1 hx2
  generalize l.length = llen at *
  generalize os.length = olen at *
  unfold PB at *
  go_enter Tryd.func7, Tryd.ntmps7
  go_wp2_with (first
    | (go_at_call 9; refine HL.out.mono ?_; clear HL; rintro e w ⟨rfl, rfl⟩)
    | (go_at_call 10; refine HLAY.out.mono ?_; clear HLAY; rintro e w1 ⟨L, rfl, hn0⟩)
    | (go_at_call 28; refine (HSET.out _ _ (by assumption)).mono ?_; clear HSET; rintro e w2 ⟨⟨x, rfl⟩, hn1⟩)
    | (go_at_call 29; refine (HTEST1.out _ _ (by assumption)).mono ?_; clear HTEST1; rintro e w3 ⟨rfl, hn2⟩)
    | (go_at_call 30; refine (HLEV1.out _ _ (by assumption)).mono ?_; clear HLEV1; rintro e w4 ⟨rfl, hn3⟩)
    | (go_at_call 31; refine (HNEXT.out _ _ (by assumption)).mono ?_; clear HNEXT; rintro e w' ⟨rfl, rfl⟩)
    | (go_at_call 17; refine (HW1.out _ _ (by assumption)).mono ?_; clear HW1; rintro e w5 ⟨g1, o1, cap1, rfl, hcap1, hcm1, hn4, hc1⟩; replace hc1 := hc1 _ hbw; rw [HX1.out] at hc1)
    | (go_at_call 13; refine (num_any _ _).mono ?_; rintro e w' ⟨rfl, rfl⟩)
    | (go_at_call 32; refine (HCLR.out _ _ (by assumption)).mono ?_; clear HCLR; rintro e w6 ⟨rfl, hn5⟩)
    | (go_at_call 29; refine (HTEST2.out _ _ (by assumption)).mono ?_; clear HTEST2; rintro e w7 ⟨rfl, hn6⟩)
    | (go_at_call 30; refine (HLEV2.out _ _ (by assumption)).mono ?_; clear HLEV2; rintro e w8 ⟨rfl, hn7⟩)
    | (go_at_call 33; refine (HNC.out _ _ (by assumption)).mono ?_; clear HNC; rintro e w' ⟨rfl, rfl⟩)
    | (go_at_call 17; refine (HW2.out _ _ (by assumption)).mono ?_; clear HW2; rintro e w9 ⟨g2, o2, cap2, rfl, hcap2, hcm2, hn8, hc2⟩; replace hc2 := hc2 _ hbw; rw [HX2.out] at hc2)
    | (go_at_call 34; refine (HENDS.out _ _ (by assumption)).mono ?_; clear HENDS; rintro e w10 ⟨rfl, hbel⟩))
  go_ret
  exact ⟨rfl, by assumption⟩
end Go.Proofs.YtglajdmkbckjjaaDoor
