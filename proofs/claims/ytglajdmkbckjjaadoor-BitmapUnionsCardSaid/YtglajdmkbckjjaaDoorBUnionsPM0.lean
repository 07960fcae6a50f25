import Derived.Test.YtglajdmkbckjjaaDoorBEnds
import Derived.Test.YtglajdmkbckjjaaDoorBUnion3
import Derived.Deep.DeepMust
import Derived.Test.YtglajdmkbckjjaaDoorBUnionB
import Derived.Test.YtglajdmkbckjjaaDoorBKeepA
import Derived.Test.YtglajdmkbckjjaaDoorBRef5
import Derived.Deep.Slices
import Derived.Test.YtglajdmkbckjjaaDoorBLayL
import Derived.Test.YtglajdmkbckjjaaDoorCards
import Derived.Test.YtglajdmkbckjjaaDoorTie
import Derived.WalkKit
import Derived.ProofKit
import Derived.OpenShut
import Derived.ChangeOld
import Derived.SizedLaws
import Derived.ChangeSlices
import Derived.ChangeSame
import Derived.Deep.DeepHandedRow
import Derived.Lib.LaidTab
namespace Go.Proofs.YtglajdmkbckjjaaDoor
open Go.RowKit Go.Shelf
set_option linter.unusedVariables false
set_option linter.unusedSimpArgs false
set_option maxRecDepth 20000

theorem setR_at (B b : Nat) : (setR B b (b + 1)).testBit b = true := by rw [testBit_setR]; simp
theorem clrR_at (B b : Nat) : (clrR B b (b + 1)).testBit b = false := by rw [testBit_clrR]; simp
theorem nx_at {B n b : Nat} (hb : b < n) (h : B.testBit b = true) : nx B n b = some b := fnd_some _ _ _ (Nat.le_refl _) (by omega) h (fun j h1 h2 => by omega)
theorem nc_at {B n b : Nat} (hb : b < n) (h : B.testBit b = false) : nc B n b = some b := fnd_some _ _ _ (Nat.le_refl _) (by omega) (by simpa using h) (fun j h1 h2 => by omega)

theorem words_in {w : World} {L : BL} {n B : Nat} : ∀ W, BNewAt w W L n B → Calls Tryd.prog 17 #[PB L] W fun e w' => ∃ g o cap, e = .returned (.slice (some ⟨g, o, none⟩) (nW n) cap) ∧ nW n ≤ cap ∧ cap ≤ 9223372036854775807 ∧ BNewAt w w' L n B ∧ ∀ k, k < nW n → w'.cell? ⟨g, o + k, none⟩ = some (.int .u64 (wd B k : Nat)) := by
  intro W h
  refine (Words_any h.1).mono fun e w' hp => ?_
  obtain ⟨v, rfl, hr, hv, hb⟩ := hp
  obtain ⟨g, o, cap, e, h1, h2, hc⟩ := hv.parts (by rw [wds_len]; have := h.1.n1; unfold nW; omega)
  rw [wds_len] at e h1
  refine ⟨g, o, cap, by rw [e], h1, h2, h.below hb, fun k hk => ?_⟩
  have := hc k (by rw [wds_len]; exact hk)
  rwa [wds_get hk] at this

set_option maxHeartbeats 2000000 in
theorem two_main {w : World} {v ov : Value} {l : List Nat} {os : List OpV} (n bit a : Nat) (hT : TabAt w) (hv : WSl w v l) (hr : l.length ≤ 17592186044416) (ho : OSl w ov os) (h1 : 1 ≤ n) (h2 : n ≤ 65536) (he : cwErr n l = 0) (hb : bit < n) (ha : a < n) :
    Calls Tryd.prog 7 #[.int .i64 (n : Int), v, ov, .int .i64 (bit : Int), .int .i64 (a : Int)] w fun e w' => e = .returned (.bool true) ∧ Below w.heap.size w w' := by
  have hcan : canB (n : Int) l = true := decide_eq_true ⟨by omega, by omega, by rw [Int.toNat_natCast]; exact he⟩
  have HL := hide (listed_any (n : Int) hv)
  rw [hcan] at HL
  have HLAY := hide (lay_law n h1 h2 hv hr he ho)
  generalize foldO n (valW l) os = B0 at *
  have HSET : Hid (∀ W L, BNewAt w W L n B0 → Calls Tryd.prog 28 #[PB L, .int .i64 (bit : Int)] W fun e w' => (∃ x, e = .returned (.tuple #[.bool x, .int .i64 0])) ∧ BNewAt w w' L n (setR B0 bit (bit + 1))) := hide fun W L hw =>
    (Set_any hw.1 hb).mono fun e w' hp => ⟨⟨_, hp.1⟩, hw.step hp.2.1 hp.2.2⟩
  have s1 := setR_at B0 bit
  generalize setR B0 bit (bit + 1) = B1 at *
  have HTEST1 : Hid (∀ W L, BNewAt w W L n B1 → Calls Tryd.prog 29 #[PB L, .int .i64 (bit : Int)] W fun e w' => e = .returned (.tuple #[.bool true, .int .i64 0]) ∧ BNewAt w w' L n B1) := hide fun W L hw => by
    have := Test_any hw.1 hb
    rw [s1] at this
    exact this.mono fun e w' hp => ⟨hp.1, hw.below hp.2⟩
  have HLEV1 : Hid (∀ W L, BNewAt w W L n B1 → Calls Tryd.prog 30 #[PB L, .int .i64 (n : Int)] W fun e w' => e = .returned (.bool true) ∧ BNewAt w w' L n B1) := hide fun W L hw =>
    (levels_any hw.1).mono fun e w' hp => ⟨hp.1, hw.below hp.2⟩
  have HNEXT : Hid (∀ W L, BNewAt w W L n B1 → Calls Tryd.prog 31 #[PB L, .int .i64 (bit : Int)] W fun e w' => e = .returned (.int .i64 (bit : Int)) ∧ w' = W) := hide fun W L hw => by
    have := Next_any hw.1 (hT.below hw.2.1) (bit : Int)
    rw [Int.toNat_natCast, nx_at hb s1] at this
    exact this
  have HCLR : Hid (∀ W L, BNewAt w W L n B1 → Calls Tryd.prog 32 #[PB L, .int .i64 (bit : Int)] W fun e w' => e = .returned (.tuple #[.bool true, .int .i64 0]) ∧ BNewAt w w' L n (clrR B1 bit (bit + 1))) := hide fun W L hw => by
    have := Clear_any hw.1 hb
    rw [s1] at this
    exact this.mono fun e w' hp => ⟨hp.1, hw.step hp.2.1 hp.2.2⟩
  have s2 := clrR_at B1 bit
  generalize clrR B1 bit (bit + 1) = B2 at *
  have HTEST2 : Hid (∀ W L, BNewAt w W L n B2 → Calls Tryd.prog 29 #[PB L, .int .i64 (bit : Int)] W fun e w' => e = .returned (.tuple #[.bool false, .int .i64 0]) ∧ BNewAt w w' L n B2) := hide fun W L hw => by
    have := Test_any hw.1 hb
    rw [s2] at this
    exact this.mono fun e w' hp => ⟨hp.1, hw.below hp.2⟩
  have HLEV2 : Hid (∀ W L, BNewAt w W L n B2 → Calls Tryd.prog 30 #[PB L, .int .i64 (n : Int)] W fun e w' => e = .returned (.bool true) ∧ BNewAt w w' L n B2) := hide fun W L hw =>
    (levels_any hw.1).mono fun e w' hp => ⟨hp.1, hw.below hp.2⟩
  have HNC : Hid (∀ W L, BNewAt w W L n B2 → Calls Tryd.prog 33 #[PB L, .int .i64 (bit : Int)] W fun e w' => e = .returned (.int .i64 (bit : Int)) ∧ w' = W) := hide fun W L hw => by
    have := NextClear_any hw.1 (hT.below hw.2.1) (bit : Int)
    rw [Int.toNat_natCast, nc_at hb s2] at this
    exact this
  have HENDS : Hid (∀ W L, BNewAt w W L n B2 → Calls Tryd.prog 34 #[PB L, .int .i64 (n : Int), .int .i64 (a : Int)] W fun e w' => e = .returned (.bool true) ∧ Below w.heap.size w w') := hide fun W L hw =>
    (ends_any hw.1 (hT.below hw.2.1) ha).mono fun e w' hp => ⟨hp.1, hw.2.1.trans (hp.2.mono hw.2.1.size)⟩
  have HW1 := hide (fun W L => words_in (w := w) (L := L) (n := n) (B := B1) W)
  have HW2 := hide (fun W L => words_in (w := w) (L := L) (n := n) (B := B2) W)
  have hbit1 := bit_of_shift (B := B1) (k := bit)
  have hbit2 := bit_of_shift (B := B2) (k := bit)
  rw [s1] at hbit1
  rw [s2] at hbit2
  simp only [Bool.toNat_true, Bool.toNat_false, Int.natCast_one, Int.natCast_zero] at hbit1 hbit2
  have hbw : bit / 64 < nW n := by unfold nW; omega
  have hm1 : nW n ≤ 1024 := by unfold nW; omega
  have hpe := ptrEqNil
  obtain ⟨va, vcap, rfl, -⟩ := hv
  obtain ⟨oa, ocap, rfl, -⟩ := ho
  clear hcan he s1 s2 hT
  obtain ⟨x1, hx1⟩ : ∃ x1, wd B1 (bit / 64) = x1 := ⟨_, rfl⟩
  obtain ⟨x2, hx2⟩ : ∃ x2, wd B2 (bit / 64) = x2 := ⟨_, rfl⟩
  rw [hx1] at hbit1
  rw [hx2] at hbit2
  have HX1 := hide hx1
  have HX2 := hide hx2
  have hxl1 : x1 < 18446744073709551616 := by rw [← hx1]; exact wd_lt _ _
  have hxl2 : x2 < 18446744073709551616 := by rw [← hx2]; exact wd_lt _ _
  clear hx1 hx2
  generalize l.length = llen at *
  generalize os.length = olen at *
  unfold PB at *
  go_enter Tryd.func7, Tryd.ntmps7
  go_wp2_with (first
    | (go_at_call 9; refine HL.out.mono ?_; clear HL; rintro e w ⟨rfl, rfl⟩)
    | (go_at_call 10; refine HLAY.out.mono ?_; clear HLAY; rintro e w1 ⟨L, rfl, hn0⟩)
    | (go_at_call 28; refine (HSET.out _ _ (by assumption)).mono ?_; clear HSET; rintro e w2 ⟨⟨x, rfl⟩, hn1⟩)
    | (go_at_call 29; refine (HTEST1.out _ _ (by assumption)).mono ?_; clear HTEST1; rintro e w3 ⟨rfl, hn2⟩)
    | (go_at_call 30; refine (HLEV1.out _ _ (by assumption)).mono ?_; clear HLEV1; rintro e w4 ⟨rfl, hn3⟩)
    | (go_at_call 31; refine (HNEXT.out _ _ (by assumption)).mono ?_; clear HNEXT; rintro e w' ⟨rfl, rfl⟩)
    | (go_at_call 17; refine (HW1.out _ _ (by assumption)).mono ?_; clear HW1; rintro e w5 ⟨g1, o1, cap1, rfl, hcap1, hcm1, hn4, hc1⟩; replace hc1 := hc1 _ hbw; rw [HX1.out] at hc1)
    | (go_at_call 13; refine (num_any _ _).mono ?_; rintro e w' ⟨rfl, rfl⟩)
    | (go_at_call 32; refine (HCLR.out _ _ (by assumption)).mono ?_; clear HCLR; rintro e w6 ⟨rfl, hn5⟩)
    | (go_at_call 29; refine (HTEST2.out _ _ (by assumption)).mono ?_; clear HTEST2; rintro e w7 ⟨rfl, hn6⟩)
    | (go_at_call 30; refine (HLEV2.out _ _ (by assumption)).mono ?_; clear HLEV2; rintro e w8 ⟨rfl, hn7⟩)
    | (go_at_call 33; refine (HNC.out _ _ (by assumption)).mono ?_; clear HNC; rintro e w' ⟨rfl, rfl⟩)
    | (go_at_call 17; refine (HW2.out _ _ (by assumption)).mono ?_; clear HW2; rintro e w9 ⟨g2, o2, cap2, rfl, hcap2, hcm2, hn8, hc2⟩; replace hc2 := hc2 _ hbw; rw [HX2.out] at hc2)
    | (go_at_call 34; refine (HENDS.out _ _ (by assumption)).mono ?_; clear HENDS; rintro e w10 ⟨rfl, hbel⟩))
  go_ret
  exact ⟨rfl, by assumption⟩
end Go.Proofs.YtglajdmkbckjjaaDoor
namespace Go.Proofs.YtglajdmkbckjjaaDoor
open Go.RowKit Go.Shelf
set_option linter.unusedVariables false
set_option linter.unusedSimpArgs false
set_option maxRecDepth 20000

theorem canB_true {n : Int} {l : List Nat} (h : canB n l = true) : ∃ m : Nat, n = (m : Int) ∧ 1 ≤ m ∧ m ≤ 65536 ∧ cwErr m l = 0 := by
  have h' := of_decide_eq_true h
  exact ⟨n.toNat, by omega, by omega, by omega, h'.2.2⟩

set_option maxHeartbeats 1000000 in
theorem two_walk {w : World} {v ov : Value} {l : List Nat} {os : List OpV} (n bit a : Int) (hT : TabAt w) (hv : WSl w v l) (hr : l.length ≤ 17592186044416) (ho : OSl w ov os) :
    Calls Tryd.prog 7 #[.int .i64 n, v, ov, .int .i64 bit, .int .i64 a] w fun e w' => e = .returned (.bool true) ∧ Below w.heap.size w w' := by
  by_cases hc : canB n l = true
  · obtain ⟨m, rfl, h1, h2, he⟩ := canB_true hc
    have HL := hide (listed_any (m : Int) hv)
    rw [hc] at HL
    by_cases b1 : bit < 0
    · obtain ⟨va, vcap, rfl, -⟩ := hv
      obtain ⟨oa, ocap, rfl, -⟩ := ho
      clear he hc hT hr
      generalize l.length = llen at *
      generalize os.length = olen at *
      go_enter Tryd.func7, Tryd.ntmps7
      go_wp2_with (go_at_call 9; refine HL.out.mono ?_; rintro e w' ⟨rfl, rfl⟩)
      go_ret
      exact ⟨rfl, Below.refl _ _⟩
    · by_cases b2 : (m : Int) ≤ bit
      · obtain ⟨va, vcap, rfl, -⟩ := hv
        obtain ⟨oa, ocap, rfl, -⟩ := ho
        clear he hc hT hr
        generalize l.length = llen at *
        generalize os.length = olen at *
        go_enter Tryd.func7, Tryd.ntmps7
        go_wp2_with (go_at_call 9; refine HL.out.mono ?_; rintro e w' ⟨rfl, rfl⟩)
        go_ret
        exact ⟨rfl, Below.refl _ _⟩
      · by_cases b3 : a < 0
        · obtain ⟨va, vcap, rfl, -⟩ := hv
          obtain ⟨oa, ocap, rfl, -⟩ := ho
          clear he hc hT hr
          generalize l.length = llen at *
          generalize os.length = olen at *
          go_enter Tryd.func7, Tryd.ntmps7
          go_wp2_with (go_at_call 9; refine HL.out.mono ?_; rintro e w' ⟨rfl, rfl⟩)
          go_ret
          exact ⟨rfl, Below.refl _ _⟩
        · by_cases b4 : (m : Int) ≤ a
          · obtain ⟨va, vcap, rfl, -⟩ := hv
            obtain ⟨oa, ocap, rfl, -⟩ := ho
            clear he hc hT hr
            generalize l.length = llen at *
            generalize os.length = olen at *
            go_enter Tryd.func7, Tryd.ntmps7
            go_wp2_with (go_at_call 9; refine HL.out.mono ?_; rintro e w' ⟨rfl, rfl⟩)
            go_ret
            exact ⟨rfl, Below.refl _ _⟩
          · obtain ⟨bn, rfl⟩ : ∃ k : Nat, bit = (k : Int) := ⟨bit.toNat, by omega⟩
            obtain ⟨an, rfl⟩ : ∃ k : Nat, a = (k : Int) := ⟨a.toNat, by omega⟩
            exact two_main m bn an hT hv hr ho h1 h2 he (by omega) (by omega)
  · have hc' : canB n l = false := by simpa using hc
    have HL := hide (listed_any n hv)
    rw [hc'] at HL
    obtain ⟨va, vcap, rfl, -⟩ := hv
    obtain ⟨oa, ocap, rfl, -⟩ := ho
    clear hc hc' hT hr
    generalize l.length = llen at *
    generalize os.length = olen at *
    go_enter Tryd.func7, Tryd.ntmps7
    go_wp2_with (go_at_call 9; refine HL.out.mono ?_; rintro e w' ⟨rfl, rfl⟩)
    go_ret
    exact ⟨rfl, Below.refl _ _⟩
end Go.Proofs.YtglajdmkbckjjaaDoor
namespace Go.Proofs.YtglajdmkbckjjaaDoor
open Go.RowKit Go.Shelf
set_option linter.unusedVariables false
set_option linter.unusedSimpArgs false
set_option maxRecDepth 20000

theorem cnt_news (A V : Nat) : ∀ n, cnt (A ||| V).testBit n = cnt A.testBit n + news A V n
  | 0 => rfl
  | n + 1 => by
    have ih := cnt_news A V n
    unfold news at *
    simp only [cnt]
    rw [ih, Nat.testBit_or]
    cases A.testBit n <;> cases V.testBit n <;> simp <;> omega
theorem news_again (A V n : Nat) : news (A ||| V) V n = 0 := cnt_zero n fun i _ => by rw [Nat.testBit_or]; cases A.testBit i <;> cases V.testBit i <;> rfl
theorem or_again (A V : Nat) : A ||| V ||| V = A ||| V := by rw [Nat.or_assoc, Nat.or_self]
theorem orAll_two (a b : List Nat) : orAll [a, b] = valW a ||| valW b := by simp [orAll]
theorem orAll_three (a b : List Nat) : orAll [b, a, b] = valW a ||| valW b := by
  simp only [orAll, List.foldl, Nat.zero_or]
  rw [Nat.or_comm (valW b) (valW a), or_again]

theorem LSl.two {w : World} {u v : Value} {a b : List Nat} (hu : WSl w u a) (hv : WSl w v b) : LSl (w.alloc (.cells #[u, v] 22)) (.slice (some ⟨w.heap.size, 0, none⟩) 2 2) [a, b] := by
  have hb : Below w.heap.size w (w.alloc (.cells #[u, v] 22)) := (Below.refl _ _).alloc (Nat.le_refl _) _
  have hn := Go.heap_alloc_new w (.cells #[u, v] 22)
  refine ⟨some ⟨w.heap.size, 0, none⟩, 2, rfl, by simp, by unfold maxLen; omega, fun _ => ⟨w.heap.size, 0, rfl, fun i hi => ?_⟩⟩
  match i, hi with
  | 0, _ => exact ⟨u, by rw [cell_of_row _ _ _ _ _ _ hn]; rfl, hu.below hb⟩
  | 1, _ => exact ⟨v, by rw [cell_of_row _ _ _ _ _ _ hn]; rfl, hv.below hb⟩
theorem LSl.three {w : World} {t u v : Value} {a b c : List Nat} (ht : WSl w t a) (hu : WSl w u b) (hv : WSl w v c) : LSl (w.alloc (.cells #[t, u, v] 22)) (.slice (some ⟨w.heap.size, 0, none⟩) 3 3) [a, b, c] := by
  have hb : Below w.heap.size w (w.alloc (.cells #[t, u, v] 22)) := (Below.refl _ _).alloc (Nat.le_refl _) _
  have hn := Go.heap_alloc_new w (.cells #[t, u, v] 22)
  refine ⟨some ⟨w.heap.size, 0, none⟩, 3, rfl, by simp, by unfold maxLen; omega, fun _ => ⟨w.heap.size, 0, rfl, fun i hi => ?_⟩⟩
  match i, hi with
  | 0, _ => exact ⟨t, by rw [cell_of_row _ _ _ _ _ _ hn]; rfl, ht.below hb⟩
  | 1, _ => exact ⟨u, by rw [cell_of_row _ _ _ _ _ _ hn]; rfl, hu.below hb⟩
  | 2, _ => exact ⟨v, by rw [cell_of_row _ _ _ _ _ _ hn]; rfl, hv.below hb⟩

/-- words that were handed out, from w on -/
def Out (w W : World) (v : Value) (l : List Nat) : Prop := WSl W v l ∧ Below w.heap.size w W
theorem Qt.wsl {w w' : World} {v : Value} {l : List Nat} (h : Qt w w') (hv : WSl w v l) : WSl w' v l := hv.below h.2
theorem OSl.empty (w : World) : OSl w (.slice none 0 0) [] := ⟨none, 0, rfl, Nat.le_refl _, by unfold maxLen; omega, by simp, by simp⟩
theorem addZero {l : List Nat} : l.length = l.length + 0 := rfl

theorem sameWords_eq {w : World} {v1 v2 : Value} {l : List Nat} (h1 : WSl w v1 l) (h2 : WSl w v2 l) : Calls Tryd.prog 19 #[v1, v2] w fun e w' => e = .returned (.bool true) ∧ Qt w w' := by
  have := sameWords_any h1 h2
  rwa [decide_eq_true rfl] at this
theorem row_fresh {w : World} {base : Nat} {e : TypeId} {v : Value} {m : Nat} {xs : List Value} (h : w.ownsRow base e 1 v m xs) : ∀ g, blockOf v = some g → base ≤ g := by
  intro g hg
  rcases h.2 with ⟨rfl, _⟩ | ⟨g', cap, cur, rfl, h1, _⟩
  · simp [blockOf] at hg
  · simp only [blockOf, Option.some.injEq] at hg
    omega
theorem not_U {w w0 : World} {L : BL} {n B : Nat} {v : Value} (h : BRep w L n B) (hf : ∀ g, blockOf v = some g → w0.heap.size ≤ g) (hle : w.heap.size ≤ w0.heap.size) : ∀ g, blockOf v = some g → ¬ L.U g := fun g hg hu => by
  have := hf g hg
  have := h.uLt g hu
  omega
theorem alloc_lt (w : World) (o : Obj) : w.heap.size < (w.alloc o).heap.size := by simp
theorem WSl.val {w : World} {v : Value} {l : List Nat} (h : WSl w v l) : ∃ a cap, v = .slice a l.length cap := by
  obtain ⟨a, cap, e, -⟩ := h
  exact ⟨a, cap, e⟩
theorem WSl.shape {w : World} {v : Value} {l : List Nat} {m : Nat} (h : WSl w v l) (hl : l.length = m) (h0 : 0 < m) : ∃ b off cap, v = .slice (some ⟨b, off, none⟩) m cap ∧ m ≤ cap ∧ cap ≤ 9223372036854775807 ∧ ∀ i, i < m → w.cell? ⟨b, off + i, none⟩ = some (.int .u64 (l.getD i 0 : Nat)) := by
  subst hl
  obtain ⟨b, off, cap, e, h1, h2, h3⟩ := h.parts h0
  exact ⟨b, off, cap, e, h1, h2, h3⟩

set_option maxHeartbeats 4000000 in
theorem mu_main {w : World} {va vb : Value} {la lb : List Nat} (n : Nat) (hT : TabAt w) (hva : WSl w va la) (hra : la.length ≤ 17592186044416) (hvb : WSl w vb lb) (hrb : lb.length ≤ 17592186044416) (h1 : 1 ≤ n) (h2 : n ≤ 65536) (hea : cwErr n la = 0) (heb : cwErr n lb = 0) :
    Calls Tryd.prog 4 #[.int .i64 (n : Int), va, vb] w fun e w' => e = .returned (.bool true) ∧ Below w.heap.size w w' := by
  have hca : canB (n : Int) la = true := decide_eq_true ⟨by omega, by omega, by rw [Int.toNat_natCast]; exact hea⟩
  have hcb : canB (n : Int) lb = true := decide_eq_true ⟨by omega, by omega, by rw [Int.toNat_natCast]; exact heb⟩
  have HLA := hide (listed_any (n : Int) hva)
  have HLB := hide (listed_any (n : Int) hvb)
  rw [hca] at HLA
  rw [hcb] at HLB
  have HLAY := hide (lay_law n h1 h2 hva hra hea (OSl.empty w))
  rw [show foldO n (valW la) [] = valW la from rfl] at HLAY
  obtain ⟨ela, -⟩ := valW_listed h1 hva.lt hea
  obtain ⟨elb, -⟩ := valW_listed h1 hvb.lt heb
  have hWA : Hid (∀ i, i < nW n → wd (valW la) i = la.getD i 0) := hide fun i _ => wd_valW _ _ hva.lt
  have hWB : Hid (∀ i, i < nW n → wd (valW lb) i = lb.getD i 0) := hide fun i _ => wd_valW _ _ hvb.lt
  have HO2 := hide (orAll_two la lb)
  have HO3 := hide (orAll_three la lb)
  have hm0 : 1 ≤ nW n := by unfold nW; omega
  have hm1 : nW n ≤ 1024 := by unfold nW; omega
  -- contracts in any world behind w
  have HCNTA : Hid (∀ W L, BNewAt w W L n (valW la) → Calls Tryd.prog 14 #[PB L] W fun e w' => e = .returned (.int .i64 ((cnt (valW la).testBit n : Nat) : Int)) ∧ w' = W) := hide fun W L h => Count_any h.1
  have HCPB : Hid (∀ W, Below w.heap.size w W → Calls Tryd.prog 16 #[vb] W fun e w' => ∃ v', e = .returned v' ∧ Cp W.heap.size w' v' lb ∧ WSl w' v' lb ∧ Below W.heap.size W w') := hide fun W hb => copied_any (hvb.below hb) hrb
  have HCPA : Hid (∀ W, Below w.heap.size w W → Calls Tryd.prog 16 #[va] W fun e w' => ∃ v', e = .returned v' ∧ Cp W.heap.size w' v' la ∧ WSl w' v' la ∧ Below W.heap.size W w') := hide fun W hb => copied_any (hva.below hb) hra
  have HMRG : Hid (∀ W W1 L v, BNewAt w W L n (valW la) → Cp W.heap.size W1 v lb → WSl W1 v lb → Below W.heap.size W W1 → Calls Tryd.prog 15 #[PB L, v] W1 fun e w' => e = .returned (.tuple #[.int .i64 ((news (valW la) (valW lb) n : Nat) : Int), .int .i64 0]) ∧ BNewAt w w' L n (valW la ||| valW lb)) := hide fun W W1 L v h hc hv hb =>
    (Merge_any (h.1.below hb) hv (fun g hg hu => by have := (hc.new g hg).1; have := h.1.uLt g hu; omega) heb).mono fun e w' hp => ⟨hp.1, (h.below hb).step hp.2.1 hp.2.2.1⟩
  have HMRG2 : Hid (∀ W W1 L v, BNewAt w W L n (valW la ||| valW lb) → Cp W.heap.size W1 v lb → WSl W1 v lb → Below W.heap.size W W1 → Calls Tryd.prog 15 #[PB L, v] W1 fun e w' => e = .returned (.tuple #[.int .i64 0, .int .i64 0]) ∧ BNewAt w w' L n (valW la ||| valW lb) ∧ ∀ g, g < W1.heap.size → ¬ L.U g → w'.heap[g]? = W1.heap[g]?) := hide fun W W1 L v h hc hv hb => by
    have := Merge_any (h.1.below hb) hv (fun g hg hu => by have := (hc.new g hg).1; have := h.1.uLt g hu; omega) heb
    rw [news_again, or_again] at this
    exact this.mono fun e w' hp => ⟨hp.1, (h.below hb).step hp.2.1 hp.2.2.1, hp.2.2.1.keep⟩
  have hcn := cnt_news (valW la) (valW lb) n
  have hcl1 := cnt_le (valW la).testBit n
  have hcl2 := news_le (valW la) (valW lb) n
  generalize hAV : valW la ||| valW lb = AB at *
  have hWAB : Hid (∀ i, i < nW n → wd AB i = la.getD i 0 ||| lb.getD i 0) := hide fun i hi => by rw [← hAV, wd_or, hWA.out i hi, hWB.out i hi]
  have HCNTB : Hid (∀ W L, BNewAt w W L n AB → Calls Tryd.prog 14 #[PB L] W fun e w' => e = .returned (.int .i64 ((cnt AB.testBit n : Nat) : Int)) ∧ w' = W) := hide fun W L h => Count_any h.1
  have HWDS : Hid (∀ W L, BNewAt w W L n AB → Calls Tryd.prog 17 #[PB L] W fun e w' => ∃ v', e = .returned v' ∧ WSl w' v' (wds AB (nW n)) ∧ BNewAt w w' L n AB ∧ Below W.heap.size W w') := hide fun W L h =>
    (Words_any h.1).mono fun e w' hp => by obtain ⟨v', e1, e2, e3, e4⟩ := hp; exact ⟨v', e1, e3, h.below e4, e4⟩
  have HUN2 : Hid (∀ W v, TabAt W → LSl W v [la, lb] → Calls Tryd.prog 18 #[.int .i64 (n : Int), v] W fun e w' => ∃ v', e = .returned (.tuple #[v', .int .i64 0]) ∧ WSl w' v' (wds AB (nW n)) ∧ Below W.heap.size W w' ∧ ∀ g, blockOf v' = some g → W.heap.size ≤ g) := hide fun W v ht hl => by
    have := Union_any n ht h1 h2 hl (fun i hi => by match i, hi with | 0, _ => exact hea | 1, _ => exact heb)
    rw [HO2.out] at this
    exact this.mono fun e w' hp => by obtain ⟨v', e1, e2, e3, e4⟩ := hp; exact ⟨v', e1, e3, e4, row_fresh e2⟩
  have HUN3 : Hid (∀ W v, TabAt W → LSl W v [lb, la, lb] → Calls Tryd.prog 18 #[.int .i64 (n : Int), v] W fun e w' => ∃ v', e = .returned (.tuple #[v', .int .i64 0]) ∧ WSl w' v' (wds AB (nW n)) ∧ Below W.heap.size W w') := hide fun W v ht hl => by
    have := Union_any n ht h1 h2 hl (fun i hi => by match i, hi with | 0, _ => exact heb | 1, _ => exact hea | 2, _ => exact heb)
    rw [HO3.out] at this
    exact this.mono fun e w' hp => by obtain ⟨v', e1, e2, e3, e4⟩ := hp; exact ⟨v', e1, e3, e4⟩
  have HTAB : Hid (∀ W, Below w.heap.size w W → TabAt W) := hide fun W hb => hT.below hb
  clear hAV HO2 HO3 hWA hWB hT hca hcb hea heb
  generalize cnt AB.testBit n = cAB at *
  generalize cnt (valW la).testBit n = cA at *
  generalize news (valW la) (valW lb) n = nw at *
  subst hcn
  have hb00 : Below w.heap.size w w := Below.refl _ _
  have HVA := hide hva
  have HVB := hide hvb
  obtain ⟨ga, oa, capa, rfl, qa1, qa2, qa3⟩ := hva.shape ela (by omega)
  obtain ⟨gb, ob, capb, rfl, qb1, qb2, qb3⟩ := hvb.shape elb (by omega)
  have HLA3 := hide qa3
  have HLB3 := hide qb3
  have hgl : Hid (∀ i, la.getD i 0 < 18446744073709551616) := hide hva.getLt
  have hgm : Hid (∀ i, lb.getD i 0 < 18446744073709551616) := hide hvb.getLt
  have hdec : ((nw : Int) != (cA : Int) + (nw : Int) - (cA : Int)) = false := by simp; omega
  have hpe := ptrEqNil
  clear qa3 qb3 hva hvb hra hrb ela elb
  unfold PB at *
  generalize hm : nW n = m at *
  have HMN := hide hm
  clear hm
  go_enter Tryd.func4, Tryd.ntmps4
  go_wp2_with (first
    | (go_at_call 9; (with_reducible refine HLA.out.mono ?_); clear HLA; rintro e w' ⟨rfl, hw'⟩; subst hw')
    | (go_at_call 9; (with_reducible refine HLB.out.mono ?_); clear HLB; rintro e w' ⟨rfl, hw'⟩; subst hw')
    | (go_at_call 10; refine HLAY.out.mono ?_; clear HLAY; rintro e w1 ⟨L, rfl, hn0⟩; have hb1 := hn0.2.1)
    | (go_at_call 14; refine (HCNTA.out _ _ hn0).mono ?_; clear HCNTA; rintro e w' ⟨rfl, hw'⟩; subst hw')
    | (go_at_call 16; (with_reducible refine (HCPB.out _ hb1).mono ?_); clear hb1; rintro e w2 ⟨cv1, rfl, hcp1, hcw1, hcb1⟩)
    | (go_at_call 15; refine (HMRG.out _ _ _ _ hn0 hcp1 hcw1 hcb1).mono ?_; clear HMRG; rintro e w3 ⟨rfl, hn1⟩)
    | (go_at_call 14; refine (HCNTB.out _ _ hn1).mono ?_; clear HCNTB; rintro e w' ⟨rfl, hw'⟩; subst hw')
    | (go_at_call 17; refine (HWDS.out _ _ hn1).mono ?_; clear hn1; rintro e w4 ⟨vbo, rfl, hbo, hn2, -⟩; have hb4 := hn2.2.1)
    | (go_at_call 16; (with_reducible refine (HCPA.out _ hb4).mono ?_); rintro e w5 ⟨ca, rfl, -, hca5, hcb5⟩; obtain ⟨xca, yca, rfl⟩ := hca5.val; have hb5 := hb4.trans (hcb5.mono hb4.size); clear hb4)
    | (go_at_call 16; (with_reducible refine (HCPB.out _ hb5).mono ?_); rintro e w6 ⟨cb, rfl, -, hcb6, hcc6⟩; obtain ⟨xcb, ycb, rfl⟩ := hcb6.val; have hb6 := hb5.trans (hcc6.mono hb5.size); clear hb5; have hca6 := hca5.below hcc6; have hbo6 := (hbo.below hcb5).below hcc6; have hn6 := (hn2.below hcb5).below hcc6)
    | (go_at_call 18; refine (HUN2.out _ _ (HTAB.out _ (hb6.alloc hb6.size _)) (LSl.two hca6 hcb6)).mono ?_; go_must (clear HUN2; rintro e w7 ⟨vl, rfl, hvl, hbl, hfr0⟩; have hfr := not_U hn6.1 hfr0 (Nat.le_of_lt (alloc_lt _ _)); have hb67 : Below w6.heap.size w6 w7 := ((Below.refl _ _).alloc (Nat.le_refl _) _).trans (hbl.mono (by simp)); have hb7 := hb6.trans (hb67.mono hb6.size); have hbo7 := hbo6.below hb67; have hn7 := hn6.below hb67))
    | (go_at_call 16; (with_reducible refine (HCPB.out _ hb7).mono ?_); rintro e w8 ⟨cb8, rfl, -, hw8, hc8⟩; obtain ⟨xcb8, ycb8, rfl⟩ := hw8.val; have hb8 := hb7.trans (hc8.mono hb7.size); clear hb7)
    | (go_at_call 16; (with_reducible refine (HCPA.out _ hb8).mono ?_); rintro e w9 ⟨ca9, rfl, -, hw9, hc9⟩; obtain ⟨xca9, yca9, rfl⟩ := hw9.val; have hb9 := hb8.trans (hc9.mono hb8.size); clear hb8)
    | (go_at_call 16; (with_reducible refine (HCPB.out _ hb9).mono ?_); rintro e w10 ⟨cb10, rfl, -, hw10, hc10⟩; obtain ⟨xcb10, ycb10, rfl⟩ := hw10.val; have hb10 := hb9.trans (hc10.mono hb9.size); clear hb9; have hvl10 := ((hvl.below hc8).below hc9).below hc10; have hbo10 := ((hbo7.below hc8).below hc9).below hc10; have hn10 := ((hn7.below hc8).below hc9).below hc10)
    | (go_at_call 18; refine (HUN3.out _ _ (HTAB.out _ (hb10.alloc hb10.size _)) (LSl.three ((hw8.below hc9).below hc10) (hw9.below hc10) hw10)).mono ?_; clear HUN3; rintro e w11 ⟨vr, rfl, hvr, hbr⟩; have hb1011 : Below w10.heap.size w10 w11 := ((Below.refl _ _).alloc (Nat.le_refl _) _).trans (hbr.mono (by simp)); have hb11 := hb10.trans (hb1011.mono hb10.size); have hbo11 := hbo10.below hb1011; have hvl11 := hvl10.below hb1011; have hn11 := hn10.below hb1011)
    | (go_at_call 13; refine (num_any _ _).mono ?_; rintro e w' ⟨rfl, hw'⟩; subst hw')
    | (go_at_call 19; (with_reducible refine (sameWords_eq hbo11 hvl11).mono ?_); rintro e w12 ⟨rfl, hq12⟩; clear hbo11; have hvl12 := hq12.wsl hvl11; have hvr12 := hq12.wsl hvr; have hb12 := hb11.trans (hq12.2.mono hb11.size); have hn12 := hn11.below hq12.2)
    | (go_at_call 19; (with_reducible refine (sameWords_eq hvl12 hvr12).mono ?_); rintro e w13 ⟨rfl, hq13⟩; clear hvr12; have hvl13 := hq13.wsl hvl12; have hb13 := hb12.trans (hq13.2.mono hb12.size); have hn13 := hn12.below hq13.2; have HVL13 := hide hvl13; obtain ⟨gl, ol, capl, rfl, ql1, ql2, ql3⟩ := hvl13.shape (wds_len _ _) (by omega); have HL3 := hide ql3; clear ql3))
  have hcap : capl ≤ 9223372036854775807 := ql2
  have HN13 := hide hn13
  have HB13 := hide hb13
  clear hn0 hcp1 hcw1 hcb1 hn2 hbo hca5 hcb5 hcb6 hcc6 hca6 hbo6 hn6 hb6 hvl hbl hfr0 hb67 hbo7 hn7 hw8 hc8 hw9 hc9 hw10 hc10 hb10 hvl10 hbo10 hn10 hvr hbr hb1011 hb11 hvl11 hn11 hq12 hvl12 hb12 hn12 hq13 hvl13 hb13 hn13
  go_loopw [19] (fun i wr => ∃ k : Nat, k ≤ m ∧ i = .int .i64 (k : Int) ∧ Qt w13 wr) (fun i _ => m - (intOf i).toNat)
  case atStart => exact ⟨0, Nat.zero_le _, rfl, Qt.refl _⟩
  case round =>
    obtain ⟨k, hk, rfl, hq⟩ := hrel
    by_cases hlt : k < m
    · have e1 : ∀ {b o : Nat}, wr.cell? ⟨b, o, none⟩ = w13.cell? ⟨b, o, none⟩ := fun {b o} => World.cell?_of_block (by rw [hq.1])
      have r1 : wr.cell? ⟨gl, ol + k, none⟩ = some (.int .u64 ((la.getD k 0 ||| lb.getD k 0 : Nat) : Int)) := by rw [e1, HL3.out k hlt, wds_get hlt, hWAB.out k hlt]
      have r2 : wr.cell? ⟨ga, oa + k, none⟩ = some (.int .u64 (la.getD k 0 : Nat)) := by rw [e1]; exact cell_below HB13.out (HLA3.out k hlt)
      have r3 : wr.cell? ⟨gb, ob + k, none⟩ = some (.int .u64 (lb.getD k 0 : Nat)) := by rw [e1]; exact cell_below HB13.out (HLB3.out k hlt)
      have eo := u64_or_nat _ _ (hgl.out k) (hgm.out k)
      have HQ := hide hq
      clear e1 hq
      generalize la.getD k 0 ||| lb.getD k 0 = z at *
      generalize la.getD k 0 = x at *
      generalize lb.getD k 0 = y at *
      have hzz : ((z : Int) != (z : Int)) = false := by simp
      go_wp2
      go_quiet (fail)
      go_wp2
      go_roundw
      case rel => exact ⟨k + 1, by omega, by go_num, HQ.out.drewN _⟩
      case measure => simp [intOf]; omega
    · have hnr := HN13.out.below hq.2
      have hbr := hnr.2.1
      have hvr := hq.wsl HVL13.out
      clear HN13 HB13 hq HVL13
      go_wp2_with (first
        | (go_at_call 16; (with_reducible refine (HCPB.out _ hbr).mono ?_); clear HCPB; rintro e w14 ⟨cv2, rfl, hcp2, hcw2, hcb2⟩; have hv14 := hvr.below hcb2)
        | (go_at_call 15; refine (HMRG2.out _ _ _ _ hnr hcp2 hcw2 hcb2).mono ?_; clear HMRG2; rintro e w15 ⟨rfl, hn15, hch15⟩; have hv15 := hv14.keptIf fun g hg hlt => hch15 g hlt (hfr g hg))
        | (go_at_call 13; refine (num_any _ _).mono ?_; rintro e w' ⟨rfl, hw'⟩; subst hw')
        | (go_at_call 17; refine (HWDS.out _ _ hn15).mono ?_; clear HWDS; rintro e w16 ⟨vw, rfl, hvw, hn16, hb16⟩; clear hn15; have hv16 := hv15.below hb16)
        | (go_at_call 19; (with_reducible refine (sameWords_eq hvw hv16).mono ?_); rintro e w17 ⟨rfl, hq17⟩))
      go_ret
      exact ⟨rfl, hn16.2.1.trans (hq17.2.mono hn16.2.1.size)⟩
end Go.Proofs.YtglajdmkbckjjaaDoor
namespace Go.Proofs.YtglajdmkbckjjaaDoor
open Go.RowKit Go.Shelf
set_option linter.unusedVariables false
set_option linter.unusedSimpArgs false
set_option maxRecDepth 20000

theorem row_zeroU {w : World} {base c : Nat} {e : TypeId} {v : Value} {n : Nat} {xs : List Value} (h : w.ownsRow base e c v n xs) : w.ownsRow 0 e c v n xs := by
  refine ⟨h.1, ?_⟩
  rcases h.2 with h0 | ⟨g, cap, cur, e, _, r⟩
  · exact .inl h0
  · exact .inr ⟨g, cap, cur, e, Nat.zero_le _, r⟩
theorem rUnion_no {w : World} {v : Value} {ls : List (List Nat)} (n : Int) (h : ¬ (1 ≤ n ∧ n ≤ 65536)) (hv : LSl w v ls) :
    Calls Tryd.prog 20 #[.int .i64 n, v] w fun e w' => e = .returned (.tuple #[.slice none 0 0, .int .i64 1]) ∧ Below w.heap.size w w' := by
  have HN := hide (rNew_no w n h)
  have HB := hide (Below.refl w.heap.size w)
  obtain ⟨a, cap, rfl, p1, p2, -⟩ := hv
  unfold maxLen at p2
  generalize ls.length = len at *
  go_enter Tryd.func20, Tryd.ntmps20
  go_wp2_with (first
    | (go_at_call 47; refine HN.out.mono ?_; rintro e w1 ⟨rfl, rfl⟩))
  go_ret2
  exact ⟨rfl, HB.out⟩
set_option maxHeartbeats 2000000 in
theorem rUnion_any {w : World} {v : Value} {ls : List (List Nat)} (n : Nat) (h1 : 1 ≤ n) (h2 : n ≤ 65536) (hv : LSl w v ls) (he : ∀ i, i < ls.length → cwErr n (ls.getD i []) = 0) :
    Calls Tryd.prog 20 #[.int .i64 (n : Int), v] w fun e w' => ∃ v', e = .returned (.tuple #[v', .int .i64 0]) ∧ WSl w' v' (wds (orAll ls) (nW n)) ∧ Below w.heap.size w w' := by
  have HN := hide (rNew_any w n h1 h2)
  have HE := hide he
  have HALL : Hid (orAll (ls.take ls.length) = orAll ls) := hide (by rw [List.take_length])
  have HST : Hid (∀ k, k < ls.length → orAll (ls.take (k + 1)) = orAll (ls.take k) ||| valW (ls.getD k [])) := hide fun k hk => orAll_take hk
  obtain ⟨a, cap, rfl, p1, p2, p5⟩ := hv
  unfold maxLen at p2
  have HC := hide p5
  clear p5 he
  generalize hlen : ls.length = len at *
  clear hlen
  go_enter Tryd.func20, Tryd.ntmps20
  go_wp2_with (first
    | (go_at_call 47; refine HN.out.mono ?_; rintro e w1 ⟨R, rfl, hr⟩; have HR := hide hr; clear hr; unfold PR))
  clear HN
  go_loopw [8] (fun x wr => ∃ k : Nat, k ≤ len ∧ x = .int .i64 (k : Int) ∧ RRep wr R n (orAll (ls.take k)) ∧ Below w.heap.size w wr) (fun x _ => len - (intOf x).toNat)
  case atStart => exact ⟨0, Nat.zero_le _, rfl, HR.out.1, HR.out.2.1⟩
  case round =>
    obtain ⟨k, hk, rfl, hrr, hbe⟩ := hrel
    have HRR := hide hrr
    have HBE := hide hbe
    clear hrr
    by_cases hlt : k < len
    · obtain ⟨b, off, rfl, hc⟩ := HC.out (by omega)
      obtain ⟨u, hu, hw⟩ := hc k hlt
      replace hu := cell_below hbe hu
      have HM := hide (rMerge_any HRR.out (hw.below hbe) (HE.out k hlt))
      have HS := hide (HST.out k hlt)
      obtain ⟨ua, ucap, rfl, -⟩ := hw
      generalize (ls.getD k []).length = ulen at *
      generalize valW (ls.getD k []) = V at *
      have hUN : Hid (∀ b, R.U b → w.heap.size ≤ b) := hide HR.out.2.2
      clear hc hbe
      unfold PR at HM
      go_wp2_with (first
        | (go_at_call 48; refine HM.out.mono ?_; rintro e w2 ⟨rfl, z1, z2⟩; have HN2 : Hid (RRep w2 R n (orAll (ls.take (k + 1))) ∧ Below w.heap.size w w2) := hide ⟨by rw [HS.out]; exact z1, HBE.out.trans (z2.below HBE.out.size hUN.out)⟩; clear z1 z2))
      go_roundw
      case rel => exact ⟨k + 1, by omega, by go_num, HN2.out.1, HN2.out.2⟩
      case measure => simp [intOf]; omega
    · have ek : k = len := by omega
      subst ek
      have hn := HRR.out.n2
      have HWD : Hid (Calls Tryd.prog 49 #[.pointer (some ⟨R.p, 0, none⟩)] wr fun e w' => ∃ v', e = .returned v' ∧ WSl w' v' (wds (orAll ls) (nW n)) ∧ Below w.heap.size w w') := hide (by
        have := rWords_any HRR.out
        rw [HALL.out] at this
        exact this.mono fun e w' ⟨v, q1, q2⟩ => ⟨v, q1, q2.wsl (by unfold nW; omega), HBE.out.trans (q2.2.2.mono HBE.out.size)⟩)
      clear hbe
      go_wp2_with (first
        | (go_at_call 49; refine HWD.out.mono ?_; rintro e w2 ⟨v', rfl, z1, z2⟩; have HF := hide (And.intro z1 z2); clear z1 z2))
      go_ret2
      exact ⟨_, rfl, HF.out.1, HF.out.2⟩
set_option maxHeartbeats 2000000 in
theorem rUnion_bad {w : World} {v : Value} {ls : List (List Nat)} (n kb : Nat) (h1 : 1 ≤ n) (h2 : n ≤ 65536) (hv : LSl w v ls) (hkb : kb < ls.length) (he : ∀ i, i < kb → cwErr n (ls.getD i []) = 0) (hbad : cwErr n (ls.getD kb []) ≠ 0) :
    Calls Tryd.prog 20 #[.int .i64 (n : Int), v] w fun e w' => e = .returned (.tuple #[.slice none 0 0, .int .i64 ((cwErr n (ls.getD kb []) : Nat) : Int)]) ∧ Below w.heap.size w w' := by
  have HMB : Hid (∀ x u R B, RRep x R n B → WSl x u (ls.getD kb []) → Calls Tryd.prog 48 #[PR R, u] x fun e w' => e = .returned (.tuple #[.int .i64 0, .int .i64 ((cwErr n (ls.getD kb []) : Nat) : Int)]) ∧ w' = x) := hide fun x u R B q1 q2 => rMerge_no q1 q2 hbad
  generalize cwErr n (ls.getD kb []) = er at *
  have HN := hide (rNew_any w n h1 h2)
  have HE := hide he
  have HBAD := hide hbad
  have HST : Hid (∀ k, k < ls.length → orAll (ls.take (k + 1)) = orAll (ls.take k) ||| valW (ls.getD k [])) := hide fun k hk => orAll_take hk
  obtain ⟨a, cap, rfl, p1, p2, p5⟩ := hv
  unfold maxLen at p2
  have HC := hide p5
  clear p5 he hbad
  generalize hlen : ls.length = len at *
  clear hlen
  go_enter Tryd.func20, Tryd.ntmps20
  go_wp2_with (first
    | (go_at_call 47; refine HN.out.mono ?_; rintro e w1 ⟨R, rfl, hr⟩; have HR := hide hr; clear hr; unfold PR))
  clear HN
  go_loopw [8] (fun x wr => ∃ k : Nat, k ≤ kb ∧ x = .int .i64 (k : Int) ∧ RRep wr R n (orAll (ls.take k)) ∧ Below w.heap.size w wr) (fun x _ => kb - (intOf x).toNat)
  case atStart => exact ⟨0, Nat.zero_le _, rfl, HR.out.1, HR.out.2.1⟩
  case round =>
    obtain ⟨k, hk, rfl, hrr, hbe⟩ := hrel
    have HRR := hide hrr
    have HBE := hide hbe
    clear hrr
    obtain ⟨b, off, rfl, hc⟩ := HC.out (by omega)
    obtain ⟨u, hu, hw⟩ := hc k (by omega)
    replace hu := cell_below hbe hu
    by_cases hlt : k < kb
    · have HM := hide (rMerge_any HRR.out (hw.below hbe) (HE.out k hlt))
      have HS := hide (HST.out k (by omega))
      obtain ⟨ua, ucap, rfl, -⟩ := hw
      generalize (ls.getD k []).length = ulen at *
      generalize valW (ls.getD k []) = V at *
      have hUN : Hid (∀ b, R.U b → w.heap.size ≤ b) := hide HR.out.2.2
      clear hc hbe
      unfold PR at HM
      go_wp2_with (first
        | (go_at_call 48; refine HM.out.mono ?_; rintro e w2 ⟨rfl, z1, z2⟩; have HN2 : Hid (RRep w2 R n (orAll (ls.take (k + 1))) ∧ Below w.heap.size w w2) := hide ⟨by rw [HS.out]; exact z1, HBE.out.trans (z2.below HBE.out.size hUN.out)⟩; clear z1 z2))
      go_roundw
      case rel => exact ⟨k + 1, by omega, by go_num, HN2.out.1, HN2.out.2⟩
      case measure => simp [intOf]; omega
    · have ek : k = kb := by omega
      subst ek
      have HM := hide (HMB.out _ _ _ _ HRR.out (hw.below hbe))
      have hb1 := HBAD.out
      obtain ⟨ua, ucap, rfl, -⟩ := hw
      generalize (ls.getD k []).length = ulen at *
      clear hc hbe HBAD
      have b0 : ((er : Int) == 0) = false := by simp; omega
      unfold PR at HM
      go_wp2_with (first
        | (go_at_call 48; refine HM.out.mono ?_; rintro e w2 ⟨rfl, z1⟩; subst z1))
      go_ret2
      exact ⟨rfl, HBE.out⟩
end Go.Proofs.YtglajdmkbckjjaaDoor
namespace Go.Proofs.YtglajdmkbckjjaaDoor
open Go.RowKit Go.Shelf
set_option linter.unusedVariables false
set_option linter.unusedSimpArgs false
set_option maxRecDepth 20000

/-- the lists that came in: F tells each one's value -/
def LSv (w : World) (v : Value) (F : Nat → Value) (ls : List (List Nat)) : Prop :=
  ∃ a cap, v = .slice a ls.length cap ∧ ls.length ≤ cap ∧ cap ≤ maxLen ∧ (∀ i, i < ls.length → WSl w (F i) (ls.getD i [])) ∧
    (0 < ls.length → ∃ b off, a = some ⟨b, off, none⟩ ∧ ∀ i, i < ls.length → w.cell? ⟨b, off + i, none⟩ = some (F i))
theorem LSl.fn {w : World} {v : Value} {ls : List (List Nat)} (h : LSl w v ls) : ∃ F, LSv w v F ls := by
  obtain ⟨a, cap, rfl, h1, h2, h5⟩ := h
  by_cases hp : 0 < ls.length
  · obtain ⟨b, off, rfl, hc⟩ := h5 hp
    haveI : Inhabited Value := ⟨.slice none 0 0⟩
    obtain ⟨F, hF⟩ := Go.Deep.choose_lt hc
    exact ⟨F, _, cap, rfl, h1, h2, fun i hi => (hF i hi).2, fun _ => ⟨b, off, rfl, fun i hi => (hF i hi).1⟩⟩
  · exact ⟨fun _ => .slice none 0 0, a, cap, rfl, h1, h2, fun i hi => by omega, fun h => absurd h hp⟩
theorem LSv.below {w w' : World} {v : Value} {F : Nat → Value} {ls : List (List Nat)} (h : LSv w v F ls) (hb : Below w.heap.size w w') : LSv w' v F ls := by
  obtain ⟨a, cap, rfl, h1, h2, h4, h5⟩ := h
  refine ⟨a, cap, rfl, h1, h2, fun i hi => (h4 i hi).below hb, fun hp => ?_⟩
  obtain ⟨b, off, rfl, hc⟩ := h5 hp
  exact ⟨b, off, rfl, fun i hi => cell_below hb (hc i hi)⟩
/-- the copies: m of them -/
structure CpA (N : Nat) (w : World) (iv : Value) (vs : List Value) (F : Nat → Value) (ls : List (List Nat)) (m : Nat) : Prop where
  own : w.ownsRow N 22 1 iv m vs
  cp : ∀ i, i < m → Cp N w (vs.getD i (.slice none 0 0)) (ls.getD i []) ∧ (vs.getD i (.slice none 0 0) = .slice none 0 0 → F i = .slice none 0 0)
theorem CpA.len {N : Nat} {w : World} {iv : Value} {vs : List Value} {F : Nat → Value} {ls : List (List Nat)} {m : Nat} (h : CpA N w iv vs F ls m) : vs.length = m := by have := h.own.1; omega
theorem CpA.below {N : Nat} {w w' : World} {iv : Value} {vs : List Value} {F : Nat → Value} {ls : List (List Nat)} {m : Nat} (h : CpA N w iv vs F ls m) (hb : Below w.heap.size w w') : CpA N w' iv vs F ls m :=
  ⟨rowKept h.own fun g e => hb.block g (h.own.lt g e).2, fun i hi => ⟨(h.cp i hi).1.below hb, (h.cp i hi).2⟩⟩
theorem CpA.lsl {N : Nat} {w : World} {iv : Value} {vs : List Value} {F : Nat → Value} {ls : List (List Nat)} (h : CpA N w iv vs F ls ls.length) (hl : ∀ i, i < ls.length → (∀ b ∈ ls.getD i [], b < 18446744073709551616) ∧ (ls.getD i []).length ≤ 17592186044416) : LSl w iv ls := by
  have hlen := h.len
  obtain ⟨a, cap, rfl, h1, h2⟩ := rowForm h.own
  refine ⟨a, cap, rfl, h1, h2, fun hp => ?_⟩
  have h0 : vs[0]? = some (vs.getD 0 (.slice none 0 0)) := by simp [List.getD, show 0 < vs.length by omega]
  have hown := row_zeroU h.own
  rw [← hlen] at hown
  obtain ⟨g, cp, e, -⟩ := rowCell hown h0
  simp only [Value.slice.injEq] at e
  obtain ⟨rfl, -, -⟩ := e
  refine ⟨g, 0, rfl, fun i hi => ⟨vs.getD i (.slice none 0 0), ?_, (h.cp i hi).1.wsl (hl i hi).1 (by have := (hl i hi).2; unfold maxLen; omega)⟩⟩
  obtain ⟨g', cp', e', hc⟩ := rowCell (j := i) (x := vs.getD i (.slice none 0 0)) hown (by simp [List.getD, show i < vs.length by omega])
  simp only [Value.slice.injEq, Option.some.injEq, Addr.mk.injEq] at e'
  obtain ⟨⟨rfl, -, -⟩, -, -⟩ := e'
  rw [Nat.zero_add]
  exact hc
theorem CpA.at {N : Nat} {w : World} {a : Option Addr} {m cap i : Nat} {vs : List Value} {F : Nat → Value} {ls : List (List Nat)} (h : CpA N w (.slice a m cap) vs F ls m) (hi : i < m) : ∃ g, a = some ⟨g, 0, none⟩ ∧ w.cell? ⟨g, i, none⟩ = some (vs.getD i (.slice none 0 0)) := by
  have hlen := h.len
  have hown := row_zeroU h.own
  rw [← hlen] at hown
  obtain ⟨g', cp', e', hc⟩ := rowCell (j := i) (x := vs.getD i (.slice none 0 0)) hown (by simp [List.getD, show i < vs.length by omega])
  simp only [Value.slice.injEq] at e'
  exact ⟨g', e'.1, hc⟩
/-- one more -/
theorem CpA.push {N : Nat} {w w1 w2 : World} {iv v v' : Value} {vs : List Value} {F : Nat → Value} {ls : List (List Nat)} {m : Nat} (h : CpA N w iv vs F ls m) (hN : N ≤ w.heap.size) (hb : Below w.heap.size w w1) (hc : Cp w.heap.size w1 v (ls.getD m [])) (hnil : v = .slice none 0 0 → F m = .slice none 0 0) (ho : w2.ownsRow N 22 1 v' (m + 1) (vs ++ [v])) (hg : (w1.alloc (.cells #[v] 22)).grownBy w2 iv.ownBlock) : CpA N w2 v' (vs ++ [v]) F ls (m + 1) ∧ (∀ B, B ≤ N → Below B w w2) := by
  have hlen := h.len
  have hs := hb.size
  have hkeep : ∀ b, b < w1.heap.size → iv.ownBlock ≠ some b → w2.heap[b]? = w1.heap[b]? := fun b hl hn => by
    rw [hg.block b (by rw [World.size_alloc]; omega) (fun e => hn e.symm), Below.heap_alloc _ _ b hl]
  have h1 := h.below hb
  have hty : ∀ (u : Value) (l : List Nat), Cp N w1 u l → Cp N w2 u l := fun u l hu => hu.keptIf fun g hgb => hkeep g (hu.new g hgb).2 fun e => by
    obtain ⟨cs, hcs⟩ := rowCells h1.own e
    rcases hu with ⟨rfl, -⟩ | ⟨g', rfl, -, hg'⟩
    · simp [blockOf] at hgb
    · simp only [blockOf, Option.some.injEq] at hgb
      subst hgb
      exact neType hg' hcs (by decide) rfl
  have hcN : Cp N w1 v (ls.getD m []) := by
    rcases hc with x | ⟨g, x1, x2, x3⟩
    · exact .inl x
    · exact .inr ⟨g, x1, by omega, x3⟩
  refine ⟨⟨ho, fun i hi => ?_⟩, fun B hB => ⟨hg.os.trans hb.os, hg.tape.trans hb.tape, hg.output.trans hb.output, by have := hg.size; rw [World.size_alloc] at this; omega, fun k hk => ?_⟩⟩
  · by_cases e : i = m
    · subst e
      have : (vs ++ [v]).getD i (.slice none 0 0) = v := by simp [List.getD, ← hlen]
      rw [this]
      exact ⟨hty _ _ hcN, hnil⟩
    · have : (vs ++ [v]).getD i (.slice none 0 0) = vs.getD i (.slice none 0 0) := by
        simp only [List.getD]
        rw [List.getElem?_append_left (by omega)]
      rw [this]
      exact ⟨hty _ _ (h1.cp i (by omega)).1, (h1.cp i (by omega)).2⟩
  · rw [hkeep k (by omega) (fun e => by have := (h.own.lt k e).1; omega)]
    exact hb.block k (by omega)
theorem BkB.kept {late : Bool} {w : World} {k c : Nat} {U : Nat → Prop} (h : BkB late w k U c) (hc : c ≤ 4000000000000) :
    Calls Tryd.prog 22 #[.pointer (some ⟨k, 0, none⟩)] w fun e w' => e = .returned (.bool true) ∧ BkB late w' k U c ∧ Below w.heap.size w w' := by
  have h0 := h
  obtain ⟨bv, raw, was, ys, vs, us, hb, hl, _⟩ := h
  exact (kept_any hb.s (by omega)).mono fun e w' hp => ⟨hp.1, h0.below hp.2.2, hp.2.2⟩
theorem BkB.new {w : World} (late : Bool) : BkB late (w.alloc (.cells #[.slice none 0 0, .bool late, .slice none 0 0, .slice none 0 0] 47)) w.heap.size (fun b => b = w.heap.size) 0 := by
  refine ⟨.slice none 0 0, .slice none 0 0, .slice none 0 0, [], [], [], ⟨⟨Go.heap_alloc_new _ _, ⟨rfl, .inl ⟨rfl, rfl⟩⟩, ⟨rfl, .inl ⟨rfl, rfl⟩⟩, ⟨rfl, .inl ⟨rfl, rfl⟩⟩, rfl, fun j u v h => by simp at h, fun j v h => by simp at h⟩, rfl, rfl, fun b e => by simp [Value.ownBlock] at e, ?_, fun b e => by rw [World.size_alloc]; omega, fun b e => by simp [Value.ownBlock] at e, fun b e => by simp [Value.ownBlock] at e, fun b e => by simp [Value.ownBlock] at e, fun x hx => by simp at hx, fun _ x hx => by simp at hx, fun _ i j x y hx => by simp at hx, fun _ x hx => by simp at hx⟩, by simp, fun _ => rfl⟩
  rintro b (e | e | ⟨x, hx, e⟩)
  · simp [Value.ownBlock] at e
  · simp [Value.ownBlock] at e
  · simp at hx
theorem nilW (w : World) : WSl w (.slice none 0 0) [] := ⟨none, 0, rfl, Nat.le_refl _, by unfold maxLen; omega, fun _ => rfl, by simp, by simp⟩
theorem least_bad {p : Nat → Prop} {N : Nat} (h : ∃ k, k < N ∧ p k) : ∃ k, k < N ∧ p k ∧ ∀ i, i < k → ¬ p i := by
  obtain ⟨k, hk, hp⟩ := h
  induction k using Nat.strongRecOn with
  | _ k ih =>
    by_cases hc : ∃ i, i < k ∧ p i
    · obtain ⟨i, hi, hpi⟩ := hc
      exact ih i hi (by omega) hpi
    · exact ⟨k, hk, hp, fun i hi hpi => hc ⟨i, hi, hpi⟩⟩
/-- what Union answers, here and there: words l, error er -/
def UAns (w : World) (n : Int) (iv : Value) (l : List Nat) (er : Int) : Prop := ∀ x, Below w.heap.size w x → Calls Tryd.prog 18 #[.int .i64 n, iv] x fun e w' => ∃ av, e = .returned (.tuple #[av, .int .i64 er]) ∧ w'.ownsRow 0 42 1 av l.length (l.map u64V) ∧ WSl w' av l ∧ Below x.heap.size x w' ∧ ∀ b, av.ownBlock = some b → x.heap.size ≤ b
def RAns (w : World) (n : Int) (v : Value) (l : List Nat) (er : Int) : Prop := Calls Tryd.prog 20 #[.int .i64 n, v] w fun e w' => ∃ bv, e = .returned (.tuple #[bv, .int .i64 er]) ∧ WSl w' bv l ∧ Below w.heap.size w w'
set_option maxHeartbeats 4000000 in
theorem unions_gen {w : World} {v : Value} {F : Nat → Value} {ls : List (List Nat)} (n : Int) (l : List Nat) (er : Int) (hv : LSv w v F ls) (hll : ls.length ≤ 6000000000000) (hl0 : l.length ≤ 1024) (hlen : ∀ i, i < ls.length → (ls.getD i []).length ≤ 17592186044416)
    (hR : ∀ x, Below w.heap.size w x → RAns x n v l er) (hU : ∀ x iv vs, Below w.heap.size w x → CpA w.heap.size x iv vs F ls ls.length → UAns x n iv l er) :
    Calls Tryd.prog 5 #[.int .i64 n, v] w fun e w' => e = .returned (.bool true) ∧ Below w.heap.size w w' := by
  obtain ⟨i0, hi, hz0, hz1, hz2⟩ := info_parts info_words
  have HR := hide hR
  have HU := hide hU
  have HLN := hide hlen
  have HV0 : Hid (∀ x, Below w.heap.size w x → LSv x v F ls) := hide fun x hx => hv.below hx
  have HCP : Hid (∀ x, Below w.heap.size w x → ∀ i, i < ls.length → Calls Tryd.prog 16 #[F i] x fun e w' => ∃ v' a c, e = .returned v' ∧ v' = .slice a (ls.getD i []).length c ∧ (v' = .slice none 0 0 → F i = .slice none 0 0) ∧ Cp x.heap.size w' v' (ls.getD i []) ∧ Below x.heap.size x w') := hide fun x hx i hi => by
    obtain ⟨a, cap, -, -, -, h4, -⟩ := hv
    refine (copied_full ((h4 i hi).below hx) (hlen i hi)).mono ?_
    rintro e w' ⟨v', rfl, q1, q2, q3, q4⟩
    obtain ⟨a', c', e', -⟩ := q3
    exact ⟨v', a', c', rfl, e', q1, q2, q4⟩
  have HFF : Hid (∀ i, i < ls.length → ∃ a c, F i = .slice a (ls.getD i []).length c) := hide fun i hi => by
    obtain ⟨a, cap, -, -, -, h4, -⟩ := hv
    obtain ⟨a', c', e', -⟩ := h4 i hi
    exact ⟨a', c', e'⟩
  obtain ⟨a, cap, rfl, p1, p2, p4, p5⟩ := hv
  unfold maxLen at p2
  have HC := hide p5
  clear p4 p5 hR hU hlen
  have HL0 : Hid (CpA w.heap.size w (.slice none 0 0) [] F ls 0) := hide ⟨⟨rfl, .inl ⟨rfl, rfl⟩⟩, fun i hi => by omega⟩
  generalize hlenE : ls.length = len at *
  have HLE := hide hlenE
  clear hlenE
  go_enter Tryd.func5, Tryd.ntmps5
  go_wp2_with fail
  go_loopw [5, 6] (fun y x wr => ∃ (i : Nat) (vs : List Value), i ≤ len ∧ x = .int .i64 (i : Int) ∧ CpA w.heap.size wr y vs F ls i ∧ Below w.heap.size w wr) (fun _ x _ => len - (intOf x).toNat)
  case atStart => exact ⟨0, [], Nat.zero_le _, rfl, HL0.out, Below.refl _ _⟩
  case round =>
    clear HL0
    obtain ⟨i, vs, hin, rfl, hcp, hbe⟩ := hrel
    have HCA := hide hcp
    have HBE := hide hbe
    obtain ⟨ai, ci, ei, hc1, hc2⟩ := rowForm hcp.own
    subst ei
    unfold maxLen at hc2
    clear hcp
    by_cases hlt : i < len
    · obtain ⟨b, off, rfl, hc⟩ := HC.out (by omega)
      have hu := cell_below hbe (hc i hlt)
      have HCO := hide (HCP.out wr hbe i hlt)
      obtain ⟨fa, fc, ef⟩ := HFF.out i hlt
      rw [ef] at hu HCO
      have HPU : Hid (∀ w1 w2 u v', Cp wr.heap.size w1 u (ls.getD i []) → (u = .slice none 0 0 → F i = .slice none 0 0) → Below wr.heap.size wr w1 → w2.ownsRow w.heap.size 22 1 v' (i + 1) (vs ++ [u]) → (w1.alloc (.cells #[u] 22)).grownBy w2 (Value.slice ai i ci).ownBlock → CpA w.heap.size w2 v' (vs ++ [u]) F ls (i + 1) ∧ Below w.heap.size w w2) := hide fun w1 w2 u v' g1 g2 g3 g4 g5 => by
        have hp := HCA.out.push HBE.out.size g3 g1 g2 g4 g5
        exact ⟨hp.1, HBE.out.trans (hp.2 _ (Nat.le_refl _))⟩
      have HOW : Hid (∀ w1 u, Below wr.heap.size wr w1 → (w1.alloc (.cells #[u] 22)).ownsRow w.heap.size 22 1 (.slice ai i ci) i vs ∧ w.heap.size ≤ (w1.alloc (.cells #[u] 22)).heap.size) := hide fun w1 u g => ⟨(HCA.out.below g).own.alloc _, by rw [World.size_alloc]; have := g.size; have := HBE.out.size; omega⟩
      rw [ef] at HPU
      clear hc hbe ef
      generalize (ls.getD i []).length = ul at *
      go_wp2_with (first
        | (go_at_call 16; refine HCO.out.mono ?_; rintro e w1 ⟨v1, a1, c1, rfl, rfl, g1, g2, g3⟩; obtain ⟨o3, o4⟩ := HOW.out w1 (.slice a1 ul c1) g3; have HG := hide (And.intro g2 (And.intro g1 g3)); clear g1 g2 g3)
        | (at_builtin; refine wpList_append_own_wide _ rfl (.tmp 22) (.tmp 28) 44 rfl w.heap.size 22 i0 (.slice none 0 0) 1 24 Tryd.underlying44 hi hz0 hz1 hz2 rfl (by decide) _ _ _ rfl o3 ⟨_, 0, none⟩ 1 1 [_] rfl rfl (cell_one_new _ _ _) (by simp [Value.oneCell']) (by unfold maxLen; omega) (by omega) o4 ?_))
      intro v' w2 y1 y2 y3
      have HN := hide (HPU.out _ _ _ _ HG.out.1 HG.out.2.1 HG.out.2.2 y1 y2)
      clear y1 y2 y3 o3 o4 HG
      go_wp2_with fail
      go_roundw
      case rel => exact ⟨i + 1, _, by omega, by go_num, HN.out.1, HN.out.2⟩
      case measure => simp [intOf]; omega
    · have ei : i = len := by omega
      subst ei
      have HRX := hide (HR.out wr hbe)
      unfold RAns at HRX
      clear hbe hlt HCP
      go_wp2_with (first
        | (go_at_call 20; refine HRX.out.mono ?_; rintro e w2 ⟨bv, rfl, g1, g2⟩; have HW2 := hide g1; have HB2 := hide (HBE.out.trans (g2.mono HBE.out.size)); have HC2 := hide (HCA.out.below g2); obtain ⟨ab, cb, eb, gb1, gb2, -⟩ := g1; subst eb; unfold maxLen at gb2; clear g2))
      have HUX := hide (HU.out w2 _ _ HB2.out HC2.out)
      unfold UAns at HUX
      have HBK := hide (BkB.new (w := w2) false)
      have HV2 := hide (HV0.out w2 HB2.out)
      have HB3 := hide ((Below.refl w2.heap.size w2).alloc (Nat.le_refl _) (.cells #[.slice none 0 0, .bool false, .slice none 0 0, .slice none 0 0] 47))
      have HFN : Hid (∀ x, Below w2.heap.size w2 x → ∀ j, j < i → ∃ gi gb off a1 n1 c1 fa fc, ai = some ⟨gi, 0, none⟩ ∧ a = some ⟨gb, off, none⟩ ∧ x.cell? ⟨gi, j, none⟩ = some (.slice a1 n1 c1) ∧ x.cell? ⟨gb, off + j, none⟩ = some (.slice fa (ls.getD j []).length fc) ∧ Calls Tryd.prog 23 #[.slice a1 n1 c1, .slice fa (ls.getD j []).length fc] x fun e w' => e = .returned (.bool true) ∧ Below x.heap.size x w') := hide fun x hx j hj => by
        have hca := HC2.out.below hx
        obtain ⟨gi, rfl, hci⟩ := hca.at hj
        obtain ⟨c1, c2⟩ := hca.cp j hj
        obtain ⟨a', cap', e', -, -, h4, h5⟩ := HV2.out.below hx
        simp only [Value.slice.injEq] at e'
        obtain ⟨rfl, -, -⟩ := e'
        have hj' : j < ls.length := by rw [HLE.out]; exact hj
        obtain ⟨gb, off, rfl, hcc⟩ := h5 (by omega)
        obtain ⟨fa, fc, ef⟩ := HFF.out j hj
        have hint := intact_any c1 (h4 j hj') c2 (HLN.out j hj)
        have hcl := hcc j hj'
        rw [ef] at hint hcl
        have hform : ∃ a1 n1 c1, vs.getD j (.slice none 0 0) = .slice a1 n1 c1 := by
          rcases c1 with ⟨e, -⟩ | ⟨g, e, -⟩
          · exact ⟨_, _, _, e⟩
          · exact ⟨_, _, _, e⟩
        obtain ⟨a1, n1, c1', ev⟩ := hform
        rw [ev] at hint hci
        exact ⟨gi, gb, off, a1, n1, c1', fa, fc, rfl, rfl, hci, hcl, hint⟩
      clear HU HR HCA HBE HRX HV0 HC HV2 HC2 HLN HFF
      have HKL : Hid (∀ x, Below w2.heap.size w2 x → WSl x (.slice ab l.length cb) l) := hide fun x hx => HW2.out.below hx
      generalize hll2 : l.length = ll at *
      have HLL := hide hll2
      clear hll2
      go_wp2_with fail
      go_loopw [10] (fun x wr => ∃ (r : Nat) (U : Nat → Prop), r ≤ 3 ∧ x = .int .i64 (r : Int) ∧ BkB false wr w2.heap.size U r ∧ (∀ b, U b → w2.heap.size ≤ b) ∧ Below w2.heap.size w2 wr) (fun x _ => 3 - (intOf x).toNat)
      case atStart => exact ⟨0, _, by omega, rfl, HBK.out, fun b e => Nat.le_of_eq e.symm, HB3.out⟩
      case round =>
        clear HBK HB3
        obtain ⟨r, U, hr3, rfl, hbk, hUU, hbe⟩ := hrel
        have HBK := hide hbk
        have HUU := hide hUU
        have HBE := hide hbe
        clear hbk hUU
        by_cases hlt2 : r < 3
        · have HUA := hide (HUX.out _ hbe)
          have HSW : Hid (∀ x av, Below wr.heap.size wr x → WSl x av l → Calls Tryd.prog 19 #[av, .slice ab ll cb] x fun e w' => e = .returned (.bool true) ∧ Qt x w') := hide fun x av g1 g2 => sameWords_eq g2 (HKL.out x (HBE.out.trans (g1.mono HBE.out.size)))
          have HKP : Hid (∀ x av, Below wr.heap.size wr x → x.ownsRow 0 42 1 av ll (l.map u64V) → WSl x av l → (∀ b, av.ownBlock = some b → wr.heap.size ≤ b) → Calls Tryd.prog 21 #[.pointer (some ⟨w2.heap.size, 0, none⟩), av] x fun e w' => e = .returned (.tuple #[]) ∧ ∃ U', BkB false w' w2.heap.size U' (r + 1) ∧ (∀ b, U' b → w2.heap.size ≤ b) ∧ Below w2.heap.size w2 w') := hide fun x av g1 g2 g3 g4 => by
            have hbx := HBK.out.below g1
            have hs1 := HBE.out.size
            have hs2 := g1.size
            refine (keepAny hbx (by rw [HLL.out]; exact g2) g3 (by rw [HLL.out]; omega) (by omega) fun b e hu => by have := g4 b e; have := HBK.out.lt b hu; omega).mono ?_
            rintro e w' ⟨rfl, U', q1, q2, q3⟩
            refine ⟨rfl, U', q1, fun b e => ?_, (HBE.out.trans (g1.mono hs1)).trans (q2.below (by omega) fun b e => ?_)⟩
            · rcases q3 b e with e | e | e
              · exact HUU.out b e
              · have := g4 b e; omega
              · omega
            · rcases e with e | e
              · exact HUU.out b e
              · have := g4 b e; omega
          clear hbe
          go_wp2_with (first
            | (go_at_call 18; refine HUA.out.mono ?_; rintro e w4 ⟨av, rfl, g1, g2, g3, g4⟩; have HS4 := hide (HSW.out w4 av g3 g2); have HK4 := hide (And.intro g1 (And.intro g2 (And.intro g3 g4))); obtain ⟨a4, c4, e4, g5, g6⟩ := rowForm g1; subst e4; unfold maxLen at g6; clear g1 g2 g3 g4)
            | (go_at_call 19; refine HS4.out.mono ?_; rintro e w5 ⟨rfl, hq⟩; have hq2 : Below wr.heap.size wr w5 := HK4.out.2.2.1.trans (hq.2.mono HK4.out.2.2.1.size); have HK5 := hide (HKP.out w5 _ hq2 (rowKept HK4.out.1 (fun g _ => by rw [hq.1])) (HK4.out.2.1.below hq.2) HK4.out.2.2.2); clear hq hq2)
            | (go_at_call 21; refine HK5.out.mono ?_; rintro e w6 ⟨rfl, U', h61, h62, h63⟩; have HK6 := hide (h61.kept (by omega)); have HB6 := hide (And.intro h62 h63); clear h61 h62 h63)
            | (go_at_call 22; refine HK6.out.mono ?_; rintro e w7 ⟨rfl, h71, h72⟩; have HB7 := hide (And.intro h71 (HB6.out.2.trans (h72.mono HB6.out.2.size))); clear h71 h72))
          go_loopw [14] (fun x wx => ∃ j : Nat, j ≤ i ∧ x = .int .i64 (j : Int) ∧ BkB false wx w2.heap.size U' (r + 1) ∧ Below w2.heap.size w2 wx) (fun x _ => i - (intOf x).toNat)
          case atStart => exact ⟨0, Nat.zero_le _, rfl, HB7.out.1, HB7.out.2⟩
          case round =>
            clear HB7 HK6 HK5 HK4 HS4 HUA HSW HKP
            obtain ⟨j, hjn, rfl, hbk, hbx⟩ := hrel
            have HBX := hide (And.intro hbk hbx)
            by_cases hlt3 : j < i
            · obtain ⟨gi, gb, off, a1, n1, c1, fa, fc, rfl, rfl, q1, q2, -⟩ := HFN.out _ hbx j hlt3
              have hdr : Below wr.heap.size wr wr.drew := (Below.refl _ _).drew
              obtain ⟨gi', gb', off', a1', n1', c1', fa', fc', e1, e2, q1', q2', hint⟩ := HFN.out wr.drew (hbx.trans (hdr.mono hbx.size)) j hlt3
              simp only [Option.some.injEq, Addr.mk.injEq] at e1 e2
              obtain ⟨rfl, -, -⟩ := e1
              obtain ⟨rfl, rfl, -⟩ := e2
              have e3 : wr.cell? ⟨gi, j, none⟩ = some (.slice a1' n1' c1') := q1'
              rw [q1] at e3
              have e4 : wr.cell? ⟨gb, off + j, none⟩ = some (.slice fa' (ls.getD j []).length fc') := q2'
              rw [q2] at e4
              simp only [Option.some.injEq, Value.slice.injEq] at e3 e4
              obtain ⟨rfl, rfl, rfl⟩ := e3
              obtain ⟨rfl, -, rfl⟩ := e4
              have HIN := hide hint
              have hg1 : gi < wr.heap.size := World.block_lt_of_cell? wr _ q1
              have hg2 : gb < wr.heap.size := World.block_lt_of_cell? wr _ q2
              generalize (ls.getD j []).length = ul at *
              clear hint q1' q2' hbk hbx hdr
              go_wp2_with fail
              go_region_held3 (fun w' => w'.cell? ⟨gi, j, none⟩ = some (.slice a1 n1 c1) ∧ w'.cell? ⟨gb, off + j, none⟩ = some (.slice fa ul fc)) (first | exact ⟨q1, q2⟩ | exact ⟨z1, z2⟩)
                ((go_at_call 23; refine (HIN.out).mono ?_; rintro e w9 ⟨rfl, hb9⟩; have z1 : w9.cell? ⟨gi, j, none⟩ = some (.slice a1 n1 c1) := (hb9.cell (p := ⟨gi, j, none⟩) hg1).trans q1; have z2 : w9.cell? ⟨gb, off + j, none⟩ = some (.slice fa ul fc) := (hb9.cell (p := ⟨gb, off + j, none⟩) hg2).trans q2; have HN9 : Hid (BkB false w9 w2.heap.size U' (r + 1) ∧ Below w2.heap.size w2 w9) := hide (by have hd2 := ((Below.refl wr.heap.size wr).drew).trans hb9; exact ⟨HBX.out.1.below hd2, HBX.out.2.trans (hd2.mono HBX.out.2.size)⟩); clear hb9))
              all_goals
                go_wp2_with fail
                go_roundw
                case rel => exact ⟨j + 1, by omega, by go_num, HN9.out.1, HN9.out.2⟩
                case measure => simp [intOf]; omega
            · clear hbk hbx
              go_wp2_with fail
              go_roundw
              case rel => exact ⟨r + 1, _, by omega, by go_num, HBX.out.1, HB6.out.1, HBX.out.2⟩
              case measure => simp [intOf]; omega
        · have HF := hide (HB2.out.trans (hbe.mono HB2.out.size))
          clear hbe
          go_wp2_with fail
          go_ret
          exact ⟨rfl, HF.out⟩
theorem unions_any {w : World} {v : Value} {ls : List (List Nat)} (n : Int) (hT : TabAt w) (hv : LSl w v ls) (hll : ls.length ≤ 6000000000000) (hlen : ∀ i, i < ls.length → (ls.getD i []).length ≤ 17592186044416) :
    Calls Tryd.prog 5 #[.int .i64 n, v] w fun e w' => e = .returned (.bool true) ∧ Below w.heap.size w w' := by
  obtain ⟨F, hF⟩ := hv.fn
  have hLS : ∀ x iv vs, CpA w.heap.size x iv vs F ls ls.length → LSl x iv ls := fun x iv vs h => h.lsl fun i hi => by
    obtain ⟨a, cap, -, -, -, h4, -⟩ := hF
    exact ⟨(h4 i hi).lt, hlen i hi⟩
  by_cases hn : 1 ≤ n ∧ n ≤ 65536
  · obtain ⟨m, rfl⟩ : ∃ m : Nat, n = (m : Int) := ⟨n.toNat, by omega⟩
    have h1 : 1 ≤ m := by omega
    have h2 : m ≤ 65536 := by omega
    by_cases hall : ∀ i, i < ls.length → cwErr m (ls.getD i []) = 0
    · refine unions_gen (m : Int) (wds (orAll ls) (nW m)) 0 hF hll (by rw [wds_len]; unfold nW; omega) hlen (fun x hx => rUnion_any m h1 h2 (hv.below hx) hall) fun x iv vs hx hcp y hy => ?_
      have hb : Below w.heap.size w y := hx.trans (hy.mono hx.size)
      refine (Union_any m (hT.below hb) h1 h2 ((hLS x iv vs hcp).below hy) hall).mono ?_
      rintro e w' ⟨av, rfl, q1, q2, q3⟩
      exact ⟨av, rfl, by rw [wds_len]; exact row_zeroU q1, q2, q3, fun b e => (q1.lt b e).1⟩
    · have hex : ∃ k, k < ls.length ∧ cwErr m (ls.getD k []) ≠ 0 ∧ ∀ i, i < k → cwErr m (ls.getD i []) = 0 := by
        have h3 : ∃ k, k < ls.length ∧ cwErr m (ls.getD k []) ≠ 0 := Classical.byContradiction fun hc => hall fun i hi => Classical.byContradiction fun e => hc ⟨i, hi, e⟩
        obtain ⟨k, z1, z2, z3⟩ := least_bad (p := fun k => cwErr m (ls.getD k []) ≠ 0) h3
        exact ⟨k, z1, z2, fun i hi => Classical.byContradiction (z3 i hi)⟩
      obtain ⟨k, hk1, hk2, hk3⟩ := hex
      refine unions_gen (m : Int) [] ((cwErr m (ls.getD k []) : Nat) : Int) hF hll (by simp) hlen (fun x hx => (rUnion_bad m k h1 h2 (hv.below hx) hk1 hk3 hk2).mono ?_) fun x iv vs hx hcp y hy => ?_
      · rintro e w' ⟨rfl, q⟩
        exact ⟨_, rfl, nilW _, q⟩
      · have hb : Below w.heap.size w y := hx.trans (hy.mono hx.size)
        refine (Union_bad m k (hT.below hb) h1 h2 ((hLS x iv vs hcp).below hy) hk1 hk3 hk2).mono ?_
        rintro e w' ⟨rfl, q⟩
        exact ⟨_, rfl, ⟨rfl, .inl ⟨rfl, rfl⟩⟩, nilW _, q, fun b e => by simp [Value.ownBlock] at e⟩
  · refine unions_gen n [] 1 hF hll (by simp) hlen (fun x hx => (rUnion_no n hn (hv.below hx)).mono ?_) fun x iv vs hx hcp y hy => ?_
    · rintro e w' ⟨rfl, q⟩
      exact ⟨_, rfl, nilW _, q⟩
    · refine (Union_no n hn ((hLS x iv vs hcp).below hy)).mono ?_
      rintro e w' ⟨rfl, q⟩
      exact ⟨_, rfl, ⟨rfl, .inl ⟨rfl, rfl⟩⟩, nilW _, q, fun b e => by simp [Value.ownBlock] at e⟩
end Go.Proofs.YtglajdmkbckjjaaDoor
namespace Go.Proofs.YtglajdmkbckjjaaDoor
open Go.ChangeShapes Go.WideShapes Go.ChangeAt Go.RowKit
set_option linter.unusedVariables false
set_option linter.unusedSimpArgs false
set_option maxRecDepth 20000

theorem own : ownKnob Tryd.prog.godebug = none := by kernel_rfl
theorem laidOut : laidOutB Tryd.prog = true := by kernel_rfl
theorem gTab : Tryd.prog.globalNamed "math/bits.deBruijn64tab" = some 0 := by kernel_rfl
theorem gTabty : (Tryd.prog.globals[0]?).map (·.type) = some 104 := by kernel_rfl
theorem cellsTab : Tryd.prog.cellsOf 104 = 64 := by kernel_rfl
theorem cells8 : Tryd.prog.cellsOf 5 = 1 := by kernel_rfl
theorem cellsInt : Tryd.prog.cellsOf 3 = 1 := by kernel_rfl
theorem cellsBool : Tryd.prog.cellsOf 4 = 1 := by kernel_rfl
theorem cellsWords : Tryd.prog.cellsOf 22 = 1 := by kernel_rfl
theorem cellsU64 : Tryd.prog.cellsOf 42 = 1 := by kernel_rfl
theorem bytesU64 : Tryd.prog.bytesOf 42 = 8 := by kernel_rfl
theorem cellsActs : Tryd.prog.cellsOf 68 = 1 := by kernel_rfl
theorem cellsAct : Tryd.prog.cellsOf 122 = 3 := by kernel_rfl
theorem cellsOp : Tryd.prog.cellsOf 70 = 8 := by kernel_rfl

def listed : List (String × DataW Unit) := [("math/bits.deBruijn64tab", Rows.laid_math_bits_deBruijn64tab)]
theorem tab_of_laid {W : World} (h : laidMetH Tryd.prog listed W) : TabAt W := by
  have h' : laidMet Tryd.prog [("math/bits.deBruijn64tab", Lib.tabData .u8 (Lib.deBruijn64tab.map fun n : Nat => (n : Int)))] W := h
  have h1 := Lib.tabIs_of_head gTab gTabty Tryd.underlying104 Tryd.underlying5 cells8 cellsTab h'
  intro i hi
  have hl : Lib.deBruijn64tab.length = 64 := by decide
  rw [h1.cell gTab i (by simpa [hl] using hi)]
  simp [List.getD, hi, hl]
def relay (cs : List Value) : Obj → Obj
  | .cells _ t frozen => .cells cs.toArray t frozen
  | o => o
/-- a world for the witness: the settled one, with the table in it -/
def laidIn (w : World) : World := { w with heap := w.heap.modify 0 (relay (Lib.deBruijn64tab.map fun n : Nat => .int .u8 (n : Int))) }

def IsRow (k : IntKind) (w : World) (a : Option Addr) (len cap : Nat) (zs : List Int) : Prop :=
  (a = none ∧ len = 0 ∧ cap = 0 ∧ zs = []) ∨
  ∃ x, a = some x ∧ len ≤ cap ∧ cap ≤ maxLen ∧ zs.length = cap ∧ (∀ i, i < zs.length → w.cell? (x.add i) = some (.int k (zs.getD i 0))) ∧ ∀ n ∈ zs, (Lit.int k n).wf = true
theorem wsl_of_isrow {w : World} {a : Option Addr} {len cap : Nat} {zs : List Int} (h : IsRow .u64 w a len cap zs) : ∃ l : List Nat, l.length = len ∧ WSl w (.slice a len cap) l := by
  rcases h with ⟨rfl, rfl, rfl, rfl⟩ | ⟨x, rfl, hl, hm, hz, hcell, hwz⟩
  · exact ⟨[], rfl, none, 0, rfl, Nat.le_refl _, by unfold maxLen; omega, fun _ => rfl, by simp, by simp⟩
  · have hlen : ((zs.take len).map Int.toNat).length = len := by simp; omega
    refine ⟨(zs.take len).map Int.toNat, hlen, _, cap, by rw [hlen], by omega, hm, by simp, ?_, ?_⟩
    · intro b hb
      obtain ⟨n, hn, rfl⟩ := List.mem_map.1 hb
      have := bounds_u64 (hwz n (List.mem_of_mem_take hn))
      omega
    · intro hp
      obtain ⟨b, off, rfl, hc⟩ := ints_at hcell (by omega)
      refine ⟨b, off, rfl, fun i hi => ?_⟩
      rw [hc i (by omega)]
      have hi' : i < zs.length := by omega
      have hb := bounds_u64 (hwz zs[i] (List.getElem_mem hi'))
      have hi2 : i < len := by omega
      have e2 : ((zs.take len).map Int.toNat).getD i 0 = zs[i].toNat := by
        simp [List.getD, hi', hi2]
      have e3 : zs.getD i 0 = zs[i] := by simp [List.getD, hi']
      rw [e2, e3, Int.toNat_of_nonneg hb.1]

/-- a list of words, of which the weights are known -/
theorem open_field {H : Type} {enc : TypeId × Value → H} {W : World} {n : Nat} {v : Value} {y : DataW H × List MemPlace} (h : DataW.trod enc Tryd.prog W 0 (fun _ => true) true n 22 [v] = some y) (hw : ∀ k ∈ y.1.weights Tryd.prog 22, k ≤ reachBytes) : ∃ l : List Nat, WSl W v l ∧ l.length ≤ 17592186044416 := by
  rcases open_ints Tryd.underlying22 Tryd.underlying42 (by kernel_rfl) h with ⟨hcs, hy⟩ | ⟨x, len, cap, zs, hcs, _, hl, hm, hz, hx, hcell, hwz⟩
  · simp at hcs
    subst hcs
    exact ⟨[], ⟨none, 0, rfl, Nat.le_refl _, by unfold maxLen; omega, fun _ => rfl, by simp, by simp⟩, Nat.zero_le _⟩
  · simp at hcs
    subst hcs
    simp only [if_true] at hz
    obtain ⟨l, hll, hb⟩ := wsl_of_isrow (.inr ⟨_, rfl, hl, hm, hz, hcell, hwz⟩)
    subst hx
    refine ⟨l, hb, ?_⟩
    have := hw ((zs.length) * 8) (by
      simp only [DataW.weights]
      rw [Tryd.underlying22]
      simp only [lits, List.length_map, List.length_take, List.length_drop, bytesU64]
      rw [show min len zs.length + (zs.length - len) = zs.length by omega]
      exact List.mem_cons_self)
    unfold reachBytes at this
    omega
theorem open_words {H : Type} {enc : TypeId × Value → H} {W : World} {base : Nat} {v : Value} {d : DataW H} {p : List MemPlace} {ts : List TypeId} {ds : List (DataW H)} (j : Nat) (hts : ts[j]? = some 22) (hds : ds[j]? = some d)
    (hsz : (DataW.weightsEach Tryd.prog ts ds).all (· ≤ reachBytes) = true) (hok : Value.okWide Tryd.prog W .any base 22 v) (h1 : DataW.Trod enc Tryd.prog W 0 (fun _ => true) true 22 v d p) : ∃ l : List Nat, WSl W v l ∧ l.length ≤ 17592186044416 := by
  obtain ⟨a1, len1, cap1, rfl⟩ := okWide_slice Tryd.underlying22 hok
  obtain ⟨fuel, hf⟩ := h1
  refine open_field hf fun k hk => ?_
  have := List.all_eq_true.1 hsz k (DataW.weights_mem_each hts hds k hk)
  simpa using this
theorem trod_place_lt {H : Type} {enc : TypeId × Value → H} {W : World} {t : TypeId} {v : Value} {d : DataW H} {p : List MemPlace} (h1 : DataW.Trod enc Tryd.prog W 0 (fun _ => true) true t v d p) : ∀ x ∈ p, x.block < W.heap.size := by
  obtain ⟨m, hm⟩ := h1; exact DataW.trod_lt m _ _ _ hm
theorem words_again {H : Type} {enc : TypeId × Value → H} {W W' : World} {v : Value} {d : DataW H} {p : List MemPlace} (h1 : DataW.Trod enc Tryd.prog W 0 (fun _ => true) true 22 v d p) (bel : Below W.heap.size W W') :
    DataW.Trod enc Tryd.prog W' 0 (fun b => decide (b < W.heap.size)) true 22 v d p := Below.trod laidOut (by kernel_rfl) (of_decide_eq_true (by kernel_rfl)) h1 bel (trod_place_lt h1)
theorem ops_again {H : Type} {enc : TypeId × Value → H} {W W' : World} {v : Value} {d : DataW H} {p : List MemPlace} (h1 : DataW.Trod enc Tryd.prog W 0 (fun _ => true) true 23 v d p) (bel : Below W.heap.size W W') :
    DataW.Trod enc Tryd.prog W' 0 (fun b => decide (b < W.heap.size)) true 23 v d p := Below.trod laidOut (by kernel_rfl) (of_decide_eq_true (by kernel_rfl)) h1 bel (trod_place_lt h1)

theorem weights_all {H : Type} {P : Program} {e : TypeId} : ∀ {l : List (DataW H)} {d : DataW H}, d ∈ l → ∀ n ∈ d.weights P e, n ∈ DataW.weightsAll P e l
  | [], _, h => by cases h
  | x :: r, d, h => fun n hn => by
    simp only [DataW.weightsAll, List.mem_append]
    rcases List.mem_cons.1 h with rfl | h
    · exact .inl hn
    · exact .inr (weights_all h n hn)

/-- a list of acts -/
theorem open_acts {H : Type} {enc : TypeId × Value → H} {W : World} {fuel : Nat} {v : Value} {y : DataW H × List MemPlace} (h : DataW.trod enc Tryd.prog W 0 (fun _ => true) true fuel 68 [v] = some y) : ∃ l : List ActV, ASl W v l := by
  rcases Go.Deep.open_slice Tryd.underlying68 h with ⟨hcs, _⟩ | ⟨a, len, cap, m, n, D, Pl, hcs, _, hl, hm, hmm, hx, hel⟩
  · simp at hcs
    subst hcs
    exact ⟨[], none, 0, rfl, Nat.le_refl _, by unfold maxLen; omega, by simp, by simp⟩
  · simp at hcs
    subst hcs
    simp only [if_true] at hmm
    subst hmm
    have each : ∀ i, i < len → ∃ s : ActV, (i64ok s.kind ∧ i64ok s.a ∧ i64ok s.b) ∧ W.cell? (a.add (i * 3)) = some (.int .i64 s.kind) ∧ W.cell? (a.add (i * 3 + 1)) = some (.int .i64 s.a) ∧ W.cell? (a.add (i * 3 + 2)) = some (.int .i64 s.b) := by
      intro i hi
      obtain ⟨cs', h1, h2⟩ := hel i (by omega)
      rw [cellsAct] at h1
      obtain ⟨_, hlen, hcell⟩ := World.cells?_some h1
      obtain ⟨xs, k, hk, hxy, _, hxl, hfd⟩ := DataW.trod_struct Tryd.underlying122 h2
      match xs, hxl, cs', hlen with
      | [y0, y1, y2], _, [v0, v1, v2], _ =>
        have g0 := hfd 0 _ rfl
        have g1 := hfd 1 _ rfl
        have g2 := hfd 2 _ rfl
        simp [cellsInt] at g0 g1 g2
        have e0 := hcell 0 (by omega)
        have e1 := hcell 1 (by omega)
        have e2 := hcell 2 (by omega)
        rw [Go.Deep.add_add] at e0 e1 e2
        obtain ⟨z0, hz0, _, wf0⟩ := DataW.trod_int Tryd.underlying3 g0
        obtain ⟨z1, hz1, _, wf1⟩ := DataW.trod_int Tryd.underlying3 g1
        obtain ⟨z2, hz2, _, wf2⟩ := DataW.trod_int Tryd.underlying3 g2
        simp at hz0 hz1 hz2
        subst hz0 hz1 hz2
        exact ⟨⟨z0, z1, z2⟩, ⟨bounds_i64 wf0, bounds_i64 wf1, bounds_i64 wf2⟩, by simpa using e0, by simpa using e1, by simpa using e2⟩
    haveI : Inhabited ActV := ⟨⟨0, 0, 0⟩⟩
    obtain ⟨f, hfa⟩ := Go.Deep.choose_lt each
    refine ⟨(List.range len).map f, some a, m, by simp, by simpa using hl, hm, ?_, ?_⟩
    · intro s hs
      obtain ⟨i, hi, rfl⟩ := List.mem_map.1 hs
      exact (hfa i (List.mem_range.1 hi)).1
    · intro hpos
      simp only [List.length_map, List.length_range] at hpos
      obtain ⟨b, off, spot⟩ := a
      have hspot : spot = none := by simpa [Addr.add] using World.cell?_spot (hfa 0 hpos).2.1
      subst hspot
      refine ⟨b, off, rfl, fun i hi => ?_⟩
      simp only [List.length_map, List.length_range] at hi
      have h := hfa i hi
      simp only [List.getElem_map, List.getElem_range]
      refine ⟨?_, ?_, ?_⟩
      · rw [← Addr.add_lit]; exact h.2.1
      · rw [Nat.add_assoc, ← Addr.add_lit]; exact h.2.2.1
      · rw [Nat.add_assoc, ← Addr.add_lit]; exact h.2.2.2

theorem open_ops {H : Type} {enc : TypeId × Value → H} {W : World} {base : Nat} {v : Value} {d : DataW H} {p : List MemPlace} {ts : List TypeId} {ds : List (DataW H)} (j : Nat) (hts : ts[j]? = some 23) (hds : ds[j]? = some d)
    (hsz : (DataW.weightsEach Tryd.prog ts ds).all (· ≤ reachBytes) = true)
    (hok : Value.okWide Tryd.prog W .any base 23 v) (h1 : DataW.Trod enc Tryd.prog W 0 (fun _ => true) true 23 v d p) : ∃ os : List OpV, OSl W v os := by
  obtain ⟨a1, len1, cap1, rfl⟩ := okWide_slice Tryd.underlying23 hok
  obtain ⟨fuel, hf⟩ := h1
  rcases Go.Deep.open_slice Tryd.underlying23 hf with ⟨hcs, _⟩ | ⟨a, len, cap, m, n, D, Pl, hcs, _, hl, hm, hmm, hx, hel⟩
  · simp [Value.cells] at hcs
    obtain ⟨rfl, rfl, rfl⟩ := hcs
    exact ⟨[], none, 0, rfl, Nat.le_refl _, by unfold maxLen; omega, by simp, by simp⟩
  · simp [Value.cells] at hcs
    obtain ⟨rfl, rfl, rfl⟩ := hcs
    simp only [if_true] at hmm
    subst hmm
    have hwD : ∀ i, i < len1 → ∀ k ∈ (D i).weights Tryd.prog 70, k ≤ reachBytes := fun i hi k hk => by
      have h0 := List.all_eq_true.1 hsz k (DataW.weights_mem_each hts hds k (by
        simp only [Prod.mk.injEq] at hx
        rw [hx.1]
        simp only [DataW.weights]
        rw [Tryd.underlying23]
        refine List.mem_cons_of_mem _ (List.mem_append_left _ (weights_all (d := D i) ?_ k hk))
        exact List.mem_map.2 ⟨i, List.mem_range.2 hi, rfl⟩))
      simpa using h0
    have each : ∀ i, i < len1 → ∃ s : OpV, OpOk W s ∧ W.cell? (a.add (i * 8)) = some (.int .i64 s.kind) ∧ W.cell? (a.add (i * 8 + 1)) = some (.bool s.sec) ∧ W.cell? (a.add (i * 8 + 2)) = some (.int .i64 s.a) ∧ W.cell? (a.add (i * 8 + 3)) = some (.int .i64 s.b) ∧
        W.cell? (a.add (i * 8 + 4)) = some s.wv ∧ W.cell? (a.add (i * 8 + 5)) = some s.bv ∧ W.cell? (a.add (i * 8 + 6)) = some s.av ∧ W.cell? (a.add (i * 8 + 7)) = some (.bool s.again) := by
      intro i hi
      obtain ⟨cs', h1, h2⟩ := hel i (by omega)
      have hwi := hwD i hi
      rw [cellsOp] at h1
      obtain ⟨_, hlen, hcell⟩ := World.cells?_some h1
      obtain ⟨xs, k, hk, hxy, _, hxl, hfd⟩ := DataW.trod_struct Tryd.underlying70 h2
      match xs, hxl, cs', hlen with
      | [y0, y1, y2, y3, y4, y5, y6, y7], _, [v0, v1, v2, v3, v4, v5, v6, v7], _ =>
        have g0 := hfd 0 _ rfl
        have g1 := hfd 1 _ rfl
        have g2 := hfd 2 _ rfl
        have g3 := hfd 3 _ rfl
        have g4 := hfd 4 _ rfl
        have g5 := hfd 5 _ rfl
        have g6 := hfd 6 _ rfl
        have g7 := hfd 7 _ rfl
        simp [cellsInt, cellsBool, cellsWords, cellsActs] at g0 g1 g2 g3 g4 g5 g6 g7
        have e0 := hcell 0 (by omega)
        have e1 := hcell 1 (by omega)
        have e2 := hcell 2 (by omega)
        have e3 := hcell 3 (by omega)
        have e4 := hcell 4 (by omega)
        have e5 := hcell 5 (by omega)
        have e6 := hcell 6 (by omega)
        have e7 := hcell 7 (by omega)
        rw [Go.Deep.add_add] at e0 e1 e2 e3 e4 e5 e6 e7
        obtain ⟨z0, hz0, _, wf0⟩ := DataW.trod_int Tryd.underlying3 g0
        obtain ⟨z1, hz1, _⟩ := DataW.trod_bool Tryd.underlying4 g1
        obtain ⟨z2, hz2, _, wf2⟩ := DataW.trod_int Tryd.underlying3 g2
        obtain ⟨z3, hz3, _, wf3⟩ := DataW.trod_int Tryd.underlying3 g3
        obtain ⟨z7, hz7, _⟩ := DataW.trod_bool Tryd.underlying4 g7
        simp at hz0 hz1 hz2 hz3 hz7
        subst hz0 hz1 hz2 hz3 hz7
        simp only [Prod.mk.injEq] at hxy
        obtain ⟨l, hb, hbl⟩ := open_field g4 (fun k hk => hwi k (by
          rw [hxy.1]
          simp only [DataW.weights]
          rw [Tryd.underlying70]
          exact DataW.weights_mem_each (j := 4) rfl rfl k hk))
        obtain ⟨bl, hbb⟩ := open_acts g5
        obtain ⟨al, hab⟩ := open_acts g6
        exact ⟨⟨z0, z1, z2, z3, v4, l, v5, bl, v6, al, z7⟩, ⟨hb, hbl, hbb, hab, bounds_i64 wf0, bounds_i64 wf2, bounds_i64 wf3⟩, by simpa using e0, by simpa using e1, by simpa using e2, by simpa using e3, by simpa using e4, by simpa using e5, by simpa using e6, by simpa using e7⟩
    haveI : Inhabited OpV := ⟨⟨0, false, 0, 0, .slice none 0 0, [], .slice none 0 0, [], .slice none 0 0, [], false⟩⟩
    obtain ⟨f, hfa⟩ := Go.Deep.choose_lt each
    refine ⟨(List.range len1).map f, some a, m, by simp, by simpa using hl, hm, ?_, ?_⟩
    · intro s hs
      obtain ⟨i, hi, rfl⟩ := List.mem_map.1 hs
      exact (hfa i (List.mem_range.1 hi)).1
    · intro hpos
      simp only [List.length_map, List.length_range] at hpos
      obtain ⟨b, off, spot⟩ := a
      have hspot : spot = none := by simpa [Addr.add] using World.cell?_spot (hfa 0 hpos).2.1
      subst hspot
      refine ⟨b, off, rfl, fun i hi => ?_⟩
      simp only [List.length_map, List.length_range] at hi
      obtain ⟨_, q0, q1, q2, q3, q4, q5, q6, q7⟩ := hfa i hi
      simp only [List.getElem_map, List.getElem_range]
      refine ⟨?_, ?_, ?_, ?_, ?_, ?_, ?_, ?_⟩
      · rw [← Addr.add_lit]; exact q0
      · rw [Nat.add_assoc, ← Addr.add_lit]; exact q1
      · rw [Nat.add_assoc, ← Addr.add_lit]; exact q2
      · rw [Nat.add_assoc, ← Addr.add_lit]; exact q3
      · rw [Nat.add_assoc, ← Addr.add_lit]; exact q4
      · rw [Nat.add_assoc, ← Addr.add_lit]; exact q5
      · rw [Nat.add_assoc, ← Addr.add_lit]; exact q6
      · rw [Nat.add_assoc, ← Addr.add_lit]; exact q7
end Go.Proofs.YtglajdmkbckjjaaDoor
namespace Go.Proofs.YtglajdmkbckjjaaDoor
open Go.ChangeShapes Go.WideShapes Go.ChangeAt Go.RowKit
set_option linter.unusedVariables false
set_option linter.unusedSimpArgs false
set_option maxRecDepth 20000

theorem bytesWords : Tryd.prog.bytesOf 22 = 24 := by kernel_rfl
theorem lists_again {H : Type} {enc : TypeId × Value → H} {W W' : World} {v : Value} {d : DataW H} {p : List MemPlace} (h1 : DataW.Trod enc Tryd.prog W 0 (fun _ => true) true 44 v d p) (bel : Below W.heap.size W W') :
    DataW.Trod enc Tryd.prog W' 0 (fun b => decide (b < W.heap.size)) true 44 v d p := Below.trod laidOut (by kernel_rfl) (of_decide_eq_true (by kernel_rfl)) h1 bel (trod_place_lt h1)
theorem open_lists {H : Type} {enc : TypeId × Value → H} {W : World} {base : Nat} {v : Value} {d : DataW H} {p : List MemPlace} {ts : List TypeId} {ds : List (DataW H)} (j : Nat) (hts : ts[j]? = some 44) (hds : ds[j]? = some d)
    (hsz : (DataW.weightsEach Tryd.prog ts ds).all (· ≤ reachBytes) = true)
    (hok : Value.okWide Tryd.prog W .any base 44 v) (h1 : DataW.Trod enc Tryd.prog W 0 (fun _ => true) true 44 v d p) : ∃ ls : List (List Nat), LSl W v ls ∧ (ls.length ≤ 6000000000000 ∧ ∀ i, i < ls.length → (ls.getD i []).length ≤ 17592186044416) := by
  obtain ⟨a1, len1, cap1, rfl⟩ := okWide_slice Tryd.underlying44 hok
  obtain ⟨fuel, hf⟩ := h1
  rcases Go.Deep.open_slice Tryd.underlying44 hf with ⟨hcs, _⟩ | ⟨a, len, cap, m, n, D, Pl, hcs, _, hl, hm, hmm, hx, hel⟩
  · simp [Value.cells] at hcs
    obtain ⟨rfl, rfl, rfl⟩ := hcs
    exact ⟨[], ⟨none, 0, rfl, Nat.le_refl _, by unfold maxLen; omega, by simp⟩, by simp, by simp⟩
  · simp [Value.cells] at hcs
    obtain ⟨rfl, rfl, rfl⟩ := hcs
    simp only [if_true] at hmm
    subst hmm
    have hwD : ∀ i, i < len1 → ∀ k ∈ (D i).weights Tryd.prog 22, k ≤ reachBytes := fun i hi k hk => by
      have h0 := List.all_eq_true.1 hsz k (DataW.weights_mem_each hts hds k (by
        simp only [Prod.mk.injEq] at hx
        rw [hx.1]
        simp only [DataW.weights]
        rw [Tryd.underlying44]
        refine List.mem_cons_of_mem _ (List.mem_append_left _ (weights_all (d := D i) ?_ k hk))
        exact List.mem_map.2 ⟨i, List.mem_range.2 hi, rfl⟩))
      simpa using h0
    have each : ∀ i, i < len1 → ∃ s : Value × List Nat, WSl W s.1 s.2 ∧ s.2.length ≤ 17592186044416 ∧ W.cell? (a.add i) = some s.1 := by
      intro i hi
      obtain ⟨cs', h1, h2⟩ := hel i (by omega)
      rw [cellsWords] at h1
      obtain ⟨_, hlen, hcell⟩ := World.cells?_some h1
      match cs', hlen with
      | [v0], _ =>
        have e0 := hcell 0 (by omega)
        rw [Go.Deep.add_add] at e0
        obtain ⟨l, hb, hbl⟩ := open_field h2 (fun k hk => hwD i hi k hk)
        exact ⟨⟨v0, l⟩, hb, hbl, by simpa using e0⟩
    haveI : Inhabited (Value × List Nat) := ⟨⟨.slice none 0 0, []⟩⟩
    obtain ⟨f, hfa⟩ := Go.Deep.choose_lt each
    have hgd : ∀ i, i < len1 → ((List.range len1).map fun i => (f i).2).getD i [] = (f i).2 := fun i hi => by simp [List.getD, hi]
    refine ⟨(List.range len1).map fun i => (f i).2, ⟨some a, m, by simp, by simpa using hl, hm, fun hpos => ?_⟩, ?_, fun i hi => ?_⟩
    · simp only [List.length_map, List.length_range] at hpos
      obtain ⟨b, off, spot⟩ := a
      have hspot : spot = none := by simpa [Addr.add] using World.cell?_spot (hfa 0 hpos).2.2
      subst hspot
      refine ⟨b, off, rfl, fun i hi => ?_⟩
      simp only [List.length_map, List.length_range] at hi
      have h := hfa i hi
      refine ⟨(f i).1, ?_, by rw [hgd i hi]; exact h.1⟩
      rw [← Addr.add_lit]; exact h.2.2
    · simp only [Prod.mk.injEq] at hx
      have h0 := List.all_eq_true.1 hsz _ (DataW.weights_mem_each hts hds _ (by
        rw [hx.1]
        simp only [DataW.weights]
        rw [Tryd.underlying44]
        exact List.mem_cons_self))
      simp only [List.length_map, List.length_range, bytesWords, decide_eq_true_eq] at h0 ⊢
      unfold reachBytes at h0
      omega
    · simp only [List.length_map, List.length_range] at hi
      rw [hgd i hi]
      exact (hfa i hi).2.1
end Go.Proofs.YtglajdmkbckjjaaDoor
