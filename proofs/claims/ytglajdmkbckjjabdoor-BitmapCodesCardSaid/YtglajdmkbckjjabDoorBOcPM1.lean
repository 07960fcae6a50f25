import Derived.Test.YtglajdmkbckjjabDoorBOcPM0
import Derived.Test.YtglajdmkbckjjabDoorBLayL
import Derived.Test.YtglajdmkbckjjabDoorCards
import Derived.Test.YtglajdmkbckjjabDoorTie
import Derived.WalkKit
import Derived.ProofKit
import Derived.OpenShut
import Derived.ChangeOld
import Derived.SizedLaws
import Derived.ChangeSlices
import Derived.Deep.Slices
import Derived.ChangeSame
import Derived.Deep.DeepHandedRow
import Derived.Lib.LaidTab
import Derived.Test.YtglajdmkbckjjabDoorBRd
namespace Go.Proofs.YtglajdmkbckjjabDoor
open Go.RowKit Go.Shelf
set_option linter.unusedVariables false
set_option linter.unusedSimpArgs false
set_option maxRecDepth 20000

theorem own_bel8 {w w' : World} {v : Value} {l : List Nat} (h : w.ownsRow 0 5 1 v l.length (l.map byV)) (hb : Below w.heap.size w w') : w'.ownsRow 0 5 1 v l.length (l.map byV) := rowK8 h fun b e => hb.block b (h.lt b e).2
def tri {α : Type} (a b c : α) : Nat → α
  | 0 => a
  | 1 => b
  | _ => c
theorem lt3 {k : Nat} (h : k < 3) : k = 0 ∨ k = 1 ∨ k = 2 := by omega
theorem Gr.start {w0 w : World} {av bv cv : Value} {l1 l2 l3 : List Nat} {s0 s1 s2 : Nat} (hb : Below w0.heap.size w0 w) (oa : w.ownsRow 0 5 1 av l1.length (l1.map byV)) (ob : w.ownsRow 0 5 1 bv l2.length (l2.map byV)) (oc : w.ownsRow 0 5 1 cv l3.length (l3.map byV))
    (h1 : ∀ x ∈ l1, x < 256) (h2 : ∀ x ∈ l2, x < 256) (h3 : ∀ x ∈ l3, x < 256) (z0 : w0.heap.size ≤ s0) (z1 : s0 ≤ s1) (z2 : s1 ≤ s2) (za : ∀ b, av.ownBlock = some b → s0 ≤ b ∧ b < s1) (zb : ∀ b, bv.ownBlock = some b → s1 ≤ b ∧ b < s2) (zc : ∀ b, cv.ownBlock = some b → s2 ≤ b) :
    Gr w0 (w.alloc (.cells #[av, bv, cv] 23)) w.heap.size (w.heap.size + 1) (tri av bv cv) (tri av bv cv) (fun k => (tri l1 l2 l3 k).length) (tri l1 l2 l3) := by
  have hal : Below w.heap.size w (w.alloc (.cells #[av, bv, cv] 23)) := (Below.refl _ _).alloc (Nat.le_refl _) _
  have hs := hb.size
  have own : ∀ k, k < 3 → w.ownsRow 0 5 1 (tri av bv cv k) (tri l1 l2 l3 k).length ((tri l1 l2 l3 k).map byV) := fun k hk => by
    rcases lt3 hk with rfl | rfl | rfl
    · exact oa
    · exact ob
    · exact oc
  have lt : ∀ k, k < 3 → ∀ x ∈ tri l1 l2 l3 k, x < 256 := fun k hk => by
    rcases lt3 hk with rfl | rfl | rfl
    · exact h1
    · exact h2
    · exact h3
  have bl : ∀ k, k < 3 → ∀ b, (tri av bv cv k).ownBlock = some b → w0.heap.size ≤ b ∧ b < w.heap.size := fun k hk b e => by
    have hlt := ((own k hk).lt b e).2
    rcases lt3 hk with rfl | rfl | rfl
    · have := za b e
      exact ⟨by omega, hlt⟩
    · have := zb b e
      exact ⟨by omega, hlt⟩
    · have := zc b e
      exact ⟨by omega, hlt⟩
  have ap : ∀ j k, j < 3 → k < 3 → j ≠ k → ∀ b, (tri av bv cv j).ownBlock = some b → (tri av bv cv k).ownBlock ≠ some b := fun j k hj hk hne b e1 e2 => by
    rcases lt3 hj with rfl | rfl | rfl <;> rcases lt3 hk with rfl | rfl | rfl
    · exact hne rfl
    · have := za b e1; have := zb b e2; omega
    · have := za b e1; have := zc b e2; omega
    · have := zb b e1; have := za b e2; omega
    · exact hne rfl
    · have := zb b e1; have := zc b e2; omega
    · have := zc b e1; have := za b e2; omega
    · have := zc b e1; have := zb b e2; omega
    · exact hne rfl
  refine ⟨hb.trans (hal.mono hs), Go.heap_alloc_new _ _, fun k hk => rowK8 (own k hk) fun b e => hal.block b (bl k hk b e).2, fun k hk => ⟨Nat.le_refl _, lt k hk⟩, fun k hk => ?_, fun k hk b e => ⟨(bl k hk b e).1, by have := (bl k hk b e).2; omega, .inl e⟩, ap, fun k hk b e => by have := (bl k hk b e).2; exact ⟨by omega, by omega⟩, ap, by rw [World.size_alloc]; exact Nat.le_refl _, hs, fun k hk => ?_⟩
  · rw [List.take_length]
    exact (own_csl (own k hk) (lt k hk)).blk hal
  · rcases (own k hk).2 with ⟨hv, hz⟩ | ⟨g, cap, cur, hv, _, _, c1, c2, _⟩
    · exact ⟨none, 0, by rw [hv, hz], by omega, by unfold maxLen; omega, fun p e => by cases e⟩
    · exact ⟨_, _, hv, c1, c2, fun p e => by injection e with e; exact ⟨g, e.symm⟩⟩
theorem Gr.box4 {w0 w w4 : World} {gl S i d : Nat} {V0 V : Nat → Value} {n : Nat → Nat} {L : Nat → List Nat} {v4 : Value} (h : Gr w0 w gl S V0 V n L) (hi : i < 3) (hu : Upn (w.alloc (.cells #[.int .u8 (d : Int)] 5)) w4 (V i) v4) : w4.cell? ⟨gl, i, none⟩ = some (V i) ∧ w4.frozen? ⟨gl, i, none⟩ = false := by
  have hbx := (Array.getElem?_eq_some_iff.1 h.box).1
  have hsz : (w.alloc (.cells #[.int .u8 (d : Int)] 5)).heap.size = w.heap.size + 1 := World.size_alloc ..
  have hb4 : w4.heap[gl]? = w.heap[gl]? := (hu.block gl (by omega) fun e => (h.loc i hi _ e).2.1 rfl).trans (Below.heap_alloc _ _ _ (by omega))
  obtain ⟨h1, h2⟩ := h.cell hi
  exact ⟨by rw [World.cell?_of_block hb4]; exact h1, by rw [World.frozen?_of_block hb4]; exact h2⟩
theorem Gr.appd {w0 w w4 : World} {gl S i d : Nat} {V0 V : Nat → Value} {n : Nat → Nat} {L : Nat → List Nat} {v4 : Value} (h : Gr w0 w gl S V0 V n L) (hi : i < 3) (hd : d < 256) (ho : w4.ownsRow 0 5 1 v4 ((L i).length + 1) ((L i).map byV ++ [.int .u8 (d : Int)])) (hu : Upn (w.alloc (.cells #[.int .u8 (d : Int)] 5)) w4 (V i) v4) : (∃ a c, v4 = .slice a ((L i).length + 1) c) ∧ w4.cell? ⟨gl, i, none⟩ = some (V i) ∧ w4.frozen? ⟨gl, i, none⟩ = false ∧ Hid (Gr w0 (w4.setCell ⟨gl, i, none⟩ v4) gl S V0 (upd V i v4) n (upd L i (L i ++ [d]))) := by
  obtain ⟨h1, h2⟩ := h.box4 hi hu
  refine ⟨?_, h1, h2, hide (h.app hi hd ho hu)⟩
  rcases ho.2 with ⟨hv, hz⟩ | ⟨g, cap, cur, hv, _⟩
  · exact ⟨none, 0, by rw [hv, hz]⟩
  · exact ⟨_, _, hv⟩
set_option maxHeartbeats 4000000 in
theorem late_law {w : World} {wv ov cv hv : Value} {lw lo : List Nat} (n m : Int) (hT : TabAt w) (hw : WSl w wv lw) (hwl : lw.length ≤ 17592186044416) (ho : WSl w ov lo) (hol : lo.length ≤ 17592186044416) :
    Calls Tryd.prog 22 #[.agg #[.int .i64 n, .int .i64 m, wv, ov, cv, hv]] w fun e w' => e = .returned (.bool true) ∧ Below w.heap.size w w' := by
  obtain ⟨w0, hw0⟩ : ∃ w0, w.alloc (.cells #[.int .i64 n, .int .i64 m, wv, ov, cv, hv] 54) = w0 := ⟨_, rfl⟩
  have hbw : Below w.heap.size w w0 := by rw [← hw0]; exact (Below.refl _ _).alloc (Nat.le_refl _) _
  have HX : Hid (∀ x, Below w0.heap.size w0 x → Bx x w.heap.size n m wv ov cv hv) := hide fun x hx => by rw [← hw0] at hx; exact bx_of hx
  have HBW : Hid (∀ x, Below w0.heap.size w0 x → Below w.heap.size w x) := hide fun x hx => hbw.trans (hx.mono hbw.size)
  have HW : Hid (∀ x, Below w0.heap.size w0 x → WSl x wv lw) := hide fun x hx => hw.below (HBW.out x hx)
  have HO : Hid (∀ x, Below w0.heap.size w0 x → WSl x ov lo) := hide fun x hx => ho.below (HBW.out x hx)
  have HT : Hid (∀ x, Below w0.heap.size w0 x → TabAt x) := hide fun x hx => hT.below (HBW.out x hx)
  obtain ⟨q1, hq1⟩ := eans_ex n lw
  obtain ⟨q2, hq2⟩ := eans_ex m lo
  have HQ1 := hide hq1
  have HQ2 := hide hq2
  have HCW : Hid (∀ x, Below w0.heap.size w0 x → Calls Tryd.prog 10 #[wv] x fun e w' => ∃ v', e = .returned v' ∧ Calls Tryd.prog 9 #[.int .i64 n, v'] w' (PEn w' q1) ∧ Below x.heap.size x w') := hide fun x hx => (copied_full (HW.out x hx) hwl).mono fun e w' h => by
    obtain ⟨v', rfl, -, -, hws, hb⟩ := h
    exact ⟨v', rfl, encode_all hq1 (HT.out _ (hx.trans (hb.mono hx.size))) hws, hb⟩
  have HCO : Hid (∀ x, Below w0.heap.size w0 x → Calls Tryd.prog 10 #[ov] x fun e w' => ∃ v', e = .returned v' ∧ Calls Tryd.prog 9 #[.int .i64 m, v'] w' (PEn w' q2) ∧ Below x.heap.size x w') := hide fun x hx => (copied_full (HO.out x hx) hol).mono fun e w' h => by
    obtain ⟨v', rfl, -, -, hws, hb⟩ := h
    exact ⟨v', rfl, encode_all hq2 (HT.out _ (hx.trans (hb.mono hx.size))) hws, hb⟩
  have HDW : Hid (∀ x, Below w0.heap.size w0 x → Calls Tryd.prog 17 #[.int .i64 n, wv] x (DEn x q1)) := hide fun x hx => rencode_all hq1 (HW.out x hx)
  have HDO : Hid (∀ x, Below w0.heap.size w0 x → Calls Tryd.prog 17 #[.int .i64 m, ov] x (DEn x q2)) := hide fun x hx => rencode_all hq2 (HO.out x hx)
  have hsz : w0.heap.size = w.heap.size + 1 := by rw [← hw0]; exact World.size_alloc ..
  obtain ⟨b0, b1, b2, b3, b4, b5⟩ := HX.out _ (Below.refl _ _)
  have HB0 : Hid (Below w0.heap.size w0 w0.drew) := hide (Below.refl _ _).drew
  obtain ⟨wa, wcap, rfl, -⟩ := hw
  obtain ⟨oa, ocap, rfl, -⟩ := ho
  clear hq1 hq2 hT hbw hwl hol HW HO
  obtain ⟨l1, r1⟩ := q1
  obtain ⟨l2, r2⟩ := q2
  unfold PEn at HCW HCO
  unfold DEn at HDW HDO
  dsimp only at HCW HCO HDW HDO
  go_enter Tryd.func22, Tryd.ntmps22
  go_wp2_with fail
  go_region_held3 (fun w' => w'.cell? ⟨w.heap.size, 0, none⟩ = some (.int .i64 n) ∧ w'.cell? ⟨w.heap.size, 2, none⟩ = some (.slice wa lw.length wcap)) (first | assumption | (constructor <;> assumption) | go_keep)
    (first
      | (go_at_call 10; refine (HCW.out _ HB0.out).mono ?_; rintro e w1 ⟨v1, rfl, hen, hb⟩; have HE1 := hide hen; have HB1 := hide (HB0.out.trans (hb.mono HB0.out.size)); obtain ⟨c0, c1, c2, c3, c4, c5⟩ := HX.out _ HB1.out; clear hen hb b0 b1 b2 b3 b4 b5 HB0)
      | (go_at_call 9; refine HE1.out.mono ?_; clear HE1; rintro e w2 ⟨av, rfl, hown, hb, hn⟩; obtain ⟨aa, acap, rfl, ha1, ha2, -⟩ := own_open hown; have HA2 := hide hown; have HNA := hide hn; have HSA := hide hb.size; have HB2 := hide (HB1.out.trans (hb.mono HB1.out.size)); have HB2d := hide (HB2.out.drew); obtain ⟨d0, d1, d2, d3, d4, d5⟩ := HX.out _ HB2.out; clear hown hb hn c0 c1 c2 c3 c4 c5))
  go_wp2_with fail
  go_region_held3 (fun w' => w'.cell? ⟨w.heap.size, 0, none⟩ = some (.int .i64 n) ∧ w'.cell? ⟨w.heap.size, 2, none⟩ = some (.slice wa lw.length wcap)) (first | assumption | (constructor <;> assumption) | go_keep)
    (first
      | (go_at_call 10; refine (HCW.out _ HB2d.out).mono ?_; rintro e w3 ⟨v3, rfl, hen, hb⟩; have HE3 := hide hen; have HB23 : Hid (Below w2.heap.size w2 w3) := hide ((Below.refl w2.heap.size w2).drew.trans hb); have HB3 := hide (HB2d.out.trans (hb.mono HB2d.out.size)); obtain ⟨c0, c1, c2, c3, c4, c5⟩ := HX.out _ HB3.out; clear hen hb d0 d1 d2 d3 d4 d5 HB2d)
      | (go_at_call 9; refine HE3.out.mono ?_; clear HE3; rintro e w4 ⟨bv, rfl, hown, hb, hn⟩; obtain ⟨ba, bcap, rfl, hb1, hb2, -⟩ := own_open hown; have HS34 := hide hb.size; have HA4 := hide hown; have HNB := hide hn; have HB24 := hide (HB23.out.trans (hb.mono HB23.out.size)); have HB4 := hide (HB3.out.trans (hb.mono HB3.out.size)); have HB4d := hide (HB4.out.drew); obtain ⟨d0, d1, d2, d3, d4, d5⟩ := HX.out _ HB4.out; clear hown hb hn c0 c1 c2 c3 c4 c5))
  go_wp2_with fail
  go_region_held3 (fun w' => w'.cell? ⟨w.heap.size, 1, none⟩ = some (.int .i64 m) ∧ w'.cell? ⟨w.heap.size, 3, none⟩ = some (.slice oa lo.length ocap)) (first | assumption | (constructor <;> assumption) | go_keep)
    (first
      | (go_at_call 10; refine (HCO.out _ HB4d.out).mono ?_; rintro e w5 ⟨v5, rfl, hen, hb⟩; have HE5 := hide hen; have HB45 : Hid (Below w4.heap.size w4 w5) := hide ((Below.refl w4.heap.size w4).drew.trans hb); have HB5 := hide (HB4d.out.trans (hb.mono HB4d.out.size)); obtain ⟨c0, c1, c2, c3, c4, c5⟩ := HX.out _ HB5.out; clear hen hb d0 d1 d2 d3 d4 d5 HB4d)
      | (go_at_call 9; refine HE5.out.mono ?_; clear HE5; rintro e w6 ⟨cv3, rfl, hown, hb, hn⟩; obtain ⟨ka, kcap, rfl, hk1, hk2, -⟩ := own_open hown; have HA6 := hide hown; have HNC := hide hn; have HB46 := hide (HB45.out.trans (hb.mono HB45.out.size)); have HB6 := hide (HB5.out.trans (hb.mono HB5.out.size)); obtain ⟨d0, d1, d2, d3, d4, d5⟩ := HX.out _ HB6.out; have HR1 := hide (HDW.out _ HB6.out); clear hown hb hn c0 c1 c2 c3 c4 c5))
  have HSW : Hid (w1.heap.size ≤ w2.heap.size ∧ w2.heap.size ≤ w3.heap.size ∧ w3.heap.size ≤ w4.heap.size ∧ w4.heap.size ≤ w5.heap.size ∧ w0.heap.size ≤ w1.heap.size) := hide ⟨HSA.out, HB23.out.size, HS34.out, HB45.out.size, HB1.out.size⟩
  go_wp2_with (first
    | (go_at_call 17; refine HR1.out.mono ?_; clear HR1; rintro e w7 ⟨one, rfl, hs, hb, -⟩; have HD7 := hide hs; have HB67 := hide hb; have HB7 := hide (HB6.out.trans (hb.mono HB6.out.size)); obtain ⟨c0, c1, c2, c3, c4, c5⟩ := HX.out _ HB7.out; have HR2 := hide (HDO.out _ HB7.out); clear hs hb d0 d1 d2 d3 d4 d5)
    | (go_at_call 17; refine HR2.out.mono ?_; clear HR2; rintro e w8 ⟨two, rfl, hs, hb, -⟩; have HD8 := hide hs; have HD78 := hide (HD7.out.blk hb); have HB68 := hide (HB67.out.trans (hb.mono HB67.out.size)); have HB48 := hide (HB46.out.trans (HB68.out.mono HB46.out.size)); have HB28 := hide (HB24.out.trans (HB48.out.mono HB24.out.size)); have HS1 := hide (sameB_eq ((own_csl HA2.out HQ1.out.lt).blk HB28.out) HD78.out); clear hs hb HD7 c0 c1 c2 c3 c4 c5 HB67)
    | (go_at_call 19; refine HS1.out.mono ?_; clear HS1; rintro e w9 ⟨rfl, hb⟩; have HB89 := hide hb; have HB49 := hide (HB48.out.trans (hb.mono HB48.out.size)); have HS2 := hide (sameB_eq ((own_csl HA4.out HQ1.out.lt).blk HB49.out) (HD78.out.blk hb)); clear hb HD78)
    | (go_at_call 19; refine HS2.out.mono ?_; clear HS2; rintro e w10 ⟨rfl, hb⟩; have HB810 := hide (HB89.out.trans (hb.mono HB89.out.size)); have HB610 := hide (HB68.out.trans (HB810.out.mono HB68.out.size)); have HS3 := hide (sameB_eq ((own_csl HA6.out HQ2.out.lt).blk HB610.out) (HD8.out.blk HB810.out)); clear hb HD8 HB89 HB49)
    | (go_at_call 19; refine HS3.out.mono ?_; clear HS3; rintro e w11 ⟨rfl, hb⟩; have HB611 := hide (HB610.out.trans (hb.mono HB610.out.size)); have HB411 := hide (HB46.out.trans (HB611.out.mono HB46.out.size)); have HB211 := hide (HB24.out.trans (HB411.out.mono HB24.out.size)); clear hb HB610 HB810 HB28 HB48 HB68))
  have HG0 := hide (Gr.start (w0 := w0) (w := w11) (s0 := w1.heap.size) (s1 := w2.heap.size) (s2 := w4.heap.size) (HB6.out.trans (HB611.out.mono HB6.out.size)) (own_bel8 HA2.out HB211.out) (own_bel8 HA4.out HB411.out) (own_bel8 HA6.out HB611.out) HQ1.out.lt HQ1.out.lt HQ2.out.lt HSW.out.2.2.2.2 HSW.out.1 (by have := HSW.out; omega) (fun b e => ⟨HNA.out b e, ((HA2.out).lt b e).2⟩) (fun b e => ⟨by have := HNB.out b e; have := HSW.out; omega, ((HA4.out).lt b e).2⟩) (fun b e => by have := HNC.out b e; have := HSW.out; omega))
  have hl1 := HQ1.out.len
  have hl2 := HQ2.out.len
  have hn3 : ∀ k, (tri l1 l1 l2 k).length ≤ 20000 := fun k => by unfold tri; split <;> assumption
  have HN3 := hide hn3
  clear hn3 HB611 HB411 HB211 HA2 HA4 HA6 HNA HNB HNC HSW HS34 HB1 HB2 HB3 HB4 HB5 HB6 HB7 HB23 HB24 HB45 HB46 HSA HDW HDO HCW HCO HX HT hl1 hl2
  obtain ⟨V0, hV0⟩ : ∃ V0, tri (Value.slice aa l1.length acap) (Value.slice ba l1.length bcap) (Value.slice ka l2.length kcap) = V0 := ⟨_, rfl⟩
  obtain ⟨NN, hNN⟩ : ∃ NN : Nat → Nat, (fun k => (tri l1 l1 l2 k).length) = NN := ⟨_, rfl⟩
  have HNN : Hid (∀ k, NN k ≤ 20000) := hide fun k => by rw [← hNN]; exact HN3.out k
  have HV : Hid (V0 0 = .slice aa l1.length acap ∧ V0 1 = .slice ba l1.length bcap ∧ V0 2 = .slice ka l2.length kcap) := hide ⟨by rw [← hV0]; rfl, by rw [← hV0]; rfl, by rw [← hV0]; rfl⟩
  have HTL : Hid (∀ k, (tri l1 l1 l2 k).length = NN k) := hide fun k => by rw [← hNN]
  rw [hV0, hNN] at HG0
  obtain ⟨GL, hGL⟩ : ∃ GL, w11.heap.size = GL := ⟨_, rfl⟩
  rw [hGL] at HG0 ⊢
  clear hV0 hNN HN3 hGL
  generalize w11.alloc (Obj.cells #[.slice aa l1.length acap, .slice ba l1.length bcap, .slice ka l2.length kcap] 23) = w12 at *
  go_loopw [14] (fun y wr => ∃ (i : Nat) (L : Nat → List Nat), i ≤ 3 ∧ y = .int .i64 (i : Int) ∧ Hid (Gr w0 wr GL (GL + 1) V0 V0 NN L) ∧ Hid (∀ k, (L k).length = NN k ∧ (k < i → L k = List.replicate (NN k) (k + 1)))) (fun y _ => 3 - (intOf y).toNat)
  case atStart => exact ⟨0, _, Nat.zero_le _, rfl, HG0, hide fun k => ⟨HTL.out k, fun h => by omega⟩⟩
  case round =>
    clear HG0 HTL
    obtain ⟨i, L, hi, rfl, HG, HL⟩ := hrel
    by_cases hlt : i < 3
    · have hli : (i : Int) < 3 := by omega
      obtain ⟨c0, f0⟩ := HG.out.cell hlt
      obtain ⟨M, hM⟩ : ∃ M, 1 + i = M := ⟨_, rfl⟩
      have hM8 : M < 256 := by omega
      have HF := hide (full_any M hM8 (HG.out.own i hlt) (by have := HNN.out i; have := (HL.out i).1; omega))
      obtain ⟨va, vc, hv, -, -, -⟩ := HG.out.shp i hlt
      rw [hv] at c0 HF
      have hby3 : 1 + (i : Int) = (M : Int) := by omega
      have HM := hide hM
      have HVE := hide hv
      clear hM hv f0
      go_wp2_with (go_at_call 20; refine HF.out.mono ?_; clear HF; rintro e w13 ⟨rfl, ho, hc⟩; rw [← HVE.out] at ho hc; have H13 := hide (HG.out.full (l := List.replicate (L i).length M) hlt rfl (HL.out i).1 hc (by rw [List.length_replicate]; exact ho) (by rw [List.length_replicate]; exact (HL.out i).1) (fun x hx => by rw [(List.mem_replicate.1 hx).2]; exact hM8)); clear ho hc HG)
      go_roundw
      case rel =>
        refine ⟨i + 1, _, by omega, by go_num, H13, hide fun k => ?_⟩
        by_cases e : k = i
        · subst e
          rw [upd_same, List.length_replicate]
          refine ⟨(HL.out k).1, fun _ => ?_⟩
          rw [(HL.out k).1, ← HM.out, Nat.add_comm 1 k]
        · rw [upd_other _ _ e]
          exact ⟨(HL.out k).1, fun h => (HL.out k).2 (by omega)⟩
      case measure => simp [intOf]; omega
    · have hge3 : ¬ ((i : Int) < 3) := by omega
      have HLR : Hid (∀ k, k < 3 → L k = List.replicate (NN k + if k < 0 then 80 else 0) (k + 1)) := hide fun k hk => by rw [if_neg (by omega), Nat.add_zero]; exact (HL.out k).2 (by omega)
      clear HL hlt hi
      obtain ⟨i1, hi1⟩ : ∃ i1, i = i1 := ⟨_, rfl⟩
      rw [hi1] at hge3 ⊢
      clear hi1
      go_wp2_with fail
      go_loopw [15] (fun y wr => ∃ i : Nat, i ≤ 3 ∧ y = .int .i64 (i : Int) ∧ Hid (∃ (V : Nat → Value) (L : Nat → List Nat), Gr w0 wr GL (GL + 1) V0 V NN L ∧ ∀ k, k < 3 → L k = List.replicate (NN k + if k < i then 80 else 0) (k + 1))) (fun y _ => 3 - (intOf y).toNat)
      case atStart => exact ⟨0, Nat.zero_le _, rfl, hide ⟨V0, L, HG.out, HLR.out⟩⟩
      case round =>
        clear HG HLR
        obtain ⟨i, hi, rfl, HI⟩ := hrel
        obtain ⟨V, L, hg, hl⟩ := HI.out
        have HG := hide hg
        have HL := hide hl
        clear HI hg hl
        by_cases hlt : i < 3
        · have hli : (i : Int) < 3 := by omega
          have HL0 : Hid (∀ k, k < 3 → L k = List.replicate (NN k + if k < i then 80 else if k = i then 0 else 0) (k + 1)) := hide fun k hk => by
            rw [HL.out k hk]
            congr 2
            split
            · rfl
            · split <;> rfl
          clear HL
          go_wp2_with fail
          go_loopw [16] (fun y wr => ∃ j : Nat, j ≤ 80 ∧ y = .int .i64 (j : Int) ∧ Hid (∃ (V : Nat → Value) (L : Nat → List Nat), Gr w0 wr GL (GL + 1) V0 V NN L ∧ ∀ k, k < 3 → L k = List.replicate (NN k + if k < i then 80 else if k = i then j else 0) (k + 1))) (fun y _ => 80 - (intOf y).toNat)
          case atStart => exact ⟨0, Nat.zero_le _, rfl, hide ⟨V, L, HG.out, HL0.out⟩⟩
          case round =>
            clear HG HL0
            clear V L
            obtain ⟨j, hj, rfl, HI⟩ := hrel
            obtain ⟨V, L, hg, hl⟩ := HI.out
            have HG := hide hg
            have HL := hide hl
            clear HI hg hl
            by_cases hjl : j < 80
            · have hji : (j : Int) < 80 := by omega
              obtain ⟨c0, f0⟩ := HG.out.cell hlt
              obtain ⟨M, hM⟩ : ∃ M, 1 + i = M := ⟨_, rfl⟩
              have hM8 : M < 256 := by omega
              have hby3 : 1 + (i : Int) = (M : Int) := by omega
              have HM := hide hM
              clear hM f0
              have o3 := (HG.out.own i hlt).alloc (.cells #[.int .u8 (M : Int)] 5)
              have hll : (L i).length ≤ 30000 := by
                rw [HL.out i hlt, List.length_replicate, if_neg (by omega), if_pos rfl]
                have := HNN.out i
                omega
              obtain ⟨i0, hi0, hz0, hz1, hz2⟩ := infoBs
              obtain ⟨w14, hw14⟩ : ∃ w14, wr = w14 := ⟨_, rfl⟩
              rw [hw14] at HG c0 o3 ⊢
              have HAP := hide fun (w4 : World) (v4 : Value) ho hu => HG.out.appd (d := M) (w4 := w4) (v4 := v4) hlt hM8 ho hu
              go_wp2_with (at_builtin; refine wpList_app8 _ rfl (.tmp 105) (.tmp 109) 23 rfl 5 i0 (.int .u8 0) 1 Tryd.underlying23 hi0 hz0 hz1 hz2 rfl _ _ _ rfl o3 ⟨w14.heap.size, 0, none⟩ 1 (.int .u8 (M : Int)) rfl (new_one w14 _) rfl (by unfold maxLen; omega) (by omega) ?_)
              intro v4 w4 ho4 hup4
              obtain ⟨⟨a4, k4, rfl⟩, k0, kf, HG4⟩ := HAP.out w4 v4 ho4 (by unfold Upn; rw [World.size_alloc]; exact hup4)
              clear ho4 hup4 HAP o3 c0 HG
              go_wp2_with fail
              go_roundw
              case rel =>
                refine ⟨j + 1, by omega, by go_num, hide ⟨_, _, HG4.out, fun k hk => ?_⟩⟩
                by_cases e : k = i
                · subst e
                  rw [upd_same, HL.out k hk, if_neg (by omega), if_pos rfl, if_neg (by omega), if_pos rfl, ← HM.out, Nat.add_comm 1 k, ← List.replicate_succ', Nat.add_assoc]
                · rw [upd_other _ _ e, HL.out k hk, if_neg e, if_neg e]
              case measure => simp [intOf]; omega
            · have ej : j = 80 := by omega
              have hge8 : ¬ ((j : Int) < 80) := by omega
              have HLN : Hid (∀ k, k < 3 → L k = List.replicate (NN k + if k < i + 1 then 80 else 0) (k + 1)) := hide fun k hk => by
                rw [HL.out k hk, ej]
                congr 2
                by_cases e1 : k < i
                · rw [if_pos e1, if_pos (by omega)]
                · by_cases e2 : k = i
                  · rw [if_neg e1, if_pos e2, if_pos (by omega)]
                  · rw [if_neg e1, if_neg e2, if_neg (by omega)]
              clear HL ej
              go_wp2_with fail
              go_roundw
              case rel => exact ⟨i + 1, by omega, by go_num, hide ⟨V, L, HG.out, HLN.out⟩⟩
              case measure => simp [intOf]; omega
        · have ei : i = 3 := by omega
          have hge4 : ¬ ((i : Int) < 3) := by omega
          have HLE : Hid (∀ k, k < 3 → L k = List.replicate (NN k + 80) (k + 1)) := hide fun k hk => by rw [HL.out k hk, if_pos (by omega)]
          have HA0 : Hid (∀ x, Gr w0 x GL (GL + 1) V0 V NN L → ∀ k, k < 3 → ∀ (v : Value) (M : Int), V0 k = v → ((k + 1 : Nat) : Int) = M → Calls Tryd.prog 21 #[v, .int .u8 M] x fun e w' => e = .returned (.bool true) ∧ Gr w0 w' GL (GL + 1) V0 V NN L) := hide fun x hx k hk v M e1 e2 => by
            subst e1 e2
            have h := hx.base k hk
            rw [HLE.out k hk, List.take_replicate, Nat.min_eq_left (Nat.le_add_right _ _)] at h
            exact (all_any (k + 1) (by omega) h).mono fun e w' ⟨h1, h2⟩ => ⟨h1, hx.calm h2⟩
          have HA1 : Hid (∀ x, Gr w0 x GL (GL + 1) V0 V NN L → ∀ k, k < 3 → ∀ (v : Value) (M : Int), V k = v → ((k + 1 : Nat) : Int) = M → Calls Tryd.prog 21 #[v, .int .u8 M] x fun e w' => e = .returned (.bool true) ∧ Gr w0 w' GL (GL + 1) V0 V NN L) := hide fun x hx k hk v M e1 e2 => by
            subst e1 e2
            have h := own_csl (hx.own k hk) (hx.len k hk).2
            rw [HLE.out k hk] at h
            exact (all_any (k + 1) (by omega) h).mono fun e w' ⟨h1, h2⟩ => ⟨h1, hx.calm h2⟩
          clear HL HLE ei hlt hi
          go_wp2_with (first
            | (go_at_call 21; refine (HA0.out _ HG.out 0 (by omega) _ _ HV.out.1 rfl).mono ?_; rintro e y1 ⟨rfl, hg⟩; have HG1 := hide hg; clear hg HG)
            | (go_at_call 21; refine (HA0.out _ HG1.out 1 (by omega) _ _ HV.out.2.1 rfl).mono ?_; rintro e y2 ⟨rfl, hg⟩; have HG2 := hide hg; clear hg HG1)
            | (go_at_call 21; refine (HA0.out _ HG2.out 2 (by omega) _ _ HV.out.2.2 rfl).mono ?_; rintro e y3 ⟨rfl, hg⟩; have HG3 := hide hg; obtain ⟨k0, -⟩ := hg.cell (i := 0) (by omega); clear hg HG2)
            | (go_at_call 21; refine (HA1.out _ HG3.out 0 (by omega) _ _ rfl rfl).mono ?_; rintro e y4 ⟨rfl, hg⟩; have HG4 := hide hg; obtain ⟨k1, -⟩ := hg.cell (i := 1) (by omega); clear hg HG3 k0)
            | (go_at_call 21; refine (HA1.out _ HG4.out 1 (by omega) _ _ rfl rfl).mono ?_; rintro e y5 ⟨rfl, hg⟩; have HG5 := hide hg; obtain ⟨k2, -⟩ := hg.cell (i := 2) (by omega); clear hg HG4 k1)
            | (go_at_call 21; refine (HA1.out _ HG5.out 2 (by omega) _ _ rfl rfl).mono ?_; rintro e y6 ⟨rfl, hg⟩; have HG6 := hide hg; clear hg HG5 k2))
          all_goals
            go_ret
            exact ⟨by simp, HBW.out _ HG6.out.bel⟩
end Go.Proofs.YtglajdmkbckjjabDoor
namespace Go.Proofs.YtglajdmkbckjjabDoor
open Go.RowKit Go.Shelf
set_option linter.unusedVariables false
set_option linter.unusedSimpArgs false
set_option maxRecDepth 20000

theorem St.start {w0 w1 w2 w3 : World} {vin av bv : Value} {lw l1 : List Nat} (hb1 : Below w0.heap.size w0 w1) (hcp : Cp w0.heap.size w1 vin lw) (hb2 : Below w1.heap.size w1 w2) (ho : w2.ownsRow 0 5 1 av l1.length (l1.map byV)) (hn : ∀ b, av.ownBlock = some b → w1.heap.size ≤ b) (hb3 : Below w2.heap.size w2 w3) (hs : CSl w3 bv l1) (hz : ∀ b, blockOf bv = some b → w2.heap.size ≤ b ∧ b < w3.heap.size) : St w0 w3 vin bv lw l1 [(av, l1)] := by
  have s1 := hb1.size
  have s2 := hb2.size
  have s3 := hb3.size
  have hb13 : Below w1.heap.size w1 w3 := hb2.trans (hb3.mono s2)
  refine ⟨hb1.trans (hb13.mono s1), hcp.below hb13, hs, fun b e => ?_, fun r hr => ?_, fun r hr b e => ?_, List.pairwise_singleton _ _⟩
  · have := hz b e
    exact ⟨by omega, this.2⟩
  · obtain rfl := List.mem_singleton.1 hr
    exact own_bel8 ho hb3
  · obtain rfl := List.mem_singleton.1 hr
    have h1 := hn b e
    have h2 := (ho.lt b e).2
    refine ⟨by omega, fun e2 => ?_, fun e2 => ?_⟩
    · have := (hcp.new b e2).2
      omega
    · have := (hz b e2).1
      omega
theorem rep_map (m n : Nat) : (List.replicate n m).map byV = List.replicate n (byV m) := by simp
theorem rep_lt {m n : Nat} (hm : m < 256) : ∀ x ∈ List.replicate n m, x < 256 := fun x hx => by rw [(List.mem_replicate.1 hx).2]; exact hm
/-- the newest answer is written full -/
theorem St.full {w0 w w' : World} {vin bv v : Value} {lw lb l : List Nat} {rows : List (Value × List Nat)} {m : Nat} (h : St w0 w vin bv lw lb ((v, l) :: rows)) (ho : w'.ownsRow 0 5 1 v l.length ((List.replicate l.length m).map byV)) (hc : Chg (fun b => v.ownBlock = some b) w w') : St w0 w' vin bv lw lb ((v, List.replicate l.length m) :: rows) :=
  h.turn hc (by rw [List.length_replicate]; exact ho) (fun b e => .inl e)
theorem St.head {w0 w : World} {vin bv v : Value} {lw lb l : List Nat} {rows : List (Value × List Nat)} (h : St w0 w vin bv lw lb ((v, l) :: rows)) : w.ownsRow 0 5 1 v l.length (l.map byV) := h.own _ List.mem_cons_self
set_option maxHeartbeats 8000000 in
theorem codes_law {w : World} {wv ov cv hv : Value} {lw lo c : List Nat} (n m : Int) (hT : TabAt w) (hw : WSl w wv lw) (hwl : lw.length ≤ 17592186044416) (ho : WSl w ov lo) (hol : lo.length ≤ 17592186044416) (hc : CSl w cv c) (hcl : c.length ≤ 140737488351232) :
    Calls Tryd.prog 5 #[.agg #[.int .i64 n, .int .i64 m, wv, ov, cv, hv]] w fun e w' => e = .returned (.bool true) ∧ Below w.heap.size w w' := by
  obtain ⟨w0, hw0⟩ : ∃ w0, w.alloc (.cells #[.int .i64 n, .int .i64 m, wv, ov, cv, hv] 54) = w0 := ⟨_, rfl⟩
  have hbw : Below w.heap.size w w0 := by rw [← hw0]; exact (Below.refl _ _).alloc (Nat.le_refl _) _
  have HX : Hid (∀ x, Below w0.heap.size w0 x → Bx x w.heap.size n m wv ov cv hv) := hide fun x hx => by rw [← hw0] at hx; exact bx_of hx
  have HBW : Hid (∀ x, Below w0.heap.size w0 x → Below w.heap.size w x) := hide fun x hx => hbw.trans (hx.mono hbw.size)
  have HW : Hid (∀ x, Below w0.heap.size w0 x → WSl x wv lw) := hide fun x hx => hw.below (HBW.out x hx)
  have HO : Hid (∀ x, Below w0.heap.size w0 x → WSl x ov lo) := hide fun x hx => ho.below (HBW.out x hx)
  have HC : Hid (∀ x, Below w0.heap.size w0 x → CSl x cv c) := hide fun x hx => hc.blk (HBW.out x hx)
  have HT : Hid (∀ x, Below w0.heap.size w0 x → TabAt x) := hide fun x hx => hT.below (HBW.out x hx)
  obtain ⟨q1, hq1⟩ := eans_ex n lw
  obtain ⟨q2, hq2⟩ := eans_ex m lo
  have HQ1 := hide hq1
  have HQ2 := hide hq2
  have HCW := hide fun (x : World) (hx : Below w0.heap.size w0 x) => copied_full (HW.out x hx) hwl
  have HEN : Hid (∀ x v, Below w0.heap.size w0 x → Cp w0.heap.size x v lw → Calls Tryd.prog 9 #[.int .i64 n, v] x (PEn x q1)) := hide fun x v hx hcp => encode_all hq1 (HT.out _ hx) (hcp.wsl hw.lt (by unfold maxLen; omega))
  have HIN : Hid (∀ x v, Below w0.heap.size w0 x → Cp w0.heap.size x v lw → (v = .slice none 0 0 → wv = .slice none 0 0) → Calls Tryd.prog 18 #[v, wv] x fun e w' => e = .returned (.bool true) ∧ Below x.heap.size x w') := hide fun x v hx hcp hnil => intact_any hcp (HW.out x hx) hnil hwl
  have HCO : Hid (∀ x, Below w0.heap.size w0 x → Calls Tryd.prog 10 #[ov] x fun e w' => ∃ v', e = .returned v' ∧ Calls Tryd.prog 9 #[.int .i64 m, v'] w' (PEn w' q2) ∧ Below x.heap.size x w') := hide fun x hx => (copied_full (HO.out x hx) hol).mono fun e w' h => by
    obtain ⟨v', rfl, -, -, hws, hb⟩ := h
    exact ⟨v', rfl, encode_all hq2 (HT.out _ (hx.trans (hb.mono hx.size))) hws, hb⟩
  have HDW : Hid (∀ x, Below w0.heap.size w0 x → Calls Tryd.prog 17 #[.int .i64 n, wv] x (DEn x q1)) := hide fun x hx => rencode_all hq1 (HW.out x hx)
  have HDO : Hid (∀ x, Below w0.heap.size w0 x → Calls Tryd.prog 17 #[.int .i64 m, ov] x (DEn x q2)) := hide fun x hx => rencode_all hq2 (HO.out x hx)
  have HLA : Hid (∀ x, Below w0.heap.size w0 x → Calls Tryd.prog 22 #[.agg #[.int .i64 n, .int .i64 m, wv, ov, cv, hv]] x fun e w' => e = .returned (.bool true) ∧ Below x.heap.size x w') := hide fun x hx => late_law n m (HT.out x hx) (HW.out x hx) hwl (HO.out x hx) hol
  have HTU : Hid (∀ x, Below w0.heap.size w0 x → Calls Tryd.prog 23 #[.agg #[.int .i64 n, .int .i64 m, wv, ov, cv, hv]] x fun e w' => e = .returned (.bool true) ∧ Below x.heap.size x w') := hide fun x hx => turned_law n m (HT.out x hx) (HW.out x hx) hwl (HC.out x hx) hcl
  have hl1 := hq1.len
  have hl2 := hq2.len
  obtain ⟨b0, b1, b2, b3, b4, b5⟩ := HX.out _ (Below.refl _ _)
  have HB0 := hide (Below.refl w0.heap.size w0)
  obtain ⟨wa, wcap, rfl, -⟩ := hw
  obtain ⟨oa, ocap, rfl, -⟩ := ho
  clear hq1 hq2 hT hbw hwl hol HW HO HC HT hc hcl
  obtain ⟨l1, r1⟩ := q1
  obtain ⟨l2, r2⟩ := q2
  unfold PEn at HEN HCO
  unfold DEn at HDW HDO
  dsimp only at HEN HCO HDW HDO hl1 hl2
  obtain ⟨i0, hi0, hz0, hz1, hz2⟩ := infoBs
  go_enter Tryd.func5, Tryd.ntmps5
  go_wp2_with (first
    | (go_at_call 10; refine (HCW.out _ HB0.out).mono ?_; rintro e w1 ⟨vin, rfl, hnil, hcp, -, hb⟩; have HB1 := hide hb; have HCP := hide hcp; have HNIL := hide hnil; have HE1 := hide (HEN.out _ _ hb hcp); obtain ⟨c0, c1, c2, c3, c4, c5⟩ := HX.out _ hb; clear hb hcp hnil b0 b1 b2 b3 b4 b5 HB0 HCW)
    | (go_at_call 9; refine HE1.out.mono ?_; clear HE1; rintro e w2 ⟨av, rfl, hown, hb, hn⟩; obtain ⟨aa, acap, rfl, ha1, ha2, -⟩ := own_open hown; have HA2 := hide (And.intro hown (And.intro hb hn)); have HB2 := hide (HB1.out.trans (hb.mono HB1.out.size)); have HR1 := hide (HDW.out _ HB2.out); obtain ⟨d0, d1, d2, d3, d4, d5⟩ := HX.out _ HB2.out; clear hown hb hn c0 c1 c2 c3 c4 c5)
    | (go_at_call 17; refine HR1.out.mono ?_; clear HR1; rintro e w3 ⟨bv, rfl, hs, hb, hz⟩; have HS3 := hide (St.start HB1.out HCP.out HA2.out.2.1 HA2.out.1 HA2.out.2.2 hb hs hz); have HI3 := hide (HIN.out _ _ HS3.out.bel HS3.out.cin HNIL.out); obtain ⟨c0, c1, c2, c3, c4, c5⟩ := HX.out _ HS3.out.bel; clear hs hb hz HA2 HB2 HB1 HCP HIN HDW HNIL d0 d1 d2 d3 d4 d5)
    | (go_at_call 18; refine HI3.out.mono ?_; clear HI3; rintro e w4 ⟨rfl, hb⟩; have HS4 := hide (HS3.out.calm hb); have HSB1 := hide (sameB_eq (own_csl HS4.out.head HQ1.out.lt) HS4.out.cb); clear hb HS3 c0 c1 c2 c3 c4 c5)
    | (go_at_call 19; refine HSB1.out.mono ?_; clear HSB1; rintro e w5 ⟨rfl, hb⟩; have HS5 := hide (HS4.out.calm hb); have HF1 := hide (full_any 161 (by decide) HS5.out.head (by omega)); clear hb HS4)
    | (go_at_call 20; refine HF1.out.mono ?_; clear HF1; rintro e w6 ⟨rfl, ho, hc⟩; have HS6 := hide (HS5.out.full ho hc); clear ho hc HS5))
  have HY161 : Hid (YS w6 w6 (.slice aa l1.length acap) (.slice aa l1.length acap) (List.replicate (l1.length + 0) 161)) := hide (by have := YS.start HS6.out.head; simpa using this)
  go_loopw [4, 9] (fun dv y wr => ∃ k : Nat, k ≤ 80 ∧ y = .int .i64 (k : Int) ∧ Hid (YS w6 wr (.slice aa l1.length acap) dv (List.replicate (l1.length + k) 161))) (fun _ y _ => 80 - (intOf y).toNat)
  case atStart => exact ⟨0, Nat.zero_le _, rfl, HY161⟩
  case round =>
    clear HY161
    obtain ⟨k161, hk, rfl, HY⟩ := hrel
    obtain ⟨wl161, hw7⟩ : ∃ w7, wr = w7 := ⟨_, rfl⟩
    rw [hw7] at HY ⊢
    clear hw7
    by_cases hlt : k161 < 80
    · have hli : (k161 : Int) < 80 := by omega
      obtain ⟨RL, hRL⟩ : ∃ RL, List.replicate (l1.length + k161) 161 = RL := ⟨_, rfl⟩
      rw [hRL] at HY
      have hrl : RL.length ≤ 30000 := by rw [← hRL, List.length_replicate]; omega
      have HRL := hide hRL
      clear hRL
      have o3 := HY.out.own.alloc (.cells #[.int .u8 161] 5)
      have HM : Hid (∀ (w4 : World) (v4 : Value), w4.ownsRow 0 5 1 v4 (RL.length + 1) (RL.map byV ++ [.int .u8 161]) → Upn (wl161.alloc (.cells #[.int .u8 161] 5)) w4 _ v4 → _) := hide fun (w4 : World) (v4 : Value) ho hu => HY.out.more (d := 161) (w4 := w4) (v4 := v4) ho hu
      clear HY
      go_wp2_with (at_builtin; refine wpList_app8 _ rfl (.tmp 58) (.tmp 59) 23 rfl 5 i0 (.int .u8 0) 1 Tryd.underlying23 hi0 hz0 hz1 hz2 rfl _ _ _ rfl o3 ⟨wl161.heap.size, 0, none⟩ 1 (.int .u8 161) rfl (new_one wl161 _) rfl (by unfold maxLen; omega) (by omega) ?_)
      intro v4 w8 ho4 hup4
      have H4 := hide (HM.out w8 v4 ho4 (by unfold Upn; rw [World.size_alloc]; exact hup4))
      clear ho4 hup4 HM o3
      go_wp2_with fail
      go_roundw
      case rel => exact ⟨k161 + 1, by omega, by go_num, hide (by have := H4.out; rwa [← HRL.out, ← List.replicate_succ'] at this)⟩
      case measure => simp [intOf]; omega
    · have hge161 : ¬ ((k161 : Int) < 80) := by omega
      have ek : k161 = 80 := by omega
      have HS7 := hide (HS6.out.turn HY.out.chg HY.out.own HY.out.loc)
      rw [ek] at HS7
      clear HS6 HY ek
      have HS7d := hide (HS7.out.calm (Below.refl _ _).drew)
      obtain ⟨b0, b1, b2, b3, b4, b5⟩ := HX.out _ HS7.out.bel
      clear HS7 hlt hk
      go_wp2_with fail
      go_region_held3 (fun w' => w'.cell? ⟨w.heap.size, 1, none⟩ = some (.int .i64 m) ∧ w'.cell? ⟨w.heap.size, 3, none⟩ = some (.slice oa lo.length ocap)) (first | assumption | (constructor <;> assumption) | go_keep)
        (first
          | (go_at_call 10; refine (HCO.out _ HS7d.out.bel).mono ?_; rintro e w8 ⟨v8, rfl, hen, hb⟩; have HE8 := hide hen; have HS8 := hide (HS7d.out.calm hb); obtain ⟨c0, c1, c2, c3, c4, c5⟩ := HX.out _ HS8.out.bel; clear hen hb b0 b1 b2 b3 b4 b5 HS7d)
          | (go_at_call 9; refine HE8.out.mono ?_; clear HE8; rintro e w9 ⟨kv, rfl, hown, hb, hn⟩; obtain ⟨ka, kcap, rfl, hk1, hk2, -⟩ := own_open hown; have HS9 := hide (HS8.out.new hb hown hn); obtain ⟨d0, d1, d2, d3, d4, d5⟩ := HX.out _ HS9.out.bel; have HR2 := hide (HDO.out _ HS9.out.bel); clear hown hb hn c0 c1 c2 c3 c4 c5 HS8))
      go_wp2_with (first
        | (go_at_call 17; refine HR2.out.mono ?_; clear HR2; rintro e w10 ⟨dv, rfl, hs, hb, hz⟩; have HS10 := hide (HS9.out.calm hb); have HSB2 := hide (sameB_eq (own_csl HS10.out.head HQ2.out.lt) hs); clear hs hb hz HS9 d0 d1 d2 d3 d4 d5)
        | (go_at_call 19; refine HSB2.out.mono ?_; clear HSB2; rintro e w11 ⟨rfl, hb⟩; have HS11 := hide (HS10.out.calm hb); have HF2 := hide (full_any 162 (by decide) HS11.out.head (by omega)); clear hb HS10)
        | (go_at_call 20; refine HF2.out.mono ?_; clear HF2; rintro e w12 ⟨rfl, ho, hc⟩; have HS12 := hide (HS11.out.full ho hc); clear ho hc HS11))
      have HY162 : Hid (YS w12 w12 (.slice ka l2.length kcap) (.slice ka l2.length kcap) (List.replicate (l2.length + 0) 162)) := hide (by have := YS.start HS12.out.head; simpa using this)
      go_loopw [10, 13] (fun dv y wr => ∃ k : Nat, k ≤ 80 ∧ y = .int .i64 (k : Int) ∧ Hid (YS w12 wr (.slice ka l2.length kcap) dv (List.replicate (l2.length + k) 162))) (fun _ y _ => 80 - (intOf y).toNat)
      case atStart => exact ⟨0, Nat.zero_le _, rfl, HY162⟩
      case round =>
        clear HY162
        obtain ⟨k162, hk, rfl, HY⟩ := hrel
        obtain ⟨wl162, hw7⟩ : ∃ w7, wr = w7 := ⟨_, rfl⟩
        rw [hw7] at HY ⊢
        clear hw7
        by_cases hlt : k162 < 80
        · have hli : (k162 : Int) < 80 := by omega
          obtain ⟨RL, hRL⟩ : ∃ RL, List.replicate (l2.length + k162) 162 = RL := ⟨_, rfl⟩
          rw [hRL] at HY
          have hrl : RL.length ≤ 30000 := by rw [← hRL, List.length_replicate]; omega
          have HRL := hide hRL
          clear hRL
          have o3 := HY.out.own.alloc (.cells #[.int .u8 162] 5)
          have HM : Hid (∀ (w4 : World) (v4 : Value), w4.ownsRow 0 5 1 v4 (RL.length + 1) (RL.map byV ++ [.int .u8 162]) → Upn (wl162.alloc (.cells #[.int .u8 162] 5)) w4 _ v4 → _) := hide fun (w4 : World) (v4 : Value) ho hu => HY.out.more (d := 162) (w4 := w4) (v4 := v4) ho hu
          clear HY
          go_wp2_with (at_builtin; refine wpList_app8 _ rfl (.tmp 93) (.tmp 94) 23 rfl 5 i0 (.int .u8 0) 1 Tryd.underlying23 hi0 hz0 hz1 hz2 rfl _ _ _ rfl o3 ⟨wl162.heap.size, 0, none⟩ 1 (.int .u8 162) rfl (new_one wl162 _) rfl (by unfold maxLen; omega) (by omega) ?_)
          intro v4 w8 ho4 hup4
          have H4 := hide (HM.out w8 v4 ho4 (by unfold Upn; rw [World.size_alloc]; exact hup4))
          clear ho4 hup4 HM o3
          go_wp2_with fail
          go_roundw
          case rel => exact ⟨k162 + 1, by omega, by go_num, hide (by have := H4.out; rwa [← HRL.out, ← List.replicate_succ'] at this)⟩
          case measure => simp [intOf]; omega
        · have hge162 : ¬ ((k162 : Int) < 80) := by omega
          have ek : k162 = 80 := by omega
          have HS13 := hide (HS12.out.turn HY.out.chg HY.out.own HY.out.loc)
          rw [ek] at HS13
          clear HS12 HY ek hlt hk
          obtain ⟨b0, b1, b2, b3, b4, b5⟩ := HX.out _ HS13.out.bel
          have HE3 := hide (HEN.out _ _ HS13.out.bel HS13.out.cin)
          go_wp2_with (first
            | (go_at_call 9; refine HE3.out.mono ?_; clear HE3; rintro e w14 ⟨gv, rfl, hown, hb, hn⟩; obtain ⟨ga, gcap, rfl, hg1, hg2, -⟩ := own_open hown; have HS14 := hide (HS13.out.new hb hown hn); have HSB3 := hide (sameB_eq (own_csl HS14.out.head HQ1.out.lt) HS14.out.cb); clear hown hb hn HS13 b0 b1 b2 b3 b4 b5)
            | (go_at_call 19; refine HSB3.out.mono ?_; clear HSB3; rintro e w15 ⟨rfl, hb⟩; have HS15 := hide (HS14.out.calm hb); have HF3 := hide (full_any 163 (by decide) HS15.out.head (by omega)); clear hb HS14)
            | (go_at_call 20; refine HF3.out.mono ?_; clear HF3; rintro e w16 ⟨rfl, ho, hc⟩; have HS16 := hide (HS15.out.full ho hc); have HA1 := hide (all_any 161 (by decide) (HS16.out.csl (v := u4) (l := List.replicate (l1.length + 80) 161) (by simp) (rep_lt (by decide)))); clear ho hc HS15)
            | (go_at_call 21; refine HA1.out.mono ?_; clear HA1; rintro e w17 ⟨rfl, hb⟩; have HS17 := hide (HS16.out.calm hb); have HA2 := hide (all_any 162 (by decide) (HS17.out.csl (v := u10) (l := List.replicate (l2.length + 80) 162) (by simp) (rep_lt (by decide)))); clear hb HS16)
            | (go_at_call 21; refine HA2.out.mono ?_; clear HA2; rintro e w18 ⟨rfl, hb⟩; have HS18 := hide (HS17.out.calm hb); have HA3 := hide (all_any 163 (by decide) (HS18.out.csl (v := .slice ga l1.length gcap) (l := List.replicate l1.length 163) (by simp) (rep_lt (by decide)))); clear hb HS17)
            | (go_at_call 21; refine HA3.out.mono ?_; clear HA3; rintro e w19 ⟨rfl, hb⟩; have HB19 := hide (HS18.out.calm hb).bel; obtain ⟨d0, d1, d2, d3, d4, d5⟩ := HX.out _ HB19.out; have HL1 := hide (HLA.out _ HB19.out); clear hb HS18)
            | (go_at_call 22; refine HL1.out.mono ?_; clear HL1; rintro e w20 ⟨rfl, hb⟩; have HB20 := hide (HB19.out.trans (hb.mono HB19.out.size)); obtain ⟨c0, c1, c2, c3, c4, c5⟩ := HX.out _ HB20.out; have HT1 := hide (HTU.out _ HB20.out); clear hb HB19 d0 d1 d2 d3 d4 d5)
            | (go_at_call 23; refine HT1.out.mono ?_; clear HT1; rintro e w21 ⟨rfl, hb⟩; have HB21 := hide (HBW.out _ (HB20.out.trans (hb.mono HB20.out.size))); clear hb HB20 c0 c1 c2 c3 c4 c5))
          all_goals
            go_ret
            exact ⟨by simp, HB21.out⟩
end Go.Proofs.YtglajdmkbckjjabDoor
namespace Go.Proofs.YtglajdmkbckjjabDoor
open Go.ChangeShapes Go.WideShapes Go.ChangeAt Go.RowKit
set_option linter.unusedVariables false
set_option linter.unusedSimpArgs false
set_option maxRecDepth 20000

theorem own : ownKnob Tryd.prog.godebug = none := by kernel_rfl
theorem laidOut : laidOutB Tryd.prog = true := by kernel_rfl
theorem gTab : Tryd.prog.globalNamed "math/bits.deBruijn64tab" = some 0 := by kernel_rfl
theorem gTabty : (Tryd.prog.globals[0]?).map (·.type) = some 122 := by kernel_rfl
theorem cellsTab : Tryd.prog.cellsOf 122 = 64 := by kernel_rfl
theorem cells8 : Tryd.prog.cellsOf 5 = 1 := by kernel_rfl
theorem cellsInt : Tryd.prog.cellsOf 3 = 1 := by kernel_rfl
theorem cellsBool : Tryd.prog.cellsOf 4 = 1 := by kernel_rfl
theorem cellsWords : Tryd.prog.cellsOf 22 = 1 := by kernel_rfl
theorem cellsU64 : Tryd.prog.cellsOf 62 = 1 := by kernel_rfl
theorem bytesU64 : Tryd.prog.bytesOf 62 = 8 := by kernel_rfl
theorem cellsActs : Tryd.prog.cellsOf 49 = 1 := by kernel_rfl
theorem cellsAct : Tryd.prog.cellsOf 139 = 3 := by kernel_rfl
theorem cellsOp : Tryd.prog.cellsOf 51 = 8 := by kernel_rfl

def listed : List (String × DataW Unit) := [("math/bits.deBruijn64tab", Rows.laid_math_bits_deBruijn64tab)]
theorem tab_of_laid {W : World} (h : laidMetH Tryd.prog listed W) : TabAt W := by
  have h' : laidMet Tryd.prog [("math/bits.deBruijn64tab", Lib.tabData .u8 (Lib.deBruijn64tab.map fun n : Nat => (n : Int)))] W := h
  have h1 := Lib.tabIs_of_head gTab gTabty Tryd.underlying122 Tryd.underlying5 cells8 cellsTab h'
  intro i hi
  have hl : Lib.deBruijn64tab.length = 64 := by decide
  rw [h1.cell gTab i (by simpa [hl] using hi)]
  simp [List.getD, hi, hl]
def relay (cs : List Value) : Obj → Obj
  | .cells _ t frozen => .cells cs.toArray t frozen
  | o => o
/-- a world for the witness: the settled one, with the table in it -/
def laidIn (w : World) : World := { w with heap := w.heap.modify 0 (relay (Lib.deBruijn64tab.map fun n : Nat => .int .u8 (n : Int))) }

def IsRow (k : IntKind) (w : World) (a : Option Addr) (len cap : Nat) (zs : List Int) : Prop :=
  (a = none ∧ len = 0 ∧ cap = 0 ∧ zs = []) ∨
  ∃ x, a = some x ∧ len ≤ cap ∧ cap ≤ maxLen ∧ zs.length = cap ∧ (∀ i, i < zs.length → w.cell? (x.add i) = some (.int k (zs.getD i 0))) ∧ ∀ n ∈ zs, (Lit.int k n).wf = true
theorem wsl_of_isrow {w : World} {a : Option Addr} {len cap : Nat} {zs : List Int} (h : IsRow .u64 w a len cap zs) : ∃ l : List Nat, l.length = len ∧ WSl w (.slice a len cap) l := by
  rcases h with ⟨rfl, rfl, rfl, rfl⟩ | ⟨x, rfl, hl, hm, hz, hcell, hwz⟩
  · exact ⟨[], rfl, none, 0, rfl, Nat.le_refl _, by unfold maxLen; omega, fun _ => rfl, by simp, by simp⟩
  · have hlen : ((zs.take len).map Int.toNat).length = len := by simp; omega
    refine ⟨(zs.take len).map Int.toNat, hlen, _, cap, by rw [hlen], by omega, hm, by simp, ?_, ?_⟩
    · intro b hb
      obtain ⟨n, hn, rfl⟩ := List.mem_map.1 hb
      have := bounds_u64 (hwz n (List.mem_of_mem_take hn))
      omega
    · intro hp
      obtain ⟨b, off, rfl, hc⟩ := ints_at hcell (by omega)
      refine ⟨b, off, rfl, fun i hi => ?_⟩
      rw [hc i (by omega)]
      have hi' : i < zs.length := by omega
      have hb := bounds_u64 (hwz zs[i] (List.getElem_mem hi'))
      have hi2 : i < len := by omega
      have e2 : ((zs.take len).map Int.toNat).getD i 0 = zs[i].toNat := by
        simp [List.getD, hi', hi2]
      have e3 : zs.getD i 0 = zs[i] := by simp [List.getD, hi']
      rw [e2, e3, Int.toNat_of_nonneg hb.1]

/-- a list of words, of which the weights are known -/
theorem open_field {H : Type} {enc : TypeId × Value → H} {W : World} {n : Nat} {v : Value} {y : DataW H × List MemPlace} (h : DataW.trod enc Tryd.prog W 0 (fun _ => true) true n 22 [v] = some y) (hw : ∀ k ∈ y.1.weights Tryd.prog 22, k ≤ reachBytes) : ∃ l : List Nat, WSl W v l ∧ l.length ≤ 17592186044416 := by
  rcases open_ints Tryd.underlying22 Tryd.underlying62 (by kernel_rfl) h with ⟨hcs, hy⟩ | ⟨x, len, cap, zs, hcs, _, hl, hm, hz, hx, hcell, hwz⟩
  · simp at hcs
    subst hcs
    exact ⟨[], ⟨none, 0, rfl, Nat.le_refl _, by unfold maxLen; omega, fun _ => rfl, by simp, by simp⟩, Nat.zero_le _⟩
  · simp at hcs
    subst hcs
    simp only [if_true] at hz
    obtain ⟨l, hll, hb⟩ := wsl_of_isrow (.inr ⟨_, rfl, hl, hm, hz, hcell, hwz⟩)
    subst hx
    refine ⟨l, hb, ?_⟩
    have := hw ((zs.length) * 8) (by
      simp only [DataW.weights]
      rw [Tryd.underlying22]
      simp only [lits, List.length_map, List.length_take, List.length_drop, bytesU64]
      rw [show min len zs.length + (zs.length - len) = zs.length by omega]
      exact List.mem_cons_self)
    unfold reachBytes at this
    omega
theorem open_words {H : Type} {enc : TypeId × Value → H} {W : World} {base : Nat} {v : Value} {d : DataW H} {p : List MemPlace} {ts : List TypeId} {ds : List (DataW H)} (j : Nat) (hts : ts[j]? = some 22) (hds : ds[j]? = some d)
    (hsz : (DataW.weightsEach Tryd.prog ts ds).all (· ≤ reachBytes) = true) (hok : Value.okWide Tryd.prog W .any base 22 v) (h1 : DataW.Trod enc Tryd.prog W 0 (fun _ => true) true 22 v d p) : ∃ l : List Nat, WSl W v l ∧ l.length ≤ 17592186044416 := by
  obtain ⟨a1, len1, cap1, rfl⟩ := okWide_slice Tryd.underlying22 hok
  obtain ⟨fuel, hf⟩ := h1
  refine open_field hf fun k hk => ?_
  have := List.all_eq_true.1 hsz k (DataW.weights_mem_each hts hds k hk)
  simpa using this
theorem trod_place_lt {H : Type} {enc : TypeId × Value → H} {W : World} {t : TypeId} {v : Value} {d : DataW H} {p : List MemPlace} (h1 : DataW.Trod enc Tryd.prog W 0 (fun _ => true) true t v d p) : ∀ x ∈ p, x.block < W.heap.size := by
  obtain ⟨m, hm⟩ := h1; exact DataW.trod_lt m _ _ _ hm
theorem words_again {H : Type} {enc : TypeId × Value → H} {W W' : World} {v : Value} {d : DataW H} {p : List MemPlace} (h1 : DataW.Trod enc Tryd.prog W 0 (fun _ => true) true 22 v d p) (bel : Below W.heap.size W W') :
    DataW.Trod enc Tryd.prog W' 0 (fun b => decide (b < W.heap.size)) true 22 v d p := Below.trod laidOut (by kernel_rfl) (of_decide_eq_true (by kernel_rfl)) h1 bel (trod_place_lt h1)
theorem ops_again {H : Type} {enc : TypeId × Value → H} {W W' : World} {v : Value} {d : DataW H} {p : List MemPlace} (h1 : DataW.Trod enc Tryd.prog W 0 (fun _ => true) true 59 v d p) (bel : Below W.heap.size W W') :
    DataW.Trod enc Tryd.prog W' 0 (fun b => decide (b < W.heap.size)) true 59 v d p := Below.trod laidOut (by kernel_rfl) (of_decide_eq_true (by kernel_rfl)) h1 bel (trod_place_lt h1)

theorem weights_all {H : Type} {P : Program} {e : TypeId} : ∀ {l : List (DataW H)} {d : DataW H}, d ∈ l → ∀ n ∈ d.weights P e, n ∈ DataW.weightsAll P e l
  | [], _, h => by cases h
  | x :: r, d, h => fun n hn => by
    simp only [DataW.weightsAll, List.mem_append]
    rcases List.mem_cons.1 h with rfl | h
    · exact .inl hn
    · exact .inr (weights_all h n hn)

/-- a list of acts -/
theorem open_acts {H : Type} {enc : TypeId × Value → H} {W : World} {fuel : Nat} {v : Value} {y : DataW H × List MemPlace} (h : DataW.trod enc Tryd.prog W 0 (fun _ => true) true fuel 49 [v] = some y) : ∃ l : List ActV, ASl W v l := by
  rcases Go.Deep.open_slice Tryd.underlying49 h with ⟨hcs, _⟩ | ⟨a, len, cap, m, n, D, Pl, hcs, _, hl, hm, hmm, hx, hel⟩
  · simp at hcs
    subst hcs
    exact ⟨[], none, 0, rfl, Nat.le_refl _, by unfold maxLen; omega, by simp, by simp⟩
  · simp at hcs
    subst hcs
    simp only [if_true] at hmm
    subst hmm
    have each : ∀ i, i < len → ∃ s : ActV, (i64ok s.kind ∧ i64ok s.a ∧ i64ok s.b) ∧ W.cell? (a.add (i * 3)) = some (.int .i64 s.kind) ∧ W.cell? (a.add (i * 3 + 1)) = some (.int .i64 s.a) ∧ W.cell? (a.add (i * 3 + 2)) = some (.int .i64 s.b) := by
      intro i hi
      obtain ⟨cs', h1, h2⟩ := hel i (by omega)
      rw [cellsAct] at h1
      obtain ⟨_, hlen, hcell⟩ := World.cells?_some h1
      obtain ⟨xs, k, hk, hxy, _, hxl, hfd⟩ := DataW.trod_struct Tryd.underlying139 h2
      match xs, hxl, cs', hlen with
      | [y0, y1, y2], _, [v0, v1, v2], _ =>
        have g0 := hfd 0 _ rfl
        have g1 := hfd 1 _ rfl
        have g2 := hfd 2 _ rfl
        simp [cellsInt] at g0 g1 g2
        have e0 := hcell 0 (by omega)
        have e1 := hcell 1 (by omega)
        have e2 := hcell 2 (by omega)
        rw [Go.Deep.add_add] at e0 e1 e2
        obtain ⟨z0, hz0, _, wf0⟩ := DataW.trod_int Tryd.underlying3 g0
        obtain ⟨z1, hz1, _, wf1⟩ := DataW.trod_int Tryd.underlying3 g1
        obtain ⟨z2, hz2, _, wf2⟩ := DataW.trod_int Tryd.underlying3 g2
        simp at hz0 hz1 hz2
        subst hz0 hz1 hz2
        exact ⟨⟨z0, z1, z2⟩, ⟨bounds_i64 wf0, bounds_i64 wf1, bounds_i64 wf2⟩, by simpa using e0, by simpa using e1, by simpa using e2⟩
    haveI : Inhabited ActV := ⟨⟨0, 0, 0⟩⟩
    obtain ⟨f, hfa⟩ := Go.Deep.choose_lt each
    refine ⟨(List.range len).map f, some a, m, by simp, by simpa using hl, hm, ?_, ?_⟩
    · intro s hs
      obtain ⟨i, hi, rfl⟩ := List.mem_map.1 hs
      exact (hfa i (List.mem_range.1 hi)).1
    · intro hpos
      simp only [List.length_map, List.length_range] at hpos
      obtain ⟨b, off, spot⟩ := a
      have hspot : spot = none := by simpa [Addr.add] using World.cell?_spot (hfa 0 hpos).2.1
      subst hspot
      refine ⟨b, off, rfl, fun i hi => ?_⟩
      simp only [List.length_map, List.length_range] at hi
      have h := hfa i hi
      simp only [List.getElem_map, List.getElem_range]
      refine ⟨?_, ?_, ?_⟩
      · rw [← Addr.add_lit]; exact h.2.1
      · rw [Nat.add_assoc, ← Addr.add_lit]; exact h.2.2.1
      · rw [Nat.add_assoc, ← Addr.add_lit]; exact h.2.2.2

theorem open_ops {H : Type} {enc : TypeId × Value → H} {W : World} {base : Nat} {v : Value} {d : DataW H} {p : List MemPlace} {ts : List TypeId} {ds : List (DataW H)} (j : Nat) (hts : ts[j]? = some 59) (hds : ds[j]? = some d)
    (hsz : (DataW.weightsEach Tryd.prog ts ds).all (· ≤ reachBytes) = true)
    (hok : Value.okWide Tryd.prog W .any base 59 v) (h1 : DataW.Trod enc Tryd.prog W 0 (fun _ => true) true 59 v d p) : ∃ os : List OpV, OSl W v os := by
  obtain ⟨a1, len1, cap1, rfl⟩ := okWide_slice Tryd.underlying59 hok
  obtain ⟨fuel, hf⟩ := h1
  rcases Go.Deep.open_slice Tryd.underlying59 hf with ⟨hcs, _⟩ | ⟨a, len, cap, m, n, D, Pl, hcs, _, hl, hm, hmm, hx, hel⟩
  · simp [Value.cells] at hcs
    obtain ⟨rfl, rfl, rfl⟩ := hcs
    exact ⟨[], none, 0, rfl, Nat.le_refl _, by unfold maxLen; omega, by simp, by simp⟩
  · simp [Value.cells] at hcs
    obtain ⟨rfl, rfl, rfl⟩ := hcs
    simp only [if_true] at hmm
    subst hmm
    have hwD : ∀ i, i < len1 → ∀ k ∈ (D i).weights Tryd.prog 51, k ≤ reachBytes := fun i hi k hk => by
      have h0 := List.all_eq_true.1 hsz k (DataW.weights_mem_each hts hds k (by
        simp only [Prod.mk.injEq] at hx
        rw [hx.1]
        simp only [DataW.weights]
        rw [Tryd.underlying59]
        refine List.mem_cons_of_mem _ (List.mem_append_left _ (weights_all (d := D i) ?_ k hk))
        exact List.mem_map.2 ⟨i, List.mem_range.2 hi, rfl⟩))
      simpa using h0
    have each : ∀ i, i < len1 → ∃ s : OpV, OpOk W s ∧ W.cell? (a.add (i * 8)) = some (.int .i64 s.kind) ∧ W.cell? (a.add (i * 8 + 1)) = some (.bool s.sec) ∧ W.cell? (a.add (i * 8 + 2)) = some (.int .i64 s.a) ∧ W.cell? (a.add (i * 8 + 3)) = some (.int .i64 s.b) ∧
        W.cell? (a.add (i * 8 + 4)) = some s.wv ∧ W.cell? (a.add (i * 8 + 5)) = some s.bv ∧ W.cell? (a.add (i * 8 + 6)) = some s.av ∧ W.cell? (a.add (i * 8 + 7)) = some (.bool s.again) := by
      intro i hi
      obtain ⟨cs', h1, h2⟩ := hel i (by omega)
      have hwi := hwD i hi
      rw [cellsOp] at h1
      obtain ⟨_, hlen, hcell⟩ := World.cells?_some h1
      obtain ⟨xs, k, hk, hxy, _, hxl, hfd⟩ := DataW.trod_struct Tryd.underlying51 h2
      match xs, hxl, cs', hlen with
      | [y0, y1, y2, y3, y4, y5, y6, y7], _, [v0, v1, v2, v3, v4, v5, v6, v7], _ =>
        have g0 := hfd 0 _ rfl
        have g1 := hfd 1 _ rfl
        have g2 := hfd 2 _ rfl
        have g3 := hfd 3 _ rfl
        have g4 := hfd 4 _ rfl
        have g5 := hfd 5 _ rfl
        have g6 := hfd 6 _ rfl
        have g7 := hfd 7 _ rfl
        simp [cellsInt, cellsBool, cellsWords, cellsActs] at g0 g1 g2 g3 g4 g5 g6 g7
        have e0 := hcell 0 (by omega)
        have e1 := hcell 1 (by omega)
        have e2 := hcell 2 (by omega)
        have e3 := hcell 3 (by omega)
        have e4 := hcell 4 (by omega)
        have e5 := hcell 5 (by omega)
        have e6 := hcell 6 (by omega)
        have e7 := hcell 7 (by omega)
        rw [Go.Deep.add_add] at e0 e1 e2 e3 e4 e5 e6 e7
        obtain ⟨z0, hz0, _, wf0⟩ := DataW.trod_int Tryd.underlying3 g0
        obtain ⟨z1, hz1, _⟩ := DataW.trod_bool Tryd.underlying4 g1
        obtain ⟨z2, hz2, _, wf2⟩ := DataW.trod_int Tryd.underlying3 g2
        obtain ⟨z3, hz3, _, wf3⟩ := DataW.trod_int Tryd.underlying3 g3
        obtain ⟨z7, hz7, _⟩ := DataW.trod_bool Tryd.underlying4 g7
        simp at hz0 hz1 hz2 hz3 hz7
        subst hz0 hz1 hz2 hz3 hz7
        simp only [Prod.mk.injEq] at hxy
        obtain ⟨l, hb, hbl⟩ := open_field g4 (fun k hk => hwi k (by
          rw [hxy.1]
          simp only [DataW.weights]
          rw [Tryd.underlying51]
          exact DataW.weights_mem_each (j := 4) rfl rfl k hk))
        obtain ⟨bl, hbb⟩ := open_acts g5
        obtain ⟨al, hab⟩ := open_acts g6
        exact ⟨⟨z0, z1, z2, z3, v4, l, v5, bl, v6, al, z7⟩, ⟨hb, hbl, hbb, hab, bounds_i64 wf0, bounds_i64 wf2, bounds_i64 wf3⟩, by simpa using e0, by simpa using e1, by simpa using e2, by simpa using e3, by simpa using e4, by simpa using e5, by simpa using e6, by simpa using e7⟩
    haveI : Inhabited OpV := ⟨⟨0, false, 0, 0, .slice none 0 0, [], .slice none 0 0, [], .slice none 0 0, [], false⟩⟩
    obtain ⟨f, hfa⟩ := Go.Deep.choose_lt each
    refine ⟨(List.range len1).map f, some a, m, by simp, by simpa using hl, hm, ?_, ?_⟩
    · intro s hs
      obtain ⟨i, hi, rfl⟩ := List.mem_map.1 hs
      exact (hfa i (List.mem_range.1 hi)).1
    · intro hpos
      simp only [List.length_map, List.length_range] at hpos
      obtain ⟨b, off, spot⟩ := a
      have hspot : spot = none := by simpa [Addr.add] using World.cell?_spot (hfa 0 hpos).2.1
      subst hspot
      refine ⟨b, off, rfl, fun i hi => ?_⟩
      simp only [List.length_map, List.length_range] at hi
      obtain ⟨_, q0, q1, q2, q3, q4, q5, q6, q7⟩ := hfa i hi
      simp only [List.getElem_map, List.getElem_range]
      refine ⟨?_, ?_, ?_, ?_, ?_, ?_, ?_, ?_⟩
      · rw [← Addr.add_lit]; exact q0
      · rw [Nat.add_assoc, ← Addr.add_lit]; exact q1
      · rw [Nat.add_assoc, ← Addr.add_lit]; exact q2
      · rw [Nat.add_assoc, ← Addr.add_lit]; exact q3
      · rw [Nat.add_assoc, ← Addr.add_lit]; exact q4
      · rw [Nat.add_assoc, ← Addr.add_lit]; exact q5
      · rw [Nat.add_assoc, ← Addr.add_lit]; exact q6
      · rw [Nat.add_assoc, ← Addr.add_lit]; exact q7
end Go.Proofs.YtglajdmkbckjjabDoor
namespace Go.Proofs.YtglajdmkbckjjabDoor
open Go.ChangeShapes Go.WideShapes Go.ChangeAt Go.RowKit
set_option linter.unusedVariables false
set_option linter.unusedSimpArgs false
set_option maxRecDepth 20000

theorem bytesU8 : Tryd.prog.bytesOf 5 = 1 := by kernel_rfl
/-- bytes that came in: nil has no room -/
def CTl (w : World) (v : Value) (l : List Nat) : Prop := CSl w v l ∧ ∀ n cap, v = .slice none n cap → cap = 0
theorem csl_of_isrow {w : World} {a : Option Addr} {len cap : Nat} {zs : List Int} (h : IsRow .u8 w a len cap zs) : ∃ l : List Nat, l.length = len ∧ CSl w (.slice a len cap) l := by
  rcases h with ⟨rfl, rfl, rfl, rfl⟩ | ⟨x, rfl, hl, hm, hz, hcell, hwz⟩
  · exact ⟨[], rfl, none, 0, rfl, Nat.le_refl _, by unfold maxLen; omega, by simp, by simp⟩
  · have hlen : ((zs.take len).map Int.toNat).length = len := by simp; omega
    refine ⟨(zs.take len).map Int.toNat, hlen, _, cap, by rw [hlen], by omega, hm, ?_, ?_⟩
    · intro b hb
      obtain ⟨n, hn, rfl⟩ := List.mem_map.1 hb
      have := bounds_u8 (hwz n (List.mem_of_mem_take hn))
      omega
    · intro hp
      obtain ⟨b, off, rfl, hc⟩ := ints_at hcell (by omega)
      refine ⟨b, off, rfl, fun i hi => ?_⟩
      rw [hc i (by omega)]
      have hi' : i < zs.length := by omega
      have hb := bounds_u8 (hwz zs[i] (List.getElem_mem hi'))
      have hi2 : i < len := by omega
      have e2 : ((zs.take len).map Int.toNat).getD i 0 = zs[i].toNat := by
        simp [List.getD, hi', hi2]
      have e3 : zs.getD i 0 = zs[i] := by simp [List.getD, hi']
      rw [e2, e3, Int.toNat_of_nonneg hb.1]
theorem open_fieldB {H : Type} {enc : TypeId × Value → H} {W : World} {n : Nat} {v : Value} {y : DataW H × List MemPlace} (h : DataW.trod enc Tryd.prog W 0 (fun _ => true) true n 23 [v] = some y) (hw : ∀ k ∈ y.1.weights Tryd.prog 23, k ≤ reachBytes) : ∃ l : List Nat, CTl W v l ∧ l.length ≤ 140737488351232 := by
  rcases open_ints Tryd.underlying23 Tryd.underlying5 (by kernel_rfl) h with ⟨hcs, hy⟩ | ⟨x, len, cap, zs, hcs, _, hl, hm, hz, hx, hcell, hwz⟩
  · simp at hcs
    subst hcs
    exact ⟨[], ⟨⟨none, 0, rfl, Nat.le_refl _, by unfold maxLen; omega, by simp, by simp⟩, fun n cap e => by injection e with _ _ e3; exact e3.symm⟩, Nat.zero_le _⟩
  · simp at hcs
    subst hcs
    simp only [if_true] at hz
    obtain ⟨l, hll, hb⟩ := csl_of_isrow (.inr ⟨_, rfl, hl, hm, hz, hcell, hwz⟩)
    subst hx
    refine ⟨l, ⟨hb, fun n cap e => by injection e with e1; cases e1⟩, ?_⟩
    have := hw ((zs.length) * 1) (by
      simp only [DataW.weights]
      rw [Tryd.underlying23]
      simp only [lits, List.length_map, List.length_take, List.length_drop, bytesU8]
      rw [show min len zs.length + (zs.length - len) = zs.length by omega]
      exact List.mem_cons_self)
    unfold reachBytes at this
    omega
theorem open_bytes {H : Type} {enc : TypeId × Value → H} {W : World} {base : Nat} {v : Value} {d : DataW H} {p : List MemPlace} {ts : List TypeId} {ds : List (DataW H)} (j : Nat) (hts : ts[j]? = some 23) (hds : ds[j]? = some d)
    (hsz : (DataW.weightsEach Tryd.prog ts ds).all (· ≤ reachBytes) = true) (hok : Value.okWide Tryd.prog W .any base 23 v) (h1 : DataW.Trod enc Tryd.prog W 0 (fun _ => true) true 23 v d p) : ∃ l : List Nat, CTl W v l ∧ l.length ≤ 140737488351232 := by
  obtain ⟨a1, len1, cap1, rfl⟩ := okWide_slice Tryd.underlying23 hok
  obtain ⟨fuel, hf⟩ := h1
  refine open_fieldB hf fun k hk => ?_
  have := List.all_eq_true.1 hsz k (DataW.weights_mem_each hts hds k hk)
  simpa using this
theorem bytes_again {H : Type} {enc : TypeId × Value → H} {W W' : World} {v : Value} {d : DataW H} {p : List MemPlace} (h1 : DataW.Trod enc Tryd.prog W 0 (fun _ => true) true 23 v d p) (bel : Below W.heap.size W W') :
    DataW.Trod enc Tryd.prog W' 0 (fun b => decide (b < W.heap.size)) true 23 v d p := Below.trod laidOut (by kernel_rfl) (of_decide_eq_true (by kernel_rfl)) h1 bel (trod_place_lt h1)
end Go.Proofs.YtglajdmkbckjjabDoor
namespace Go.Proofs.YtglajdmkbckjjabDoor
open Go.ChangeShapes Go.WideShapes Go.ChangeAt Go.RowKit
set_option linter.unusedVariables false
set_option linter.unusedSimpArgs false
set_option maxRecDepth 20000

theorem cellsBytes : Tryd.prog.cellsOf 23 = 1 := by kernel_rfl
theorem cellsTwo : Tryd.prog.cellsOf 54 = 6 := by kernel_rfl
theorem six {cs : Array Value} (h : cs.size = 6) : ∃ v0 v1 v2 v3 v4 v5, cs = #[v0, v1, v2, v3, v4, v5] := by
  obtain ⟨l⟩ := cs
  match l, h with
  | [v0, v1, v2, v3, v4, v5], _ => exact ⟨v0, v1, v2, v3, v4, v5, rfl⟩
theorem open_two {H : Type} {enc : TypeId × Value → H} {W : World} {base : Nat} {v : Value} {d : DataW H} {p : List MemPlace} {ts : List TypeId} {ds : List (DataW H)} (j : Nat) (hts : ts[j]? = some 54) (hds : ds[j]? = some d)
    (hsz : (DataW.weightsEach Tryd.prog ts ds).all (· ≤ reachBytes) = true) (hok : Value.okWide Tryd.prog W .any base 54 v) (h1 : DataW.Trod enc Tryd.prog W 0 (fun _ => true) true 54 v d p) :
    ∃ (n m : Int) (wv ov cv hv : Value) (lw lo c : List Nat), v = .agg #[.int .i64 n, .int .i64 m, wv, ov, cv, hv] ∧ WSl W wv lw ∧ lw.length ≤ 17592186044416 ∧ WSl W ov lo ∧ lo.length ≤ 17592186044416 ∧ CSl W cv c ∧ c.length ≤ 140737488351232 := by
  obtain ⟨cs, rfl, hcs⟩ := okWide_struct Tryd.underlying54 hok
  obtain ⟨v0, v1, v2, v3, v4, v5, rfl⟩ := six (hcs.trans cellsTwo)
  obtain ⟨fuel, hf⟩ := h1
  obtain ⟨xs, k, hk, hxy, hl, hxl, hfd⟩ := DataW.trod_struct Tryd.underlying54 hf
  match xs, hxl with
  | [y0, y1, y2, y3, y4, y5], _ =>
    have g0 := hfd 0 _ rfl
    have g1 := hfd 1 _ rfl
    have g2 := hfd 2 _ rfl
    have g3 := hfd 3 _ rfl
    have g4 := hfd 4 _ rfl
    simp [cellsInt, cellsWords, cellsBytes, Value.cells] at g0 g1 g2 g3 g4
    obtain ⟨z0, hz0, _, wf0⟩ := DataW.trod_int Tryd.underlying3 g0
    obtain ⟨z1, hz1, _, wf1⟩ := DataW.trod_int Tryd.underlying3 g1
    simp at hz0 hz1
    subst hz0 hz1
    simp only [Prod.mk.injEq] at hxy
    obtain ⟨l2, b2, n2⟩ := open_field g2 (fun k hk => by
      have h0 := List.all_eq_true.1 hsz k (DataW.weights_mem_each hts hds k (by
        rw [hxy.1]
        simp only [DataW.weights]
        rw [Tryd.underlying54]
        exact DataW.weights_mem_each (j := 2) rfl rfl k hk))
      simpa using h0)
    obtain ⟨l3, b3, n3⟩ := open_field g3 (fun k hk => by
      have h0 := List.all_eq_true.1 hsz k (DataW.weights_mem_each hts hds k (by
        rw [hxy.1]
        simp only [DataW.weights]
        rw [Tryd.underlying54]
        exact DataW.weights_mem_each (j := 3) rfl rfl k hk))
      simpa using h0)
    obtain ⟨l4, b4, n4⟩ := open_fieldB g4 (fun k hk => by
      have h0 := List.all_eq_true.1 hsz k (DataW.weights_mem_each hts hds k (by
        rw [hxy.1]
        simp only [DataW.weights]
        rw [Tryd.underlying54]
        exact DataW.weights_mem_each (j := 4) rfl rfl k hk))
      simpa using h0)
    exact ⟨z0, z1, v2, v3, v4, v5, l2, l3, l4, rfl, b2, n2, b3, n3, b4.1, n4⟩
theorem two_again {H : Type} {enc : TypeId × Value → H} {W W' : World} {v : Value} {d : DataW H} {p : List MemPlace} (h1 : DataW.Trod enc Tryd.prog W 0 (fun _ => true) true 54 v d p) (bel : Below W.heap.size W W') :
    DataW.Trod enc Tryd.prog W' 0 (fun b => decide (b < W.heap.size)) true 54 v d p := Below.trod laidOut (by kernel_rfl) (of_decide_eq_true (by kernel_rfl)) h1 bel (trod_place_lt h1)
end Go.Proofs.YtglajdmkbckjjabDoor
