import Derived.Test.YtacjibfmhhmbcaaWLaw0
namespace Go.Proofs.Ytacjibfmhhmbcaa
open Go.RowKit
open Num
set_option linter.unusedVariables false
set_option linter.unusedSimpArgs false

/-- two boxes of frames: the one that was handed in, and one's own -/
structure TBx (w x : World) (k : Int) (a b c d : Nat) (vp vo : Value) : Prop where
  f : x.heap[w.heap.size]? = some (.cells #[.int .i64 k, .int .u32 (a : Int), .int .u32 (b : Int), .int .u32 (c : Int), .int .u32 (d : Int), vp] 25 (0, 0))
  o : x.heap[w.heap.size + 1]? = some (.cells #[.int .i64 k, .int .u32 (a : Int), .int .u32 (b : Int), .int .u32 (c : Int), .int .u32 (d : Int), vo] 25 (0, 0))
  bel : Below w.heap.size w x
  sz : w.heap.size + 2 ≤ x.heap.size
theorem TBx.on {w x y : World} {k : Int} {a b c d : Nat} {vp vo : Value} (h : TBx w x k a b c d vp vo) {N : Nat} (hb : Below N x y) (hN : w.heap.size + 2 ≤ N) : TBx w y k a b c d vp vo :=
  ⟨by rw [hb.block _ (by omega)]; exact h.f, by rw [hb.block _ (by omega)]; exact h.o, h.bel.trans (hb.mono (by omega)), Nat.le_trans h.sz hb.size⟩
theorem TBx.next {w x y : World} {k : Int} {a b c d : Nat} {vp vo : Value} (h : TBx w x k a b c d vp vo) (hb : Below x.heap.size x y) : TBx w y k a b c d vp vo := h.on hb h.sz
theorem row6 {x : World} {g : Nat} {v0 v1 v2 v3 v4 v5 : Value} {t : TypeId} (hr : x.heap[g]? = some (.cells #[v0, v1, v2, v3, v4, v5] t (0, 0))) :
    x.cell? ⟨g, 0, none⟩ = some v0 ∧ x.cell? ⟨g, 1, none⟩ = some v1 ∧ x.cell? ⟨g, 2, none⟩ = some v2 ∧ x.cell? ⟨g, 3, none⟩ = some v3 ∧ x.cell? ⟨g, 4, none⟩ = some v4 ∧ x.cell? ⟨g, 5, none⟩ = some v5 ∧ x.frozen? ⟨g, 5, none⟩ = false :=
  ⟨by rw [cell_of_row _ _ _ _ _ _ hr]; rfl, by rw [cell_of_row _ _ _ _ _ _ hr]; rfl, by rw [cell_of_row _ _ _ _ _ _ hr]; rfl, by rw [cell_of_row _ _ _ _ _ _ hr]; rfl, by rw [cell_of_row _ _ _ _ _ _ hr]; rfl, by rw [cell_of_row _ _ _ _ _ _ hr]; rfl, frozen_of_row _ _ _ _ _ hr⟩
theorem TBx.set {w x : World} {k : Int} {a b c d : Nat} {vp vo : Value} (h : TBx w x k a b c d vp vo) (v : Value) : TBx w (x.setCell ⟨w.heap.size + 1, 5, none⟩ v) k a b c d vp v :=
  ⟨by rw [Go.heap_setCell_other _ _ _ _ (by show w.heap.size ≠ w.heap.size + 1; omega)]; exact h.f, by rw [Go.heap_setCell_same x (w.heap.size + 1) 5 _ 25 _ h.o]; rfl, h.bel.setCell (by show w.heap.size ≤ w.heap.size + 1; omega) _, by simpa using h.sz⟩

set_option maxHeartbeats 2000000 in
theorem wireFrame_law (w : World) (k : Int) (a b c d : Nat) (vp : Value) (p : List Nat) (hp : BSl w vp p) (hk : -9223372036854775808 ≤ k ∧ k ≤ 9223372036854775807) (hpl : p.length ≤ 140737488351232) (ha : a < 4294967296) (hb : b < 4294967296) (hc : c < 4294967296) (hd' : d < 4294967296) :
    Calls Try.prog 3 #[frV k a b c d vp] w fun e w' => e = .returned (.bool true) ∧ Below w.heap.size w w' := by
  unfold frV
  have HP := hide hp
  obtain ⟨pa, pcap, rfl, hl1, hl2, hl3, _, _⟩ := id hp
  unfold maxLen at hl2
  have T0 : TBx w ((w.alloc (.cells #[.int .i64 k, .int .u32 (a : Int), .int .u32 (b : Int), .int .u32 (c : Int), .int .u32 (d : Int), .slice pa p.length pcap] 25)).alloc (.cells #[.int .i64 k, .int .u32 (a : Int), .int .u32 (b : Int), .int .u32 (c : Int), .int .u32 (d : Int), .slice pa p.length pcap] 25)) k a b c d (.slice pa p.length pcap) (.slice pa p.length pcap) := by
    refine ⟨?_, ?_, ((Below.refl _ _).alloc (Nat.le_refl _) _).alloc (by simp) _, by simp⟩
    · rw [RowKit.Below.heap_alloc _ _ _ (by simp)]; exact Go.heap_alloc_new w _
    · have := Go.heap_alloc_new (w.alloc (.cells #[.int .i64 k, .int .u32 (a : Int), .int .u32 (b : Int), .int .u32 (c : Int), .int .u32 (d : Int), .slice pa p.length pcap] 25)) (.cells #[.int .i64 k, .int .u32 (a : Int), .int .u32 (b : Int), .int .u32 (c : Int), .int .u32 (d : Int), .slice pa p.length pcap] 25)
      simpa using this
  have HT0 := hide T0
  have HRM := hide (roomy_any _ p _ (HP.out.below T0.bel) (by omega))
  have HE1 := hide fun (x : World) (vo : Value) (h : BSl x vo p) => encodeFrame_any x k a b c d vo p h hk hpl ha hb hc hd'
  have HE2 := hide fun (x : World) (h : BSl x (.slice pa p.length pcap) p) => rEncodeFrame_any x k a b c d _ p h hk hpl ha hb hc hd'
  have hfb : (fbytes k a b c d p).length ≤ 140737488355328 := by
    unfold fbytes
    split
    · rw [frm_len]; omega
    · simp
  clear hp hl3 T0
  rename_i dead1 dead2
  clear dead1 dead2
  go_enter Try.func3, Try.ntmps3
  have hlen : p.length + 40 = (p ++ marks 40).length := by simp [marks_len]
  have HLEN := hide hlen
  have HUT := hide fun (x : World) (g cap base : Nat) (h : BSl x (.slice pa p.length pcap) p) (ho : Own x base (.slice (some ⟨g, 0, none⟩) (p.length + 40) cap) (p ++ marks 40)) => untouched_any g cap _ p x base h (by omega) (by rw [← HLEN.out]; exact ho)
  have HSZ := hide (show ((w.alloc (.cells #[.int .i64 k, .int .u32 (a : Int), .int .u32 (b : Int), .int .u32 (c : Int), .int .u32 (d : Int), .slice pa p.length pcap] 25)).alloc (.cells #[.int .i64 k, .int .u32 (a : Int), .int .u32 (b : Int), .int .u32 (c : Int), .int .u32 (d : Int), .slice pa p.length pcap] 25)).heap.size = w.heap.size + 2 by simp)
  clear hlen
  go_wp2_with (first
    | (go_at_call 5; refine HRM.out.mono ?_; rintro e x1 ⟨vd, rfl, od, bd⟩; clear HRM
       obtain ⟨g, cap, rfl, hg, _, _, _⟩ := od.shape (by simp [marks_len])
       rw [HSZ.out] at hg od
       have HT1 := hide (HT0.out.next bd)
       have HOD : Hid (Own x1 (w.heap.size + 2) (.slice (some ⟨g, 0, none⟩) (p.length + 40) cap) (p ++ marks 40)) := hide (by rw [HLEN.out]; exact od)
       clear od bd HT0
       rw [← HLEN.out]
       have HGI := hide (given_all g cap (p.length + 40) (w.heap.size + 2) _ p (marks 40) x1 (HP.out.below HT1.out.bel) HLEN.out HOD.out)
       obtain ⟨a0, a1, a2, a3, a4, a5, a6⟩ := row6 HT1.out.f
       obtain ⟨b0, b1, b2, b3, b4, b5, b6⟩ := row6 HT1.out.o)
    | (go_at_call 6; refine HGI.out.mono ?_; rintro e x2 ⟨ao, co, rfl, rfl, hvo⟩; clear HGI
       have HT2 := hide (HT1.out.set (.slice ao p.length co))
       have HOD2 := hide (HOD.out.keptIf (fun j hj => (Go.heap_setCell_other _ _ _ _ (by simp only [Value.ownBlock, Option.some.injEq] at hj; show j ≠ w.heap.size + 1; omega) : (x2.setCell ⟨w.heap.size + 1, 5, none⟩ (.slice ao p.length co)).heap[j]? = x2.heap[j]?)))
       have HVO := hide (hvo _ HOD2.out)
       clear hvo HOD
       obtain ⟨c0, c1, c2, c3, c4, c5, c6⟩ := row6 HT2.out.f
       obtain ⟨d0, d1, d2, d3, d4, d5, d6⟩ := row6 HT2.out.o
       have HEN := hide (HE1.out _ _ HVO.out))
    | (go_at_call 7; refine HEN.out.mono ?_; rintro e x3 ⟨vb, rfl, ob, bb⟩; clear HEN
       have HT3 := hide (HT2.out.next bb)
       have HOB := hide ob
       have HBB := hide bb
       have HSX2 := hide HT2.out.sz
       clear ob bb c0 c1 c2 c3 c4 c5 c6 d0 d1 d2 d3 d4 d5 d6
       obtain ⟨c0, c1, c2, c3, c4, c5, c6⟩ := row6 HT3.out.f
       obtain ⟨d0, d1, d2, d3, d4, d5, d6⟩ := row6 HT3.out.o
       have HEN2 := hide (HE2.out _ (HP.out.below HT3.out.bel)))
    | (go_at_call 8; refine HEN2.out.mono ?_; rintro e x4 ⟨vc, rfl, oc, bc⟩; clear HEN2
       have HT4 := hide (HT3.out.next bc)
       have HSA := hide (same_eq vb vc _ x4 (HOB.out.bsl.below bc) oc.bsl)
       have HOB4 := hide (HOB.out.kept bc)
       have HB24 := hide (HBB.out.trans (bc.mono HBB.out.size))
       clear bc oc c0 c1 c2 c3 c4 c5 c6 d0 d1 d2 d3 d4 d5 d6
       obtain ⟨c0, c1, c2, c3, c4, c5, c6⟩ := row6 HT4.out.f
       obtain ⟨d0, d1, d2, d3, d4, d5, d6⟩ := row6 HT4.out.o
       have HOD4 := hide (HOD2.out.kept HB24.out)
       have HVO4 := hide (HVO.out.below HB24.out))
    | (go_at_call 9; refine (num_any _ _).mono ?_; rintro e x ⟨rfl, rfl⟩)
    | (go_at_call 10; refine HSA.out.mono ?_; rintro e y ⟨rfl, n, rfl⟩; clear HSA)
    | (go_at_call 11; refine (HUT.out _ g cap (w.heap.size + 2) ((HP.out.below HT4.out.bel).drewN n) HOD4.out).mono ?_; rintro e y ⟨rfl, n2, rfl⟩; clear HUT)
    | (go_at_call 12; refine (spoil_own _ _ vb _ hfb (show Own (World.drewN _ (n + n2)) _ vb _ from HOB4.out)).mono ?_; rintro e x5 ⟨rfl, b5', s5, _⟩
       have HT5 := hide (HT4.out.on ((below_drewN (Below.refl _ _) (n + n2)).trans b5') HSX2.out)
       have HVO5 := hide (HVO.out.below (HB24.out.trans ((below_drewN (Below.refl _ _) (n + n2)).trans b5')))
       clear b5' s5 c0 c1 c2 c3 c4 c5 c6 d0 d1 d2 d3 d4 d5 d6
       obtain ⟨c0, c1, c2, c3, c4, c5, c6⟩ := row6 HT5.out.f
       obtain ⟨d0, d1, d2, d3, d4, d5, d6⟩ := row6 HT5.out.o
       have HSF := hide (sameFrame_eq x5 k a b c d _ _ p HVO5.out (HP.out.below HT5.out.bel)))
    | (go_at_call 13; refine HSF.out.mono ?_; rintro e x6 ⟨rfl, b6'⟩; have HBF := hide (HT5.out.next b6').bel; clear b6' HSF))
  go_ret
  exact ⟨rfl, HBF.out⟩
end Go.Proofs.Ytacjibfmhhmbcaa
