import Derived.Test.YtacjibfmhhmbcaaWRd3
namespace Go.Proofs.Ytacjibfmhhmbcaa
open Go.RowKit
open Num
set_option linter.unusedVariables false
set_option linter.unusedSimpArgs false

theorem Own.sl {w : World} {base : Nat} {v : Value} {l : List Nat} (h : Own w base v l) : ∃ a c, v = .slice a l.length c := by
  rcases h.1.2 with ⟨rfl, h0⟩ | ⟨g, cap, cur, rfl, h1, hg, r⟩
  · exact ⟨none, 0, by rw [h0]⟩
  · exact ⟨_, cap, rfl⟩
theorem derr_le (l : List Nat) : derr l ≤ 76 := by
  unfold derr ferr
  repeat' split
  all_goals omega
theorem row6k {x y : World} {N g : Nat} {cs : Array Value} {t : TypeId} (hr : x.heap[g]? = some (.cells cs t (0, 0))) (hb : Below N x y) (hg : g < N) : y.heap[g]? = some (.cells cs t (0, 0)) := by rw [hb.block _ hg]; exact hr

set_option maxHeartbeats 2000000 in
theorem wireUnframe_law (w : World) (v : Value) (l : List Nat) (h : BSl w v l) (hl : l.length ≤ 140737488351232) :
    Calls Try.prog 4 #[v] w fun e w' => e = .returned (.bool true) ∧ Below w.heap.size w w' := by
  have HP := hide h
  obtain ⟨pa, pcap, rfl, hl1, hl2, hl3, _, _⟩ := id h
  unfold maxLen at hl2
  have HRM := hide (roomy_any _ l w h (by omega))
  have hlen : l.length + 40 = (l ++ marks 40).length := by simp [marks_len]
  have HLEN := hide hlen
  have HUT := hide fun (x : World) (g cap base : Nat) (h : BSl x (.slice pa l.length pcap) l) (ho : Own x base (.slice (some ⟨g, 0, none⟩) (l.length + 40) cap) (l ++ marks 40)) => untouched_any g cap _ l x base h (by omega) (by rw [← HLEN.out]; exact ho)
  clear h hl3 hlen
  rename_i dead1 dead2
  clear dead1 dead2
  go_enter Try.func4, Try.ntmps4
  go_wp2_with (first
    | (go_at_call 5; refine HRM.out.mono ?_; rintro e x1 ⟨vd, rfl, od, bd⟩; clear HRM
       obtain ⟨g, cap, rfl, hg, _, _, _⟩ := od.shape (by simp [marks_len])
       have HOD : Hid (Own x1 w.heap.size (.slice (some ⟨g, 0, none⟩) (l.length + 40) cap) (l ++ marks 40)) := hide (by rw [HLEN.out]; exact od)
       have HB1 := hide bd
       have HG1 := hide (show g < x1.heap.size by rcases od.1.lt g rfl with ⟨_, h⟩; exact h)
       clear od bd
       rw [← HLEN.out]
       have HGI := hide (given_all g cap (l.length + 40) w.heap.size _ l (marks 40) x1 (HP.out.below HB1.out) HLEN.out HOD.out))
    | (go_at_call 6; refine HGI.out.mono ?_; rintro e x ⟨ao, co, rfl, hw, hvo⟩; rw [hw]; clear hw HGI
       have HDE := hide (decodeFrame_any x1 _ l (hvo _ HOD.out))
       clear hvo)
    | (go_at_call 14; refine HDE.out.mono ?_; rintro e x2 ⟨v1, rfl, o1, b1⟩; clear HDE
       obtain ⟨a1, c1, rfl⟩ := o1.sl
       have HO1 := hide o1
       have HB2 := hide b1
       clear o1 b1
       have HA2 : Hid (Below x2.heap.size x2 (x2.alloc (.cells #[.int .i64 ((dk l : Nat) : Int), .int .u32 ((dw l 0 : Nat) : Int), .int .u32 ((dw l 1 : Nat) : Int), .int .u32 ((dw l 2 : Nat) : Int), .int .u32 ((dw l 3 : Nat) : Int), .slice a1 (dp l).length c1] 25))) := hide ((Below.refl _ _).alloc (Nat.le_refl _) _)
       have HB12 : Hid (Below w.heap.size w (x2.alloc (.cells #[.int .i64 ((dk l : Nat) : Int), .int .u32 ((dw l 0 : Nat) : Int), .int .u32 ((dw l 1 : Nat) : Int), .int .u32 ((dw l 2 : Nat) : Int), .int .u32 ((dw l 3 : Nat) : Int), .slice a1 (dp l).length c1] 25))) := hide (HB1.out.trans ((HB2.out.mono HB1.out.size).trans (HA2.out.mono (Nat.le_trans HB1.out.size HB2.out.size))))
       have HDR := hide (rDecodeFrame_any (x2.alloc (.cells #[.int .i64 ((dk l : Nat) : Int), .int .u32 ((dw l 0 : Nat) : Int), .int .u32 ((dw l 1 : Nat) : Int), .int .u32 ((dw l 2 : Nat) : Int), .int .u32 ((dw l 3 : Nat) : Int), .slice a1 (dp l).length c1] 25)) _ l (HP.out.below HB12.out))
       unfold frV)
    | (go_at_call 15; refine HDR.out.mono ?_; rintro e x3 ⟨v2, rfl, o2, b3⟩; clear HDR
       obtain ⟨a2, c2, rfl⟩ := o2.sl
       have hz2 : (x2.alloc (.cells #[.int .i64 ((dk l : Nat) : Int), .int .u32 ((dw l 0 : Nat) : Int), .int .u32 ((dw l 1 : Nat) : Int), .int .u32 ((dw l 2 : Nat) : Int), .int .u32 ((dw l 3 : Nat) : Int), .slice a1 (dp l).length c1] 25)).heap.size = x2.heap.size + 1 := by simp
       have HA3 : Hid (Below x3.heap.size x3 (x3.alloc (.cells #[.int .i64 ((dk l : Nat) : Int), .int .u32 ((dw l 0 : Nat) : Int), .int .u32 ((dw l 1 : Nat) : Int), .int .u32 ((dw l 2 : Nat) : Int), .int .u32 ((dw l 3 : Nat) : Int), .slice a2 (dp l).length c2] 25))) := hide ((Below.refl _ _).alloc (Nat.le_refl _) _)
       have h23 : x2.heap.size + 1 ≤ x3.heap.size := by have := b3.size; rw [hz2] at this; exact this
       have HB23 : Hid (Below x2.heap.size x2 (x3.alloc (.cells #[.int .i64 ((dk l : Nat) : Int), .int .u32 ((dw l 0 : Nat) : Int), .int .u32 ((dw l 1 : Nat) : Int), .int .u32 ((dw l 2 : Nat) : Int), .int .u32 ((dw l 3 : Nat) : Int), .slice a2 (dp l).length c2] 25))) := hide (HA2.out.trans ((b3.mono (by rw [hz2]; omega)).trans (HA3.out.mono (by omega))))
       have HB13 : Hid (Below x1.heap.size x1 (x3.alloc (.cells #[.int .i64 ((dk l : Nat) : Int), .int .u32 ((dw l 0 : Nat) : Int), .int .u32 ((dw l 1 : Nat) : Int), .int .u32 ((dw l 2 : Nat) : Int), .int .u32 ((dw l 3 : Nat) : Int), .slice a2 (dp l).length c2] 25))) := hide (HB2.out.trans (HB23.out.mono HB2.out.size))
       have HBW3 : Hid (Below w.heap.size w (x3.alloc (.cells #[.int .i64 ((dk l : Nat) : Int), .int .u32 ((dw l 0 : Nat) : Int), .int .u32 ((dw l 1 : Nat) : Int), .int .u32 ((dw l 2 : Nat) : Int), .int .u32 ((dw l 3 : Nat) : Int), .slice a2 (dp l).length c2] 25))) := hide (HB1.out.trans (HB13.out.mono HB1.out.size))
       have HO13 := hide (HO1.out.kept HB23.out)
       have HO23 : Hid (Own (x3.alloc (.cells #[.int .i64 ((dk l : Nat) : Int), .int .u32 ((dw l 0 : Nat) : Int), .int .u32 ((dw l 1 : Nat) : Int), .int .u32 ((dw l 2 : Nat) : Int), .int .u32 ((dw l 3 : Nat) : Int), .slice a2 (dp l).length c2] 25)) (x2.alloc (.cells #[.int .i64 ((dk l : Nat) : Int), .int .u32 ((dw l 0 : Nat) : Int), .int .u32 ((dw l 1 : Nat) : Int), .int .u32 ((dw l 2 : Nat) : Int), .int .u32 ((dw l 3 : Nat) : Int), .slice a1 (dp l).length c1] 25)).heap.size (.slice a2 (dp l).length c2) (dp l)) := hide (o2.kept HA3.out)
       have HR1 : Hid ((x3.alloc (.cells #[.int .i64 ((dk l : Nat) : Int), .int .u32 ((dw l 0 : Nat) : Int), .int .u32 ((dw l 1 : Nat) : Int), .int .u32 ((dw l 2 : Nat) : Int), .int .u32 ((dw l 3 : Nat) : Int), .slice a2 (dp l).length c2] 25)).heap[x2.heap.size]? = some (.cells #[.int .i64 ((dk l : Nat) : Int), .int .u32 ((dw l 0 : Nat) : Int), .int .u32 ((dw l 1 : Nat) : Int), .int .u32 ((dw l 2 : Nat) : Int), .int .u32 ((dw l 3 : Nat) : Int), .slice a1 (dp l).length c1] 25 (0, 0))) := hide (row6k (row6k (Go.heap_alloc_new x2 _) b3 (by rw [hz2]; omega)) HA3.out (by omega))
       have HR2 := hide (Go.heap_alloc_new x3 (.cells #[.int .i64 ((dk l : Nat) : Int), .int .u32 ((dw l 0 : Nat) : Int), .int .u32 ((dw l 1 : Nat) : Int), .int .u32 ((dw l 2 : Nat) : Int), .int .u32 ((dw l 3 : Nat) : Int), .slice a2 (dp l).length c2] 25))
       have HOD3 := hide (HOD.out.kept HB13.out)
       have HS12 := hide HB2.out.size
       have HS23 := hide h23
       have HZ2 := hide hz2
       clear o2 b3 hz2 h23
       unfold frV)
    | (go_at_call 9; refine (num_any _ _).mono ?_; rintro e x ⟨rfl, hw⟩; rw [hw]; clear hw)
    | (go_at_call 11; refine (HUT.out _ g cap w.heap.size (HP.out.below HBW3.out) HOD3.out).mono ?_; rintro e y ⟨rfl, n, hw⟩; rw [hw]; clear hw HUT)
    | (go_at_call 12; refine (spoil_own _ w.heap.size _ (l ++ marks 40) (by rw [← HLEN.out]; omega) (show Own ((x3.alloc (.cells #[.int .i64 ((dk l : Nat) : Int), .int .u32 ((dw l 0 : Nat) : Int), .int .u32 ((dw l 1 : Nat) : Int), .int .u32 ((dw l 2 : Nat) : Int), .int .u32 ((dw l 3 : Nat) : Int), .slice a2 (dp l).length c2] 25)).drewN n) _ _ _ from HOD3.out)).mono ?_; rintro e x5 ⟨rfl, b5, s5, ho⟩
       have HNE : Hid (∀ j, j ≠ g → x5.heap[j]? = (x3.alloc (.cells #[.int .i64 ((dk l : Nat) : Int), .int .u32 ((dw l 0 : Nat) : Int), .int .u32 ((dw l 1 : Nat) : Int), .int .u32 ((dw l 2 : Nat) : Int), .int .u32 ((dw l 3 : Nat) : Int), .slice a2 (dp l).length c2] 25)).heap[j]?) := hide fun j hj => ho j (by simp only [Value.ownBlock, ne_eq, Option.some.injEq]; intro e; exact hj e.symm)
       have HT1 : Hid (x5.heap[x2.heap.size]? = some (.cells #[.int .i64 ((dk l : Nat) : Int), .int .u32 ((dw l 0 : Nat) : Int), .int .u32 ((dw l 1 : Nat) : Int), .int .u32 ((dw l 2 : Nat) : Int), .int .u32 ((dw l 3 : Nat) : Int), .slice a1 (dp l).length c1] 25 (0, 0))) := hide (by rw [HNE.out _ (by have := HG1.out; have := HS12.out; omega)]; exact HR1.out)
       have HT2 : Hid (x5.heap[x3.heap.size]? = some (.cells #[.int .i64 ((dk l : Nat) : Int), .int .u32 ((dw l 0 : Nat) : Int), .int .u32 ((dw l 1 : Nat) : Int), .int .u32 ((dw l 2 : Nat) : Int), .int .u32 ((dw l 3 : Nat) : Int), .slice a2 (dp l).length c2] 25 (0, 0))) := hide (by rw [HNE.out _ (by have := HG1.out; have := HS12.out; have := HS23.out; omega)]; exact HR2.out)
       have HV1 := hide (HO13.out.keptIf (w' := x5) fun j hj => HNE.out j (by have := (HO13.out.1.lt j hj).1; have := HG1.out; omega))
       have HV2 := hide (HO23.out.keptIf (w' := x5) fun j hj => HNE.out j (by have h1 := (HO23.out.1.lt j hj).1; have := HG1.out; have := HS12.out; rw [HZ2.out] at h1; omega))
       have HBX5 := hide (HBW3.out.trans ((below_drewN (Below.refl _ _) n).trans b5))
       have HSF := hide (sameFrame_eq x5 ((dk l : Nat) : Int) (dw l 0) (dw l 1) (dw l 2) (dw l 3) _ _ (dp l) HV1.out.bsl HV2.out.bsl)
       unfold frV at HSF
       clear b5 s5 ho
       obtain ⟨r0, r1, r2, r3, r4, r5, q0, q1, q2, q3, q4, q5⟩ := row6f HT1.out
       obtain ⟨t0, t1, t2, t3, t4, t5, u0, u1, u2, u3, u4, u5⟩ := row6f HT2.out)
    | (go_at_call 13; refine HSF.out.mono ?_; rintro e x6 ⟨rfl, b6⟩; have HBF := hide (HBX5.out.trans (b6.mono HBX5.out.size)); clear b6 HSF))
  go_ret
  exact ⟨rfl, HBF.out⟩
end Go.Proofs.Ytacjibfmhhmbcaa
