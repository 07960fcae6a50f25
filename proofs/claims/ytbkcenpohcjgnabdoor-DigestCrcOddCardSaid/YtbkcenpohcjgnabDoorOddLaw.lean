import Derived.Test.YtbkcenpohcjgnabDoorPublished
import Derived.Test.YtbkcenpohcjgnabDoorOnes
import Derived.Test.YtbkcenpohcjgnabDoorUpTo
namespace Go.Proofs.YtbkcenpohcjgnabDoor
open Go.RowKit
open Num
set_option linter.unusedVariables false
set_option linter.unusedSimpArgs false

theorem xorL_getD {l m : List Nat} {k : Nat} (h1 : k < l.length) (h2 : k < m.length) : (xorL l m).getD k 0 = l.getD k 0 ^^^ m.getD k 0 := by
  have e : (List.zipWith (fun a b => a ^^^ b) l m)[k]? = some (l[k] ^^^ m[k]) := by rw [List.getElem?_zipWith, List.getElem?_eq_getElem h1, List.getElem?_eq_getElem h2]
  simp only [xorL, List.getD, e, List.getElem?_eq_getElem h1, List.getElem?_eq_getElem h2, Option.getD_some]
theorem xorL_lt {l m : List Nat} (h1 : ∀ b ∈ l, b < 256) (h2 : ∀ b ∈ m, b < 256) : ∀ b ∈ xorL l m, b < 256 := by
  intro b hb
  obtain ⟨i, hi, rfl⟩ := List.getElem_of_mem hb
  simp only [xorL, List.length_zipWith] at hi
  simp only [xorL, List.getElem_zipWith]
  exact xor_byte (h1 _ (List.getElem_mem (by omega))) (h2 _ (List.getElem_mem (by omega)))
theorem bsl_new {w : World} {l : List Nat} {n : Nat} (hn : n = l.length) (hm : l.length ≤ maxLen) (hb : ∀ b ∈ l, b < 256) : BSl (w.alloc (.cells (l.map byteV).toArray 5)) (.slice (some ⟨w.heap.size, 0, none⟩) n n) l := by
  subst hn
  exact BSl.ofRow (Go.heap_alloc_new w _) (by show List.take l.length (l.map byteV) = _; rw [List.take_of_length_le (by rw [List.length_map]; omega)]) rfl (Nat.le_refl _) hm hb

set_option maxRecDepth 100000 in
set_option maxHeartbeats 1000000 in
theorem odd_walk (va vb : Value) (a b : List Nat) (w : World) (hT : Tabs w) (ha : BSl w va a) (hb : BSl w vb b) (hr : a.length ≤ 140737488351232) :
    Calls Tryd.prog 5 #[va, vb] w fun e w' => e = .returned (.bool true) ∧ Below w.heap.size w w' := by
  obtain ⟨N, hN⟩ : ∃ N, a.length = N := ⟨_, rfl⟩
  have HX := hide (upToL_len b N)
  have HXB := hide (upToL_lt N hb.bytes)
  have HAB := hide ha.bytes
  have HT := hide hT
  have HB := hide hb
  have HA := hide ha
  have hmk := run_make_row' (P := Tryd.prog) 22 5 (.int .u8 0) 1 Tryd.underlying22 Tryd.info5 rfl .i64 .i64 N (by omega) (by omega)
  have HUX := hide (fun wx hx => upTo_any vb b N wx hx (by omega))
  generalize upToL b N = x at *
  rw [made_fill (xorL a x) N] at hmk
  obtain ⟨pa, capa, rfl, hla, hma, hna, _, _⟩ := ha
  rw [hN] at hla HA ⊢
  have HN := hide hN
  have hNr : N ≤ 140737488351232 := by omega
  clear hb hT hna hN hr
  go_enter Tryd.func5, Tryd.ntmps5
  go_wp2_with fail
  refine (published_any _ HT.out).mono ?_
  rintro e w1 ⟨rfl, hb1⟩
  have HW1 := hide hb1
  have HA1 := hide (HA.out.below hb1)
  have HB1 := hide (HB.out.below hb1)
  clear hb1 HA HB
  go_wp2_with fail
  refine (HUX.out _ HB1.out).mono ?_
  rintro e w2 ⟨rfl, rfl⟩
  have HRX := hide (Go.heap_alloc_new w1 (.cells (x.map byteV).toArray 5))
  have HBW := hide (HW1.out.alloc HW1.out.size (.cells (x.map byteV).toArray 5))
  have HAW := hide (HA1.out.below (below_alloc w1 (.cells (x.map byteV).toArray 5)))
  have hsz2 : (w1.alloc (.cells (x.map byteV).toArray 5)).heap.size = w1.heap.size + 1 := by simp
  generalize w1.alloc (.cells (x.map byteV).toArray 5) = W at *
  clear HUX HA1 HB1
  go_wp2_with fail
  clear hmk
  have HZ' : Hid ((xorL a x).length = N) := by show _ = _; rw [xorL_len (by rw [HN.out, HX.out]), HN.out]
  have haw' := HAW.out
  obtain ⟨_, _, e, hq1, hq2, _, _, hca⟩ := haw'
  simp only [Value.slice.injEq] at e
  obtain ⟨rfl, hq3, rfl⟩ := e
  clear hq1 hq2 hq3
  rw [HN.out] at hca
  have HCA := hide hca
  clear hca
  go_loopw [7] (fun i wr => ∃ k : Nat, k ≤ N ∧ i = .int .i64 k ∧ ∃ j, wr = (W.alloc (.cells ((fillL (xorL a x) N k).map byteV).toArray 5)).drewN j) (fun i _ => N - (intOf i).toNat)
  case atStart => exact ⟨0, Nat.zero_le _, rfl, 0, rfl⟩
  case round =>
    obtain ⟨k, hk, rfl, j, hwr⟩ := hrel
    have hfl := fillL_len hk (by rw [HZ'.out]; exact hk)
    by_cases hlt : k < N
    · obtain ⟨b0, off, rfl, hcell⟩ := HCA.out (by omega)
      have hkA : k < a.length := by rw [HN.out]; exact hlt
      have hkX : k < x.length := by rw [HX.out]; exact hlt
      have hA0 := hcell k hlt
      have hbel := below_alloc W (.cells ((fillL (xorL a x) N k).map byteV).toArray 5)
      have hcw : ∀ q, wr.cell? q = (W.alloc (.cells ((fillL (xorL a x) N k).map byteV).toArray 5)).cell? q := fun q => by rw [hwr]; rfl
      have hcA : wr.cell? ⟨b0, off + k, none⟩ = some (.int .u8 (a.getD k 0 : Nat)) := by rw [hcw, hbel.cell (p := ⟨b0, off + k, none⟩) (World.block_lt_of_cell? W _ hA0)]; exact hA0
      have hcX : wr.cell? ⟨w1.heap.size, k, none⟩ = some (.int .u8 (x.getD k 0 : Nat)) := by rw [hcw, cell_of_row _ _ _ _ _ _ (heap_more _ HRX.out), List.getElem?_toArray, map_byteV_getD hkX]
      have hnew := Go.heap_alloc_new W (.cells ((fillL (xorL a x) N k).map byteV).toArray 5)
      rw [hsz2] at hnew
      obtain ⟨u0, hcZ⟩ : ∃ u, wr.cell? ⟨w1.heap.size + 1, k, none⟩ = some u := by
        rw [hcw, cell_of_row _ _ _ _ _ _ hnew, List.getElem?_toArray]
        exact ⟨_, List.getElem?_eq_getElem (by rw [List.length_map, hfl]; exact hlt)⟩
      have hfZ : wr.frozen? ⟨w1.heap.size + 1, k, none⟩ = false := by
        rw [hwr]; exact frozen_of_row _ _ k _ _ hnew
      have hbA := HAB.out _ (mem_getD hkA)
      have hbX := HXB.out _ (mem_getD hkX)
      have hx1 := u8_xor_nat (a.getD k 0) (x.getD k 0) hbA hbX
      have hD : (xorL a x).getD k 0 = a.getD k 0 ^^^ x.getD k 0 := xorL_getD hkA hkX
      have HST : Hid (wr.drew.setCell ⟨w1.heap.size + 1, k, none⟩ (.int .u8 ((a.getD k 0 ^^^ x.getD k 0 : Nat) : Int)) = (W.alloc (.cells ((fillL (xorL a x) N (k + 1)).map byteV).toArray 5)).drewN (j + 1)) := by
        show _ = _
        rw [← fillL_set hlt (by rw [HZ'.out]; exact hlt), hD, List.map_set, ← List.setIfInBounds_toArray, hwr, ← hsz2]
        show ((W.alloc _).setCell _ _).drewN (j + 1) = _
        rw [World.setCell_alloc_new]; rfl
      generalize a.getD k 0 = xa at *
      generalize x.getD k 0 = xx at *
      generalize xa ^^^ xx = z1 at *
      clear hwr hcw hnew hbel hcell hA0 hfl hD
      go_wp2_with fail
      refine wp_still_tail 12 (by kernel_rfl) (by kernel_rfl) ?_
      simp only [List.take_succ_cons, List.take_zero, List.drop_succ_cons, List.drop_zero]
      repeat still_step
      refine wpStill_nil ?_
      go_wp2_with fail
      go_roundw
      case rel => exact ⟨k + 1, by omega, by go_num, j + 1, HST.out⟩
      case measure => simp [intOf]; omega
    · have hkN : k = N := by omega
      subst hkN
      have hfe : fillL (xorL a x) k k = xorL a x := by rw [fillL, Nat.sub_self, List.replicate_zero, List.append_nil, List.take_of_length_le (by rw [HZ'.out]; omega)]
      rw [hfe] at hwr
      have hbel := HBW.out.alloc HBW.out.size (.cells ((xorL a x).map byteV).toArray 5)
      have HW : Hid (Below w.heap.size w wr) := by rw [hwr]; exact below_drewN hbel j
      have HZS : Hid (BSl wr (.slice (some ⟨w1.heap.size + 1, 0, none⟩) k k) (xorL a x)) := by
        rw [hwr, ← hsz2]; exact (bsl_new HZ'.out.symm (by rw [HZ'.out]; unfold maxLen; omega) (xorL_lt HAB.out HXB.out)).drewN j
      have HXS : Hid (BSl wr (.slice (some ⟨w1.heap.size, 0, none⟩) k k) x) := by
        rw [hwr]; exact (BSl.ofRow (heap_more _ HRX.out) (by show List.take k (x.map byteV) = _; rw [List.take_of_length_le (by rw [List.length_map, HX.out]; omega)]) HX.out.symm (Nat.le_refl _) (by unfold maxLen; omega) HXB.out).drewN j
      have HAS : Hid (BSl wr (.slice pa k capa) a) := by
        rw [hwr]; exact (HAW.out.below (below_alloc _ _)).drewN j
      have HOD := hide (odd_tells (l := a) (m := x) (by rw [HN.out, HX.out]) HAB.out HXB.out)
      have hca := crcM_lt (c := 0) a (by omega) HAB.out
      have hcx := crcM_lt (c := 0) x (by omega) HXB.out
      have hol := onesL_le (xorL a x)
      rw [HZ'.out] at hol
      clear hbel hwr hfe hfl HRX HCA hlt HBW HAW
      go_wp2_with fail
      refine (ones_any _ _ _ HZS.out (by rw [HZ'.out]; omega)).mono ?_
      rintro e wy ⟨rfl, rfl⟩
      generalize onesL (xorL a x) = on at *
      by_cases h0 : on % 2 = 0
      · have h0I : (on : Int) % 2 = 0 := by omega
        go_wp2_with fail
        go_ret
        exact ⟨rfl, HW.out⟩
      · have h0I : ¬ (on : Int) % 2 = 0 := by omega
        have h1I : (on : Int) % 2 = 1 := by omega
        have hne := HOD.out (by omega)
        go_wp2_with fail
        refine (copied_any _ a _ HAS.out (by rw [HN.out]; omega)).mono ?_
        rintro e w5 ⟨v5, rfl, ho5, hb5⟩
        have HQ5 := hide ho5.bsl
        have HW5 := hide (HW.out.trans (hb5.mono HW.out.size))
        have HX5 := hide (HXS.out.below hb5)
        clear ho5 hb5 HZS HXS HAS
        go_wp2_with fail
        refine (crc_any _ _ _ HQ5.out).mono ?_
        rintro e wy ⟨rfl, rfl⟩
        go_wp2_with fail
        refine (crc_any _ _ _ HX5.out).mono ?_
        rintro e wy ⟨rfl, rfl⟩
        clear HQ5 HX5 HOD
        generalize crcM 0 a = c1 at *
        generalize crcM 0 x = c2 at *
        have hneI : ¬ (c1 : Int) = (c2 : Int) := by omega
        go_wp2_with fail
        go_ret
        refine ⟨?_, HW5.out⟩
        show Ending.returned (.bool ((c1 : Int) != (c2 : Int))) = _
        rw [show ((c1 : Int) != (c2 : Int)) = true by simpa using hneI]
end Go.Proofs.YtbkcenpohcjgnabDoor
