import Derived.Test.YtbkcenpohcjgnaaDoorPublished
import Derived.Test.YtbkcenpohcjgnaaDoorCrcMath
import Derived.Test.YtbkcenpohcjgnaaDoorUpTo
namespace Go.Proofs.YtbkcenpohcjgnaaDoor
open Go.RowKit
open Num
set_option linter.unusedVariables false
set_option linter.unusedSimpArgs false

theorem xorL_getD {l m : List Nat} {k : Nat} (h1 : k < l.length) (h2 : k < m.length) : (xorL l m).getD k 0 = l.getD k 0 ^^^ m.getD k 0 := by
  have e : (List.zipWith (fun a b => a ^^^ b) l m)[k]? = some (l[k] ^^^ m[k]) := by rw [List.getElem?_zipWith, List.getElem?_eq_getElem h1, List.getElem?_eq_getElem h2]
  simp only [xorL, List.getD, e, List.getElem?_eq_getElem h1, List.getElem?_eq_getElem h2, Option.getD_some]
theorem xorL_lt {l m : List Nat} (h1 : ∀ b ∈ l, b < 256) (h2 : ∀ b ∈ m, b < 256) : ∀ b ∈ xorL l m, b < 256 := by
  intro b hb
  obtain ⟨i, hi, rfl⟩ := List.getElem_of_mem hb
  simp only [xorL, List.length_zipWith] at hi
  simp only [xorL, List.getElem_zipWith]
  exact xor_byte (h1 _ (List.getElem_mem (by omega))) (h2 _ (List.getElem_mem (by omega)))
theorem bsl_new {w : World} {l : List Nat} {n : Nat} (hn : n = l.length) (hm : l.length ≤ maxLen) (hb : ∀ b ∈ l, b < 256) : BSl (w.alloc (.cells (l.map byteV).toArray 5)) (.slice (some ⟨w.heap.size, 0, none⟩) n n) l := by
  subst hn
  exact BSl.ofRow (Go.heap_alloc_new w _) (by show List.take l.length (l.map byteV) = _; rw [List.take_of_length_le (by rw [List.length_map]; omega)]) rfl (Nat.le_refl _) hm hb

set_option maxRecDepth 100000 in
set_option maxHeartbeats 1000000 in
theorem sums_walk (va vb vc : Value) (a b c : List Nat) (w : World) (hT : Tabs w) (ha : BSl w va a) (hb : BSl w vb b) (hc : BSl w vc c) (hr : a.length ≤ 140737488351232) :
    Calls Tryd.prog 5 #[va, vb, vc] w fun e w' => e = .returned (.bool true) ∧ Below w.heap.size w w' := by
  obtain ⟨N, hN⟩ : ∃ N, a.length = N := ⟨_, rfl⟩
  have HX := hide (upToL_len b N)
  have HY := hide (upToL_len c N)
  have HXB := hide (upToL_lt N hb.bytes)
  have HYB := hide (upToL_lt N hc.bytes)
  have HAB := hide ha.bytes
  have HA := hide ha
  have HB := hide hb
  have HC := hide hc
  have HT := hide hT
  have hmk := run_make_row' (P := Tryd.prog) 22 5 (.int .u8 0) 1 Tryd.underlying22 Tryd.info5 rfl .i64 .i64 N (by omega) (by omega)
  have HUX := hide (fun wx hx => upTo_any vb b N wx hx (by omega))
  have HUY := hide (fun wx hx => upTo_any vc c N wx hx (by omega))
  generalize upToL b N = x at *
  generalize upToL c N = y at *
  rw [made_fill (xorL (xorL a x) y) N] at hmk
  obtain ⟨pa, capa, rfl, hla, hma, hna, _, hca⟩ := ha
  rw [hN] at hla HA ⊢
  rw [hN] at hca
  have HCA := hide hca
  have HN := hide hN
  have hNr : N ≤ 140737488351232 := by omega
  clear hb hc hT hca hna hN hr
  go_enter Tryd.func5, Tryd.ntmps5
  go_wp2_with fail
  refine (HUX.out _ HB.out).mono ?_
  rintro e w1 ⟨rfl, rfl⟩
  have HB1 := hide (below_alloc w (.cells (x.map byteV).toArray 5))
  have HR1 := hide (Go.heap_alloc_new w (.cells (x.map byteV).toArray 5))
  go_wp2_with fail
  refine (HUY.out _ (HC.out.below HB1.out)).mono ?_
  rintro e w2 ⟨rfl, rfl⟩
  have HB2 := hide (below_alloc2 w (.cells (x.map byteV).toArray 5) (.cells (y.map byteV).toArray 5))
  have HRX := hide (heap_more (.cells (y.map byteV).toArray 5) HR1.out)
  have HRY := hide (heap_alloc2_new w (.cells (x.map byteV).toArray 5) (.cells (y.map byteV).toArray 5))
  have hsz : (w.alloc (.cells (x.map byteV).toArray 5)).heap.size = w.heap.size + 1 := by simp
  have hsz2 : ((w.alloc (.cells (x.map byteV).toArray 5)).alloc (.cells (y.map byteV).toArray 5)).heap.size = w.heap.size + 1 + 1 := by simp
  rw [hsz]
  generalize (w.alloc (.cells (x.map byteV).toArray 5)).alloc (.cells (y.map byteV).toArray 5) = W at *
  clear hsz HB1 HR1 HUX HUY
  go_wp2_with fail
  clear hmk
  have HZ := hide (xorL_len (l := xorL a x) (m := y) (by rw [xorL_len (by rw [HN.out, HX.out]), HN.out, HY.out]))
  have HZ' : Hid ((xorL (xorL a x) y).length = N) := by show _ = _; rw [HZ.out, xorL_len (by rw [HN.out, HX.out]), HN.out]
  go_loopw [10] (fun i wr => ∃ k : Nat, k ≤ N ∧ i = .int .i64 k ∧ ∃ j, wr = (W.alloc (.cells ((fillL (xorL (xorL a x) y) N k).map byteV).toArray 5)).drewN j) (fun i _ => N - (intOf i).toNat)
  case atStart => exact ⟨0, Nat.zero_le _, rfl, 0, rfl⟩
  case round =>
    obtain ⟨k, hk, rfl, j, hwr⟩ := hrel
    have hfl := fillL_len hk (by rw [HZ'.out]; exact hk)
    by_cases hlt : k < N
    · obtain ⟨b0, off, rfl, hcell⟩ := HCA.out (by omega)
      have hkA : k < a.length := by rw [HN.out]; exact hlt
      have hkX : k < x.length := by rw [HX.out]; exact hlt
      have hkY : k < y.length := by rw [HY.out]; exact hlt
      have hA0 := hcell k hlt
      have hbel := HB2.out.alloc HB2.out.size (.cells ((fillL (xorL (xorL a x) y) N k).map byteV).toArray 5)
      have hcw : ∀ q, wr.cell? q = (W.alloc (.cells ((fillL (xorL (xorL a x) y) N k).map byteV).toArray 5)).cell? q := fun q => by rw [hwr]; rfl
      have hcA : wr.cell? ⟨b0, off + k, none⟩ = some (.int .u8 (a.getD k 0 : Nat)) := by rw [hcw, hbel.cell (p := ⟨b0, off + k, none⟩) (World.block_lt_of_cell? w _ hA0)]; exact hA0
      have hcX : wr.cell? ⟨w.heap.size, k, none⟩ = some (.int .u8 (x.getD k 0 : Nat)) := by rw [hcw, cell_of_row _ _ _ _ _ _ (heap_more _ HRX.out), List.getElem?_toArray, map_byteV_getD hkX]
      have hcY : wr.cell? ⟨w.heap.size + 1, k, none⟩ = some (.int .u8 (y.getD k 0 : Nat)) := by rw [hcw, cell_of_row _ _ _ _ _ _ (heap_more _ HRY.out), List.getElem?_toArray, map_byteV_getD hkY]
      have hnew := Go.heap_alloc_new W (.cells ((fillL (xorL (xorL a x) y) N k).map byteV).toArray 5)
      rw [hsz2] at hnew
      obtain ⟨u0, hcZ⟩ : ∃ u, wr.cell? ⟨w.heap.size + 1 + 1, k, none⟩ = some u := by
        rw [hcw, cell_of_row _ _ _ _ _ _ hnew, List.getElem?_toArray]
        exact ⟨_, List.getElem?_eq_getElem (by rw [List.length_map, hfl]; exact hlt)⟩
      have hfZ : wr.frozen? ⟨w.heap.size + 1 + 1, k, none⟩ = false := by
        rw [hwr]; exact frozen_of_row _ _ k _ _ hnew
      have hbA := HAB.out _ (mem_getD hkA)
      have hbX := HXB.out _ (mem_getD hkX)
      have hbY := HYB.out _ (mem_getD hkY)
      have hx1 := u8_xor_nat (a.getD k 0) (x.getD k 0) hbA hbX
      have hx2 := u8_xor_nat (a.getD k 0 ^^^ x.getD k 0) (y.getD k 0) (xor_byte hbA hbX) hbY
      have hxl : (xorL a x).length = N := by rw [xorL_len (by rw [HN.out, HX.out]), HN.out]
      have hD : (xorL (xorL a x) y).getD k 0 = a.getD k 0 ^^^ x.getD k 0 ^^^ y.getD k 0 := by rw [xorL_getD (by omega) hkY, xorL_getD hkA hkX]
      have HST : Hid (wr.drew.setCell ⟨w.heap.size + 1 + 1, k, none⟩ (.int .u8 ((a.getD k 0 ^^^ x.getD k 0 ^^^ y.getD k 0 : Nat) : Int)) = (W.alloc (.cells ((fillL (xorL (xorL a x) y) N (k + 1)).map byteV).toArray 5)).drewN (j + 1)) := by
        show _ = _
        rw [← fillL_set hlt (by rw [HZ'.out]; exact hlt), hD, List.map_set, ← List.setIfInBounds_toArray, hwr, ← hsz2]
        show ((W.alloc _).setCell _ _).drewN (j + 1) = _
        rw [World.setCell_alloc_new]; rfl
      have HWR := hide hwr
      generalize a.getD k 0 = xa at *
      generalize x.getD k 0 = xx at *
      generalize y.getD k 0 = xy at *
      generalize xa ^^^ xx = z1 at *
      generalize z1 ^^^ xy = z2 at *
      clear hwr hcw hnew hbel hcell hA0 hfl hD hxl
      go_wp2_with fail
      refine wp_still_tail 17 (by kernel_rfl) (by kernel_rfl) ?_
      simp only [List.take_succ_cons, List.take_zero, List.drop_succ_cons, List.drop_zero]
      repeat still_step
      refine wpStill_nil ?_
      go_wp2_with fail
      go_roundw
      case rel => exact ⟨k + 1, by omega, by go_num, j + 1, HST.out⟩
      case measure => simp [intOf]; omega
    · have hkN : k = N := by omega
      subst hkN
      have hfe : fillL (xorL (xorL a x) y) k k = xorL (xorL a x) y := by rw [fillL, Nat.sub_self, List.replicate_zero, List.append_nil, List.take_of_length_le (by rw [HZ'.out]; omega)]
      rw [hfe] at hwr
      have hbel := HB2.out.alloc HB2.out.size (.cells ((xorL (xorL a x) y).map byteV).toArray 5)
      have HW : Hid (Below w.heap.size w wr) := by rw [hwr]; exact below_drewN hbel j
      have HZS : Hid (BSl wr (.slice (some ⟨w.heap.size + 1 + 1, 0, none⟩) k k) (xorL (xorL a x) y)) := by
        rw [hwr, ← hsz2]; exact (bsl_new HZ'.out.symm (by rw [HZ'.out]; unfold maxLen; omega) (xorL_lt (xorL_lt HAB.out HXB.out) HYB.out)).drewN j
      have HXS : Hid (BSl wr (.slice (some ⟨w.heap.size, 0, none⟩) k k) x) := by
        rw [hwr]; exact (BSl.ofRow (heap_more _ HRX.out) (by show List.take k (x.map byteV) = _; rw [List.take_of_length_le (by rw [List.length_map, HX.out]; omega)]) HX.out.symm (Nat.le_refl _) (by unfold maxLen; omega) HXB.out).drewN j
      have HYS : Hid (BSl wr (.slice (some ⟨w.heap.size + 1, 0, none⟩) k k) y) := by
        rw [hwr]; exact (BSl.ofRow (heap_more _ HRY.out) (by show List.take k (y.map byteV) = _; rw [List.take_of_length_le (by rw [List.length_map, HY.out]; omega)]) HY.out.symm (Nat.le_refl _) (by unfold maxLen; omega) HYB.out).drewN j
      have HEQ := hide (crcM_three (a := a) (b := x) (c := y) (by rw [HN.out, HX.out]) (by rw [HN.out, HY.out]))
      have HTW := hide (HT.out.below HW.out)
      have HAW := hide (HA.out.below HW.out)
      have hca := crcM_lt (c := 0) a (by omega) HAB.out
      have hcx := crcM_lt (c := 0) x (by omega) HXB.out
      have hcy := crcM_lt (c := 0) y (by omega) HYB.out
      clear hbel hwr hfe hfl HRX HRY HZ HZ' HCA hlt HB2
      go_wp2_with fail
      refine (published_any _ HTW.out).mono ?_
      rintro e w4 ⟨rfl, hb4⟩
      have HW4 := hide (HW.out.trans (hb4.mono HW.out.size))
      have HZ4 := hide (HZS.out.below hb4)
      have HX4 := hide (HXS.out.below hb4)
      have HY4 := hide (HYS.out.below hb4)
      have HA4 := hide (HAW.out.below hb4)
      clear hb4 HZS HXS HYS HAW HW HTW
      go_wp2_with fail
      refine (crc_any _ _ _ HZ4.out).mono ?_
      rintro e wy ⟨rfl, rfl⟩
      go_wp2_with fail
      refine (copied_any _ a _ HA4.out (by rw [HN.out]; omega)).mono ?_
      rintro e w5 ⟨v5, rfl, ho5, hb5⟩
      have HQ := hide ho5.bsl
      have HW5 := hide (HW4.out.trans (hb5.mono HW4.out.size))
      have HX5 := hide (HX4.out.below hb5)
      have HY5 := hide (HY4.out.below hb5)
      clear ho5 hb5 HW4 HX4 HY4 HZ4 HA4
      go_wp2_with fail
      refine (crc_any _ _ _ HQ.out).mono ?_
      rintro e wy ⟨rfl, rfl⟩
      go_wp2_with fail
      refine (crc_any _ _ _ HX5.out).mono ?_
      rintro e wy ⟨rfl, rfl⟩
      have hx1 := u32_xor_nat (crcM 0 a) (crcM 0 x) hca hcx
      have hx2 := u32_xor_nat (crcM 0 a ^^^ crcM 0 x) (crcM 0 y) (xor_lt hca hcx) hcy
      have heq := HEQ.out
      generalize crcM 0 (xorL (xorL a x) y) = cz at *
      generalize crcM 0 a = c1 at *
      generalize crcM 0 x = c2 at *
      generalize hcyy : crcM 0 y = c3 at *
      generalize c1 ^^^ c2 = c12 at *
      generalize c12 ^^^ c3 = c123 at *
      subst heq
      go_wp2_with fail
      refine (crc_any _ _ _ HY5.out).mono ?_
      rintro e wy ⟨rfl, rfl⟩
      rw [hcyy]
      clear hcyy HEQ
      go_wp2_with fail
      go_ret
      exact ⟨rfl, HW5.out⟩
end Go.Proofs.YtbkcenpohcjgnaaDoor
