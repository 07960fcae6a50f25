import Derived.Test.YtbkcenpohcjgnabDoorPublished
import Derived.Test.YtbkcenpohcjgnabDoorCount
namespace Go.Proofs.YtbkcenpohcjgnabDoor
open Go.RowKit
open Num
set_option linter.unusedVariables false
set_option linter.unusedSimpArgs false

theorem BNe.slice {g : Nat} {w : World} {b off len cap : Nat} {p : List Nat} (h : BNe g w (.slice (some ⟨b, off, none⟩) len cap) p) {A n : Nat} (hAn : A + n ≤ p.length) : BSl w (.slice (some ⟨b, off + A, none⟩) n (cap - A)) ((p.drop A).take n) := by
  obtain ⟨a', cap', e, h1, h2, h3, h4⟩ := h
  simp only [Value.slice.injEq] at e
  obtain ⟨rfl, rfl, rfl⟩ := e
  have hl : ((p.drop A).take n).length = n := by simp; omega
  refine ⟨_, _, by rw [hl], by rw [hl]; omega, by omega, by simp, fun x hx => h3 x (List.mem_of_mem_drop (List.mem_of_mem_take hx)), fun hp => ?_⟩
  rw [hl] at hp
  obtain ⟨b', off', _, e, hc⟩ := h4 (by omega)
  simp only [Option.some.injEq, Addr.mk.injEq] at e
  obtain ⟨rfl, rfl, _⟩ := e
  refine ⟨b, off + A, rfl, fun i hi => ?_⟩
  rw [hl] at hi
  rw [Nat.add_assoc, hc (A + i) (by omega)]
  congr 2
  simp [List.getD, hi]
theorem BNe.head {g : Nat} {w : World} {b off len cap : Nat} {p : List Nat} (h : BNe g w (.slice (some ⟨b, off, none⟩) len cap) p) {n : Nat} (hAn : n ≤ p.length) : BSl w (.slice (some ⟨b, off, none⟩) n cap) (p.take n) := by
  have := h.slice (A := 0) (n := n) (by omega)
  simpa using this
theorem Own.bne {w : World} {base g : Nat} {v : Value} {l : List Nat} (h : Own w base v l) (hg : g < base) : BNe g w v l := by
  have hb := h.bsl
  obtain ⟨a, cap, rfl, h1, h2, _, h3, h4⟩ := hb
  refine ⟨a, cap, rfl, h1, h2, h3, fun hp => ?_⟩
  obtain ⟨g', cap', e, hgg, _⟩ := h.shape hp
  simp only [Value.slice.injEq] at e
  obtain ⟨rfl, _, rfl⟩ := e
  obtain ⟨b', off', e2, hc⟩ := h4 hp
  simp only [Option.some.injEq, Addr.mk.injEq] at e2
  obtain ⟨rfl, rfl, _⟩ := e2
  exact ⟨g', 0, by omega, rfl, hc⟩
theorem BNe.rest {g : Nat} {w : World} {ad : Addr} {len cap : Nat} {p : List Nat} (h : BNe g w (.slice (some ad) len cap) p) {A : Nat} (hA : A ≤ p.length) (x : Addr) (hx : A < p.length → x = ad.add A) : BSl w (.slice (some x) (p.length - A) (cap - A)) (p.drop A) := by
  obtain ⟨a', cap', e, h1, h2, h3, h4⟩ := h
  simp only [Value.slice.injEq] at e
  obtain ⟨rfl, rfl, rfl⟩ := e
  refine ⟨_, _, by rw [List.length_drop], by rw [List.length_drop]; omega, by omega, by simp, fun x hx => h3 x (List.mem_of_mem_drop hx), fun hp => ?_⟩
  rw [List.length_drop] at hp
  obtain ⟨b', off', _, e, hc⟩ := h4 (by omega)
  simp only [Option.some.injEq] at e
  subst e
  refine ⟨b', off' + A, by rw [hx (by omega), Addr.add_lit], fun i hi => ?_⟩
  rw [List.length_drop] at hi
  rw [Nat.add_assoc, hc (A + i) (by omega)]
  congr 2
  simp [List.getD]
theorem take_add' (p : List Nat) (A n : Nat) : p.take A ++ (p.drop A).take n = p.take (A + n) := (List.take_add).symm

set_option maxRecDepth 100000 in
set_option maxHeartbeats 1000000 in
theorem pieces_walk (vp vc : Value) (p : List Nat) (zs : List Int) (w : World) (hT : Tabs w) (hp : BSl w vp p) (hc : ISl w vc zs) (hr : p.length ≤ 140737488351232) :
    Calls Tryd.prog 3 #[vp, vc] w fun e w' => e = .returned (.bool true) ∧ Below w.heap.size w w' := by
  have HT := hide hT
  have HP := hide hp
  have HC := hide hc
  have HPB := hide hp.bytes
  obtain ⟨pp, capp, rfl, hlp, hmp, hnp, _, _⟩ := hp
  obtain ⟨pc, capc, rfl, hlc, hmc, hcb, _⟩ := hc
  have HCB := hide hcb
  clear hT hcb
  go_enter Tryd.func3, Tryd.ntmps3
  go_wp2_with fail
  refine (new_any w HT.out.h).mono ?_
  rintro e w1 ⟨rfl, rfl⟩
  have HB1 := hide (below_alloc w (.cells (hcells st0 (List.replicate 64 0) 0).toArray 57))
  have HR1 := hide (new_row w)
  generalize w.alloc (.cells (hcells st0 (List.replicate 64 0) 0).toArray 57) = w1 at *
  go_wp2_with fail
  refine (published_any _ (HT.out.below HB1.out)).mono ?_
  rintro e w2 ⟨rfl, hb2⟩
  have HB2 := hide (HB1.out.trans (hb2.mono HB1.out.size))
  have HR2 := hide (HR1.out.but (g := 0) hb2)
  clear hb2 HB1 HR1
  go_wp2_with fail
  have HT2 := hide (HT.out.below HB2.out)
  have HP2 := hide ((HP.out.old (g := w.heap.size) (Nat.le_refl _)).but (But.of HB2.out))
  have HC2 := hide (HC.out.below HB2.out)
  have hgK := HT.out.ltK
  have hgH := HT.out.ltH
  have HCW := hide HC.out
  have HPW := hide HP.out
  clear HC HP
  go_loopw [6, 7] (fun t i wr => ∃ A k : Nat, A ≤ p.length ∧ k ≤ zs.length ∧ t = .int .i64 A ∧ i = .int .i64 k ∧ HRow wr w.heap.size (p.take A) A A ∧ But w.heap.size w2 wr) (fun _ i _ => zs.length - (intOf i).toNat)
  case atStart => exact ⟨0, 0, Nat.zero_le _, Nat.zero_le _, rfl, rfl, by rw [List.take_zero]; exact HR2.out, But.refl _ _⟩
  case round =>
    obtain ⟨A, k, hA, hk, rfl, rfl, hrow, hbut⟩ := hrel
    have HROW := hide hrow
    have HBUT := hide hbut
    clear hrow hbut
    by_cases hlt : k < zs.length ∧ A < p.length
    · obtain ⟨hk1, hA1⟩ := hlt
      obtain ⟨b, off, rfl⟩ : ∃ b off, pp = some ⟨b, off, none⟩ := by
        obtain ⟨a', cap', e, _, _, _, h5⟩ := HP2.out
        obtain ⟨b, off, _, e2, _⟩ := h5 (by omega)
        simp only [Value.slice.injEq] at e
        obtain ⟨e1, _, _⟩ := e
        exact ⟨b, off, by rw [e1, e2]⟩
      obtain ⟨cb, coff, rfl, hck⟩ : ∃ b off, pc = some ⟨b, off, none⟩ ∧ wr.cell? ⟨b, off + k, none⟩ = some (.int .i64 (zs.getD k 0)) := by
        obtain ⟨a', cap', e, _, _, _, h5⟩ := HCW.out
        obtain ⟨b, off, e2, hc⟩ := h5 (by omega)
        simp only [Value.slice.injEq] at e
        obtain ⟨e1, _, _⟩ := e
        have h0 := hc k hk1
        have hlt := World.block_lt_of_cell? w _ h0
        have h2 : w2.cell? ⟨b, off + k, none⟩ = some (.int .i64 (zs.getD k 0)) := by rw [HB2.out.cell (p := ⟨b, off + k, none⟩) hlt]; exact h0
        have hne : b ≠ w.heap.size := by have : b < w.heap.size := hlt; omega
        exact ⟨b, off, by rw [e1, e2], HBUT.out.cell h2 hne⟩
      have hzb : -9223372036854775808 ≤ zs.getD k 0 ∧ zs.getD k 0 ≤ 9223372036854775807 := HCB.out _ (by
        have : zs.getD k 0 = zs[k] := by simp [List.getD, hk1]
        rw [this]; exact List.getElem_mem hk1)
      obtain ⟨z, hzz⟩ : ∃ z, zs.getD k 0 = z := ⟨_, rfl⟩
      rw [hzz] at hzb hck
      clear hzz
      obtain ⟨m, hm⟩ : ∃ m, z.tmod 130 = m := ⟨_, rfl⟩
      have hmb : -130 < m ∧ m < 130 := by
        have h1 := Int.tmod_lt_of_pos z (show (0 : Int) < 130 by omega)
        have h2 := Int.tmod_lt_of_pos (-z) (show (0 : Int) < 130 by omega)
        rw [Int.neg_tmod] at h2
        omega
      unfold maxLen at hmp hmc
      by_cases hneg : m < 0
      · obtain ⟨n0, hn0⟩ : ∃ n0 : Nat, m = -(n0 : Int) := ⟨m.natAbs, by omega⟩
        subst hn0
        by_cases hbig : (p.length : Int) - (A : Int) < (n0 : Int)
        · obtain ⟨n, hn⟩ : ∃ n : Nat, p.length - A = n := ⟨_, rfl⟩
          have hnI : (p.length : Int) - (A : Int) = (n : Int) := by omega
          go_wp2_with fail
          clear hzb hck
          have hAn : A + n ≤ p.length := by omega
          have HPR := hide (HP2.out.but HBUT.out)
          have HBS := hide (HPR.out.slice hAn)
          have hlen : ((p.drop A).take n).length = n := by simp; omega
          refine (copied_any _ _ _ HBS.out (by rw [hlen]; omega)).mono ?_
          rintro e w3 ⟨v3, rfl, ho3, hb3⟩
          have hgw : w.heap.size < wr.heap.size := HROW.out.lt
          have HQ3 := hide (ho3.bne hgw)
          have HR3 := hide (HROW.out.but (g := 0) hb3)
          have HB3 := hide (HBUT.out.trans (But.of hb3))
          clear ho3 hb3
          go_wp2_with fail
          have hAl : (p.take A).length = A := by simp; omega
          refine (write_any w.heap.size v3 (p.take A) ((p.drop A).take n) w3 (fun x hx => HPB.out x (List.mem_of_mem_take hx)) (by rw [hAl, hlen]; omega) HQ3.out (HB3.out.tab HT2.out.k (by omega)) (by omega) (by rw [hAl]; exact HR3.out)).mono ?_
          rintro e w4 ⟨rfl, hR4, hb4⟩
          rw [hAl, hlen, take_add'] at hR4
          have HR4 := hide hR4
          have HB4 := hide (HB3.out.trans hb4)
          clear hR4 hb4 HR3 HB3 HQ3
          have hl2 : (p.take (A + n)).length = A + n := by simp; omega
          obtain ⟨B, hB⟩ : ∃ B, A + n = B := ⟨_, rfl⟩
          have hBI : (A : Int) + (n : Int) = (B : Int) := by omega
          have hBl : B ≤ p.length := by omega
          rw [hB] at HR4 hl2
          obtain ⟨f1, f2, f3⟩ := sum_shape (p.take B)
          have HS1 := hide f1
          have HS2 := hide f2
          have HS3 := hide f3
          clear f1 f2 f3 hB
          have HTB := hide (fun x (hx : x ∈ p.take B) => HPB.out x (List.mem_of_mem_take hx))
          have hsl := shaL_len (p.take B)
          have HT4 := hide (HT2.out.but HB4.out (by omega) (by omega))
          go_wp2_with fail
          refine (sum_any w.heap.size (p.take B) w4 HTB.out (by rw [hl2]; omega) HT4.out.k HT4.out.ltK (by rw [hl2]; exact HR4.out)).mono ?_
          rintro e w5 ⟨rfl, hb5⟩
          have HR5 := hide (HR4.out.but (g := 0) hb5)
          have HB5 := hide (HB4.out.trans (But.of hb5))
          clear hb5 HR4 HB4 HT4
          have hEQ := hide (fun wx => equal_list hsl wx)
          generalize hou : ((shaL (p.take B)).map byteV).toArray = ou at *
          have HOU := hide hou
          clear hou
          have HR6 := hide (HR5.out.more (.cells ou 29))
          have HB6 := hide (HB5.out.trans (But.of (below_alloc w5 (.cells ou 29))))
          have HPP := hide ((HP2.out.but HB6.out).head hBl)
          have HG6 := hide (Go.heap_alloc_new w5 (.cells ou 29))
          go_wp2_with (first
            | refine wpList_alloc_as rfl 29 rfl (.agg zero32) zero32 Tryd.zero32 rfl ?_
            | (refine wpList_store_row rfl 29 _ _ rfl w5.heap.size ou (by first | rfl | simp [Act.eval, Act.put]) (by first | rfl | simp [Act.eval, Act.put]) 29 zero32 (Go.heap_alloc_new w5 _) HS1.out HS2.out HS3.out ?_; rw [World.setRow_alloc_new]))
          generalize hg5 : w5.heap.size = g5 at *
          generalize w5.alloc (.cells ou 29) = w6 at *
          refine (copied_any _ (p.take B) w6 HPP.out (by rw [hl2]; omega)).mono ?_
          rintro e w7 ⟨v7, rfl, ho7, hb7⟩
          have HQ7 := hide ho7.bsl
          have HR7 := hide (HR6.out.but (g := 0) hb7)
          have HB7 := hide (HB6.out.trans (But.of hb7))
          have HG7 := hide (heap_kept hb7 HG6.out)
          clear ho7 hb7 HR6 HB6 HPP HG6 HR5 HB5 hg5
          go_wp2_with fail
          refine (sum256_any v7 (p.take B) w7 (by rw [hl2]; omega) (HT2.out.but HB7.out (by omega) (by omega)) HQ7.out).mono ?_
          rintro e w8 ⟨rfl, hb8⟩
          rw [HOU.out]
          have HR8 := hide ((HR7.out.but (g := 0) hb8).more (.cells ou 29))
          have HB8 := hide ((HB7.out.trans (But.of hb8)).trans (But.of (below_alloc w8 (.cells ou 29))))
          have HG8 := hide (heap_more (.cells ou 29) (heap_kept hb8 HG7.out))
          have HH8 := hide (Go.heap_alloc_new w8 (.cells ou 29))
          clear hb8 HR7 HB7 HG7 HQ7
          go_wp2_with (first
            | refine wpList_alloc_as rfl 29 rfl (.agg zero32) zero32 Tryd.zero32 rfl ?_
            | (refine wpList_store_row rfl 29 _ _ rfl w8.heap.size ou (by first | rfl | simp [Act.eval, Act.put]) (by first | rfl | simp [Act.eval, Act.put]) 29 zero32 (Go.heap_alloc_new w8 _) HS1.out HS2.out HS3.out ?_; rw [World.setRow_alloc_new])
            | refine wpList_load_row rfl 29 (.tmp 9) rfl g5 rfl 29 ou (0, 0) _ HG8.out Tryd.underlying29 rfl HS1.out ?_
            | refine wpList_load_row rfl 29 (.tmp 10) rfl w8.heap.size rfl 29 ou (0, 0) _ HH8.out Tryd.underlying29 rfl HS1.out ?_)
          refine (hEQ.out _).mono ?_
          rintro e w9 ⟨rfl, hb9⟩
          have HR9 := hide (HR8.out.but (g := 0) hb9)
          have HB9 := hide (HB8.out.trans (But.of hb9))
          have hc9 := HR9.out.count
          clear hb9 HR8 HB8 HG8 HH8
          go_wp2_with fail
          refine (count_any w.heap.size B w9 hc9).mono ?_
          rintro e wy ⟨rfl, rfl⟩
          go_wp2_with fail
          go_roundw
          case rel => exact ⟨B, k + 1, hBl, by omega, rfl, by go_num, HR9.out, HB9.out⟩
          case measure => simp [intOf]; omega
        · obtain ⟨n, hn⟩ : ∃ n : Nat, n0 = n := ⟨_, rfl⟩
          subst hn
          go_wp2_with fail
          clear hzb hck
          have hAn : A + n0 ≤ p.length := by omega
          have HPR := hide (HP2.out.but HBUT.out)
          have HBS := hide (HPR.out.slice hAn)
          have hlen : ((p.drop A).take n0).length = n0 := by simp; omega
          refine (copied_any _ _ _ HBS.out (by rw [hlen]; omega)).mono ?_
          rintro e w3 ⟨v3, rfl, ho3, hb3⟩
          have hgw : w.heap.size < wr.heap.size := HROW.out.lt
          have HQ3 := hide (ho3.bne hgw)
          have HR3 := hide (HROW.out.but (g := 0) hb3)
          have HB3 := hide (HBUT.out.trans (But.of hb3))
          clear ho3 hb3
          go_wp2_with fail
          have hAl : (p.take A).length = A := by simp; omega
          refine (write_any w.heap.size v3 (p.take A) ((p.drop A).take n0) w3 (fun x hx => HPB.out x (List.mem_of_mem_take hx)) (by rw [hAl, hlen]; omega) HQ3.out (HB3.out.tab HT2.out.k (by omega)) (by omega) (by rw [hAl]; exact HR3.out)).mono ?_
          rintro e w4 ⟨rfl, hR4, hb4⟩
          rw [hAl, hlen, take_add'] at hR4
          have HR4 := hide hR4
          have HB4 := hide (HB3.out.trans hb4)
          clear hR4 hb4 HR3 HB3 HQ3
          have hl2 : (p.take (A + n0)).length = A + n0 := by simp; omega
          obtain ⟨B, hB⟩ : ∃ B, A + n0 = B := ⟨_, rfl⟩
          have hBI : (A : Int) + (n0 : Int) = (B : Int) := by omega
          have hBl : B ≤ p.length := by omega
          rw [hB] at HR4 hl2
          obtain ⟨f1, f2, f3⟩ := sum_shape (p.take B)
          have HS1 := hide f1
          have HS2 := hide f2
          have HS3 := hide f3
          clear f1 f2 f3 hB
          have HTB := hide (fun x (hx : x ∈ p.take B) => HPB.out x (List.mem_of_mem_take hx))
          have hsl := shaL_len (p.take B)
          have HT4 := hide (HT2.out.but HB4.out (by omega) (by omega))
          go_wp2_with fail
          refine (sum_any w.heap.size (p.take B) w4 HTB.out (by rw [hl2]; omega) HT4.out.k HT4.out.ltK (by rw [hl2]; exact HR4.out)).mono ?_
          rintro e w5 ⟨rfl, hb5⟩
          have HR5 := hide (HR4.out.but (g := 0) hb5)
          have HB5 := hide (HB4.out.trans (But.of hb5))
          clear hb5 HR4 HB4 HT4
          have hEQ := hide (fun wx => equal_list hsl wx)
          generalize hou : ((shaL (p.take B)).map byteV).toArray = ou at *
          have HOU := hide hou
          clear hou
          have HR6 := hide (HR5.out.more (.cells ou 29))
          have HB6 := hide (HB5.out.trans (But.of (below_alloc w5 (.cells ou 29))))
          have HPP := hide ((HP2.out.but HB6.out).head hBl)
          have HG6 := hide (Go.heap_alloc_new w5 (.cells ou 29))
          go_wp2_with (first
            | refine wpList_alloc_as rfl 29 rfl (.agg zero32) zero32 Tryd.zero32 rfl ?_
            | (refine wpList_store_row rfl 29 _ _ rfl w5.heap.size ou (by first | rfl | simp [Act.eval, Act.put]) (by first | rfl | simp [Act.eval, Act.put]) 29 zero32 (Go.heap_alloc_new w5 _) HS1.out HS2.out HS3.out ?_; rw [World.setRow_alloc_new]))
          generalize hg5 : w5.heap.size = g5 at *
          generalize w5.alloc (.cells ou 29) = w6 at *
          refine (copied_any _ (p.take B) w6 HPP.out (by rw [hl2]; omega)).mono ?_
          rintro e w7 ⟨v7, rfl, ho7, hb7⟩
          have HQ7 := hide ho7.bsl
          have HR7 := hide (HR6.out.but (g := 0) hb7)
          have HB7 := hide (HB6.out.trans (But.of hb7))
          have HG7 := hide (heap_kept hb7 HG6.out)
          clear ho7 hb7 HR6 HB6 HPP HG6 HR5 HB5 hg5
          go_wp2_with fail
          refine (sum256_any v7 (p.take B) w7 (by rw [hl2]; omega) (HT2.out.but HB7.out (by omega) (by omega)) HQ7.out).mono ?_
          rintro e w8 ⟨rfl, hb8⟩
          rw [HOU.out]
          have HR8 := hide ((HR7.out.but (g := 0) hb8).more (.cells ou 29))
          have HB8 := hide ((HB7.out.trans (But.of hb8)).trans (But.of (below_alloc w8 (.cells ou 29))))
          have HG8 := hide (heap_more (.cells ou 29) (heap_kept hb8 HG7.out))
          have HH8 := hide (Go.heap_alloc_new w8 (.cells ou 29))
          clear hb8 HR7 HB7 HG7 HQ7
          go_wp2_with (first
            | refine wpList_alloc_as rfl 29 rfl (.agg zero32) zero32 Tryd.zero32 rfl ?_
            | (refine wpList_store_row rfl 29 _ _ rfl w8.heap.size ou (by first | rfl | simp [Act.eval, Act.put]) (by first | rfl | simp [Act.eval, Act.put]) 29 zero32 (Go.heap_alloc_new w8 _) HS1.out HS2.out HS3.out ?_; rw [World.setRow_alloc_new])
            | refine wpList_load_row rfl 29 (.tmp 9) rfl g5 rfl 29 ou (0, 0) _ HG8.out Tryd.underlying29 rfl HS1.out ?_
            | refine wpList_load_row rfl 29 (.tmp 10) rfl w8.heap.size rfl 29 ou (0, 0) _ HH8.out Tryd.underlying29 rfl HS1.out ?_)
          refine (hEQ.out _).mono ?_
          rintro e w9 ⟨rfl, hb9⟩
          have HR9 := hide (HR8.out.but (g := 0) hb9)
          have HB9 := hide (HB8.out.trans (But.of hb9))
          have hc9 := HR9.out.count
          clear hb9 HR8 HB8 HG8 HH8
          go_wp2_with fail
          refine (count_any w.heap.size B w9 hc9).mono ?_
          rintro e wy ⟨rfl, rfl⟩
          go_wp2_with fail
          go_roundw
          case rel => exact ⟨B, k + 1, hBl, by omega, rfl, by go_num, HR9.out, HB9.out⟩
          case measure => simp [intOf]; omega
      · obtain ⟨n0, hn0⟩ : ∃ n0 : Nat, m = (n0 : Int) := ⟨m.natAbs, by omega⟩
        subst hn0
        by_cases hbig : (p.length : Int) - (A : Int) < (n0 : Int)
        · obtain ⟨n, hn⟩ : ∃ n : Nat, p.length - A = n := ⟨_, rfl⟩
          have hnI : (p.length : Int) - (A : Int) = (n : Int) := by omega
          go_wp2_with fail
          clear hzb hck
          have hAn : A + n ≤ p.length := by omega
          have HPR := hide (HP2.out.but HBUT.out)
          have HBS := hide (HPR.out.slice hAn)
          have hlen : ((p.drop A).take n).length = n := by simp; omega
          refine (copied_any _ _ _ HBS.out (by rw [hlen]; omega)).mono ?_
          rintro e w3 ⟨v3, rfl, ho3, hb3⟩
          have hgw : w.heap.size < wr.heap.size := HROW.out.lt
          have HQ3 := hide (ho3.bne hgw)
          have HR3 := hide (HROW.out.but (g := 0) hb3)
          have HB3 := hide (HBUT.out.trans (But.of hb3))
          clear ho3 hb3
          go_wp2_with fail
          have hAl : (p.take A).length = A := by simp; omega
          refine (write_any w.heap.size v3 (p.take A) ((p.drop A).take n) w3 (fun x hx => HPB.out x (List.mem_of_mem_take hx)) (by rw [hAl, hlen]; omega) HQ3.out (HB3.out.tab HT2.out.k (by omega)) (by omega) (by rw [hAl]; exact HR3.out)).mono ?_
          rintro e w4 ⟨rfl, hR4, hb4⟩
          rw [hAl, hlen, take_add'] at hR4
          have HR4 := hide hR4
          have HB4 := hide (HB3.out.trans hb4)
          clear hR4 hb4 HR3 HB3 HQ3
          have hl2 : (p.take (A + n)).length = A + n := by simp; omega
          obtain ⟨B, hB⟩ : ∃ B, A + n = B := ⟨_, rfl⟩
          have hBI : (A : Int) + (n : Int) = (B : Int) := by omega
          have hBl : B ≤ p.length := by omega
          rw [hB] at HR4 hl2
          obtain ⟨f1, f2, f3⟩ := sum_shape (p.take B)
          have HS1 := hide f1
          have HS2 := hide f2
          have HS3 := hide f3
          clear f1 f2 f3 hB
          have HTB := hide (fun x (hx : x ∈ p.take B) => HPB.out x (List.mem_of_mem_take hx))
          have hsl := shaL_len (p.take B)
          have HT4 := hide (HT2.out.but HB4.out (by omega) (by omega))
          go_wp2_with fail
          refine (sum_any w.heap.size (p.take B) w4 HTB.out (by rw [hl2]; omega) HT4.out.k HT4.out.ltK (by rw [hl2]; exact HR4.out)).mono ?_
          rintro e w5 ⟨rfl, hb5⟩
          have HR5 := hide (HR4.out.but (g := 0) hb5)
          have HB5 := hide (HB4.out.trans (But.of hb5))
          clear hb5 HR4 HB4 HT4
          have hEQ := hide (fun wx => equal_list hsl wx)
          generalize hou : ((shaL (p.take B)).map byteV).toArray = ou at *
          have HOU := hide hou
          clear hou
          have HR6 := hide (HR5.out.more (.cells ou 29))
          have HB6 := hide (HB5.out.trans (But.of (below_alloc w5 (.cells ou 29))))
          have HPP := hide ((HP2.out.but HB6.out).head hBl)
          have HG6 := hide (Go.heap_alloc_new w5 (.cells ou 29))
          go_wp2_with (first
            | refine wpList_alloc_as rfl 29 rfl (.agg zero32) zero32 Tryd.zero32 rfl ?_
            | (refine wpList_store_row rfl 29 _ _ rfl w5.heap.size ou (by first | rfl | simp [Act.eval, Act.put]) (by first | rfl | simp [Act.eval, Act.put]) 29 zero32 (Go.heap_alloc_new w5 _) HS1.out HS2.out HS3.out ?_; rw [World.setRow_alloc_new]))
          generalize hg5 : w5.heap.size = g5 at *
          generalize w5.alloc (.cells ou 29) = w6 at *
          refine (copied_any _ (p.take B) w6 HPP.out (by rw [hl2]; omega)).mono ?_
          rintro e w7 ⟨v7, rfl, ho7, hb7⟩
          have HQ7 := hide ho7.bsl
          have HR7 := hide (HR6.out.but (g := 0) hb7)
          have HB7 := hide (HB6.out.trans (But.of hb7))
          have HG7 := hide (heap_kept hb7 HG6.out)
          clear ho7 hb7 HR6 HB6 HPP HG6 HR5 HB5 hg5
          go_wp2_with fail
          refine (sum256_any v7 (p.take B) w7 (by rw [hl2]; omega) (HT2.out.but HB7.out (by omega) (by omega)) HQ7.out).mono ?_
          rintro e w8 ⟨rfl, hb8⟩
          rw [HOU.out]
          have HR8 := hide ((HR7.out.but (g := 0) hb8).more (.cells ou 29))
          have HB8 := hide ((HB7.out.trans (But.of hb8)).trans (But.of (below_alloc w8 (.cells ou 29))))
          have HG8 := hide (heap_more (.cells ou 29) (heap_kept hb8 HG7.out))
          have HH8 := hide (Go.heap_alloc_new w8 (.cells ou 29))
          clear hb8 HR7 HB7 HG7 HQ7
          go_wp2_with (first
            | refine wpList_alloc_as rfl 29 rfl (.agg zero32) zero32 Tryd.zero32 rfl ?_
            | (refine wpList_store_row rfl 29 _ _ rfl w8.heap.size ou (by first | rfl | simp [Act.eval, Act.put]) (by first | rfl | simp [Act.eval, Act.put]) 29 zero32 (Go.heap_alloc_new w8 _) HS1.out HS2.out HS3.out ?_; rw [World.setRow_alloc_new])
            | refine wpList_load_row rfl 29 (.tmp 9) rfl g5 rfl 29 ou (0, 0) _ HG8.out Tryd.underlying29 rfl HS1.out ?_
            | refine wpList_load_row rfl 29 (.tmp 10) rfl w8.heap.size rfl 29 ou (0, 0) _ HH8.out Tryd.underlying29 rfl HS1.out ?_)
          refine (hEQ.out _).mono ?_
          rintro e w9 ⟨rfl, hb9⟩
          have HR9 := hide (HR8.out.but (g := 0) hb9)
          have HB9 := hide (HB8.out.trans (But.of hb9))
          have hc9 := HR9.out.count
          clear hb9 HR8 HB8 HG8 HH8
          go_wp2_with fail
          refine (count_any w.heap.size B w9 hc9).mono ?_
          rintro e wy ⟨rfl, rfl⟩
          go_wp2_with fail
          go_roundw
          case rel => exact ⟨B, k + 1, hBl, by omega, rfl, by go_num, HR9.out, HB9.out⟩
          case measure => simp [intOf]; omega
        · obtain ⟨n, hn⟩ : ∃ n : Nat, n0 = n := ⟨_, rfl⟩
          subst hn
          go_wp2_with fail
          clear hzb hck
          have hAn : A + n0 ≤ p.length := by omega
          have HPR := hide (HP2.out.but HBUT.out)
          have HBS := hide (HPR.out.slice hAn)
          have hlen : ((p.drop A).take n0).length = n0 := by simp; omega
          refine (copied_any _ _ _ HBS.out (by rw [hlen]; omega)).mono ?_
          rintro e w3 ⟨v3, rfl, ho3, hb3⟩
          have hgw : w.heap.size < wr.heap.size := HROW.out.lt
          have HQ3 := hide (ho3.bne hgw)
          have HR3 := hide (HROW.out.but (g := 0) hb3)
          have HB3 := hide (HBUT.out.trans (But.of hb3))
          clear ho3 hb3
          go_wp2_with fail
          have hAl : (p.take A).length = A := by simp; omega
          refine (write_any w.heap.size v3 (p.take A) ((p.drop A).take n0) w3 (fun x hx => HPB.out x (List.mem_of_mem_take hx)) (by rw [hAl, hlen]; omega) HQ3.out (HB3.out.tab HT2.out.k (by omega)) (by omega) (by rw [hAl]; exact HR3.out)).mono ?_
          rintro e w4 ⟨rfl, hR4, hb4⟩
          rw [hAl, hlen, take_add'] at hR4
          have HR4 := hide hR4
          have HB4 := hide (HB3.out.trans hb4)
          clear hR4 hb4 HR3 HB3 HQ3
          have hl2 : (p.take (A + n0)).length = A + n0 := by simp; omega
          obtain ⟨B, hB⟩ : ∃ B, A + n0 = B := ⟨_, rfl⟩
          have hBI : (A : Int) + (n0 : Int) = (B : Int) := by omega
          have hBl : B ≤ p.length := by omega
          rw [hB] at HR4 hl2
          obtain ⟨f1, f2, f3⟩ := sum_shape (p.take B)
          have HS1 := hide f1
          have HS2 := hide f2
          have HS3 := hide f3
          clear f1 f2 f3 hB
          have HTB := hide (fun x (hx : x ∈ p.take B) => HPB.out x (List.mem_of_mem_take hx))
          have hsl := shaL_len (p.take B)
          have HT4 := hide (HT2.out.but HB4.out (by omega) (by omega))
          go_wp2_with fail
          refine (sum_any w.heap.size (p.take B) w4 HTB.out (by rw [hl2]; omega) HT4.out.k HT4.out.ltK (by rw [hl2]; exact HR4.out)).mono ?_
          rintro e w5 ⟨rfl, hb5⟩
          have HR5 := hide (HR4.out.but (g := 0) hb5)
          have HB5 := hide (HB4.out.trans (But.of hb5))
          clear hb5 HR4 HB4 HT4
          have hEQ := hide (fun wx => equal_list hsl wx)
          generalize hou : ((shaL (p.take B)).map byteV).toArray = ou at *
          have HOU := hide hou
          clear hou
          have HR6 := hide (HR5.out.more (.cells ou 29))
          have HB6 := hide (HB5.out.trans (But.of (below_alloc w5 (.cells ou 29))))
          have HPP := hide ((HP2.out.but HB6.out).head hBl)
          have HG6 := hide (Go.heap_alloc_new w5 (.cells ou 29))
          go_wp2_with (first
            | refine wpList_alloc_as rfl 29 rfl (.agg zero32) zero32 Tryd.zero32 rfl ?_
            | (refine wpList_store_row rfl 29 _ _ rfl w5.heap.size ou (by first | rfl | simp [Act.eval, Act.put]) (by first | rfl | simp [Act.eval, Act.put]) 29 zero32 (Go.heap_alloc_new w5 _) HS1.out HS2.out HS3.out ?_; rw [World.setRow_alloc_new]))
          generalize hg5 : w5.heap.size = g5 at *
          generalize w5.alloc (.cells ou 29) = w6 at *
          refine (copied_any _ (p.take B) w6 HPP.out (by rw [hl2]; omega)).mono ?_
          rintro e w7 ⟨v7, rfl, ho7, hb7⟩
          have HQ7 := hide ho7.bsl
          have HR7 := hide (HR6.out.but (g := 0) hb7)
          have HB7 := hide (HB6.out.trans (But.of hb7))
          have HG7 := hide (heap_kept hb7 HG6.out)
          clear ho7 hb7 HR6 HB6 HPP HG6 HR5 HB5 hg5
          go_wp2_with fail
          refine (sum256_any v7 (p.take B) w7 (by rw [hl2]; omega) (HT2.out.but HB7.out (by omega) (by omega)) HQ7.out).mono ?_
          rintro e w8 ⟨rfl, hb8⟩
          rw [HOU.out]
          have HR8 := hide ((HR7.out.but (g := 0) hb8).more (.cells ou 29))
          have HB8 := hide ((HB7.out.trans (But.of hb8)).trans (But.of (below_alloc w8 (.cells ou 29))))
          have HG8 := hide (heap_more (.cells ou 29) (heap_kept hb8 HG7.out))
          have HH8 := hide (Go.heap_alloc_new w8 (.cells ou 29))
          clear hb8 HR7 HB7 HG7 HQ7
          go_wp2_with (first
            | refine wpList_alloc_as rfl 29 rfl (.agg zero32) zero32 Tryd.zero32 rfl ?_
            | (refine wpList_store_row rfl 29 _ _ rfl w8.heap.size ou (by first | rfl | simp [Act.eval, Act.put]) (by first | rfl | simp [Act.eval, Act.put]) 29 zero32 (Go.heap_alloc_new w8 _) HS1.out HS2.out HS3.out ?_; rw [World.setRow_alloc_new])
            | refine wpList_load_row rfl 29 (.tmp 9) rfl g5 rfl 29 ou (0, 0) _ HG8.out Tryd.underlying29 rfl HS1.out ?_
            | refine wpList_load_row rfl 29 (.tmp 10) rfl w8.heap.size rfl 29 ou (0, 0) _ HH8.out Tryd.underlying29 rfl HS1.out ?_)
          refine (hEQ.out _).mono ?_
          rintro e w9 ⟨rfl, hb9⟩
          have HR9 := hide (HR8.out.but (g := 0) hb9)
          have HB9 := hide (HB8.out.trans (But.of hb9))
          have hc9 := HR9.out.count
          clear hb9 HR8 HB8 HG8 HH8
          go_wp2_with fail
          refine (count_any w.heap.size B w9 hc9).mono ?_
          rintro e wy ⟨rfl, rfl⟩
          go_wp2_with fail
          go_roundw
          case rel => exact ⟨B, k + 1, hBl, by omega, rfl, by go_num, HR9.out, HB9.out⟩
          case measure => simp [intOf]; omega
    · have HPR := hide (HP2.out.but HBUT.out)
      have hAl : (p.take A).length = A := by simp; omega
      have hcond : ¬ (k : Int) < (zs.length : Int) ∨ ¬ (A : Int) < (p.length : Int) := by omega
      have hrest : (p.take A ++ p.drop A) = p := List.take_append_drop A p
      cases pp with
      | none =>
        have hcp : capp = 0 := hnp rfl
        have hp0 : p = [] := List.eq_nil_of_length_eq_zero (by omega)
        have hA0 : A = 0 := by rw [hp0] at hA; simpa using hA
        have hpl : p.length = 0 := by omega
        have hd0 : p.drop A = [] := by rw [hp0]; simp
        subst hcp
        rw [hpl] at HPW
        clear hp0
        go_wp2_with fail
        all_goals
          have HBS : Hid (BSl wr (.slice none 0 0) (p.drop A)) := by rw [hd0]; exact bsl_nil _
          refine (copied_any _ (p.drop A) _ HBS.out (by rw [List.length_drop]; omega)).mono ?_
          rintro e w3 ⟨v3, rfl, ho3, hb3⟩
          have hgw : w.heap.size < wr.heap.size := HROW.out.lt
          have HQ3 := hide (ho3.bne hgw)
          have HR3 := hide (HROW.out.but (g := 0) hb3)
          have HB3 := hide (HBUT.out.trans (But.of hb3))
          clear ho3 hb3 HBS
          go_wp2_with fail
          refine (write_any w.heap.size v3 (p.take A) (p.drop A) w3 (fun x hx => HPB.out x (List.mem_of_mem_take hx)) (by rw [hAl, List.length_drop]; omega) HQ3.out (HB3.out.tab HT2.out.k (by omega)) (by omega) (by rw [hAl]; exact HR3.out)).mono ?_
          rintro e w4 ⟨rfl, hR4, hb4⟩
          rw [hrest, hAl, List.length_drop, show A + (p.length - A) = p.length by omega] at hR4
          have HR4 := hide hR4
          have HB4 := hide (HB3.out.trans hb4)
          clear hR4 hb4 HR3 HB3 HQ3
          obtain ⟨f1, f2, f3⟩ := sum_shape p
          have HS1 := hide f1
          have HS2 := hide f2
          have HS3 := hide f3
          clear f1 f2 f3
          have hsl := shaL_len p
          have HT4 := hide (HT2.out.but HB4.out (by omega) (by omega))
          go_wp2_with fail
          refine (sum_any w.heap.size p w4 HPB.out (by omega) HT4.out.k HT4.out.ltK HR4.out).mono ?_
          rintro e w5 ⟨rfl, hb5⟩
          have HR5 := hide (HR4.out.but (g := 0) hb5)
          have HB5 := hide (HB4.out.trans (But.of hb5))
          clear hb5 HR4 HB4 HT4
          have hEQ := hide (fun wx => equal_list hsl wx)
          generalize hou : ((shaL p).map byteV).toArray = ou at *
          have HOU := hide hou
          clear hou
          have HR6 := hide (HR5.out.more (.cells ou 29))
          have HB6 := hide (HB5.out.trans (But.of (below_alloc w5 (.cells ou 29))))
          have HL6 := hide (HB2.out.trans (HB6.out.below (Nat.le_refl _) HB2.out.size))
          have HPP := hide (HPW.out.below HL6.out)
          have HG6 := hide (Go.heap_alloc_new w5 (.cells ou 29))
          go_wp2_with (first
            | refine wpList_alloc_as rfl 29 rfl (.agg zero32) zero32 Tryd.zero32 rfl ?_
            | (refine wpList_store_row rfl 29 _ _ rfl w5.heap.size ou (by first | rfl | simp [Act.eval, Act.put]) (by first | rfl | simp [Act.eval, Act.put]) 29 zero32 (Go.heap_alloc_new w5 _) HS1.out HS2.out HS3.out ?_; rw [World.setRow_alloc_new]))
          generalize hg5 : w5.heap.size = g5 at *
          generalize w5.alloc (.cells ou 29) = w6 at *
          refine (copied_any _ p w6 HPP.out (by omega)).mono ?_
          rintro e w7 ⟨v7, rfl, ho7, hb7⟩
          have HQ7 := hide ho7.bsl
          have HR7 := hide (HR6.out.but (g := 0) hb7)
          have HB7 := hide (HB6.out.trans (But.of hb7))
          have HG7 := hide (heap_kept hb7 HG6.out)
          clear ho7 hb7 HR6 HB6 HPP HG6 HR5 HB5 hg5 HL6
          go_wp2_with fail
          refine (sum256_any v7 p w7 (by omega) (HT2.out.but HB7.out (by omega) (by omega)) HQ7.out).mono ?_
          rintro e w8 ⟨rfl, hb8⟩
          rw [HOU.out]
          have HR8 := hide ((HR7.out.but (g := 0) hb8).more (.cells ou 29))
          have HB8 := hide ((HB7.out.trans (But.of hb8)).trans (But.of (below_alloc w8 (.cells ou 29))))
          have HG8 := hide (heap_more (.cells ou 29) (heap_kept hb8 HG7.out))
          have HH8 := hide (Go.heap_alloc_new w8 (.cells ou 29))
          clear hb8 HR7 HB7 HG7 HQ7
          go_wp2_with (first
            | refine wpList_alloc_as rfl 29 rfl (.agg zero32) zero32 Tryd.zero32 rfl ?_
            | (refine wpList_store_row rfl 29 _ _ rfl w8.heap.size ou (by first | rfl | simp [Act.eval, Act.put]) (by first | rfl | simp [Act.eval, Act.put]) 29 zero32 (Go.heap_alloc_new w8 _) HS1.out HS2.out HS3.out ?_; rw [World.setRow_alloc_new])
            | refine wpList_load_row rfl 29 (.tmp 11) rfl g5 rfl 29 ou (0, 0) _ HG8.out Tryd.underlying29 rfl HS1.out ?_
            | refine wpList_load_row rfl 29 (.tmp 12) rfl w8.heap.size rfl 29 ou (0, 0) _ HH8.out Tryd.underlying29 rfl HS1.out ?_)
          refine (hEQ.out _).mono ?_
          rintro e w9 ⟨rfl, hb9⟩
          have HR9 := hide (HR8.out.but (g := 0) hb9)
          have HB9 := hide (HB8.out.trans (But.of hb9))
          have hc9 := HR9.out.count
          clear hb9 HR8 HB8 HG8 HH8
          go_wp2_with fail
          refine (count_any w.heap.size p.length w9 hc9).mono ?_
          rintro e wy ⟨rfl, rfl⟩
          go_wp2_with fail
          go_ret
          exact ⟨rfl, HB2.out.trans (HB9.out.below (Nat.le_refl _) HB2.out.size)⟩
      | some ad =>
        obtain ⟨b, off, sp⟩ := ad
        by_cases hcap : A = capp
        · have HBX : Hid (BSl wr (.slice (some ⟨b, off, sp⟩) 0 0) (p.drop A)) := by
            have h := HPR.out.rest hA ⟨b, off, sp⟩ (fun h => absurd h (by omega))
            rw [show p.length - A = 0 by omega, show capp - A = 0 by omega] at h; exact h
          go_wp2_with fail
          all_goals
            have HBS : Hid (BSl wr (.slice (some ⟨b, off, sp⟩) 0 0) (p.drop A)) := HBX.out
            refine (copied_any _ (p.drop A) _ HBS.out (by rw [List.length_drop]; omega)).mono ?_
            rintro e w3 ⟨v3, rfl, ho3, hb3⟩
            have hgw : w.heap.size < wr.heap.size := HROW.out.lt
            have HQ3 := hide (ho3.bne hgw)
            have HR3 := hide (HROW.out.but (g := 0) hb3)
            have HB3 := hide (HBUT.out.trans (But.of hb3))
            clear ho3 hb3 HBS
            go_wp2_with fail
            refine (write_any w.heap.size v3 (p.take A) (p.drop A) w3 (fun x hx => HPB.out x (List.mem_of_mem_take hx)) (by rw [hAl, List.length_drop]; omega) HQ3.out (HB3.out.tab HT2.out.k (by omega)) (by omega) (by rw [hAl]; exact HR3.out)).mono ?_
            rintro e w4 ⟨rfl, hR4, hb4⟩
            rw [hrest, hAl, List.length_drop, show A + (p.length - A) = p.length by omega] at hR4
            have HR4 := hide hR4
            have HB4 := hide (HB3.out.trans hb4)
            clear hR4 hb4 HR3 HB3 HQ3
            obtain ⟨f1, f2, f3⟩ := sum_shape p
            have HS1 := hide f1
            have HS2 := hide f2
            have HS3 := hide f3
            clear f1 f2 f3
            have hsl := shaL_len p
            have HT4 := hide (HT2.out.but HB4.out (by omega) (by omega))
            go_wp2_with fail
            refine (sum_any w.heap.size p w4 HPB.out (by omega) HT4.out.k HT4.out.ltK HR4.out).mono ?_
            rintro e w5 ⟨rfl, hb5⟩
            have HR5 := hide (HR4.out.but (g := 0) hb5)
            have HB5 := hide (HB4.out.trans (But.of hb5))
            clear hb5 HR4 HB4 HT4
            have hEQ := hide (fun wx => equal_list hsl wx)
            generalize hou : ((shaL p).map byteV).toArray = ou at *
            have HOU := hide hou
            clear hou
            have HR6 := hide (HR5.out.more (.cells ou 29))
            have HB6 := hide (HB5.out.trans (But.of (below_alloc w5 (.cells ou 29))))
            have HL6 := hide (HB2.out.trans (HB6.out.below (Nat.le_refl _) HB2.out.size))
            have HPP := hide (HPW.out.below HL6.out)
            have HG6 := hide (Go.heap_alloc_new w5 (.cells ou 29))
            go_wp2_with (first
              | refine wpList_alloc_as rfl 29 rfl (.agg zero32) zero32 Tryd.zero32 rfl ?_
              | (refine wpList_store_row rfl 29 _ _ rfl w5.heap.size ou (by first | rfl | simp [Act.eval, Act.put]) (by first | rfl | simp [Act.eval, Act.put]) 29 zero32 (Go.heap_alloc_new w5 _) HS1.out HS2.out HS3.out ?_; rw [World.setRow_alloc_new]))
            generalize hg5 : w5.heap.size = g5 at *
            generalize w5.alloc (.cells ou 29) = w6 at *
            refine (copied_any _ p w6 HPP.out (by omega)).mono ?_
            rintro e w7 ⟨v7, rfl, ho7, hb7⟩
            have HQ7 := hide ho7.bsl
            have HR7 := hide (HR6.out.but (g := 0) hb7)
            have HB7 := hide (HB6.out.trans (But.of hb7))
            have HG7 := hide (heap_kept hb7 HG6.out)
            clear ho7 hb7 HR6 HB6 HPP HG6 HR5 HB5 hg5 HL6
            go_wp2_with fail
            refine (sum256_any v7 p w7 (by omega) (HT2.out.but HB7.out (by omega) (by omega)) HQ7.out).mono ?_
            rintro e w8 ⟨rfl, hb8⟩
            rw [HOU.out]
            have HR8 := hide ((HR7.out.but (g := 0) hb8).more (.cells ou 29))
            have HB8 := hide ((HB7.out.trans (But.of hb8)).trans (But.of (below_alloc w8 (.cells ou 29))))
            have HG8 := hide (heap_more (.cells ou 29) (heap_kept hb8 HG7.out))
            have HH8 := hide (Go.heap_alloc_new w8 (.cells ou 29))
            clear hb8 HR7 HB7 HG7 HQ7
            go_wp2_with (first
              | refine wpList_alloc_as rfl 29 rfl (.agg zero32) zero32 Tryd.zero32 rfl ?_
              | (refine wpList_store_row rfl 29 _ _ rfl w8.heap.size ou (by first | rfl | simp [Act.eval, Act.put]) (by first | rfl | simp [Act.eval, Act.put]) 29 zero32 (Go.heap_alloc_new w8 _) HS1.out HS2.out HS3.out ?_; rw [World.setRow_alloc_new])
              | refine wpList_load_row rfl 29 (.tmp 11) rfl g5 rfl 29 ou (0, 0) _ HG8.out Tryd.underlying29 rfl HS1.out ?_
              | refine wpList_load_row rfl 29 (.tmp 12) rfl w8.heap.size rfl 29 ou (0, 0) _ HH8.out Tryd.underlying29 rfl HS1.out ?_)
            refine (hEQ.out _).mono ?_
            rintro e w9 ⟨rfl, hb9⟩
            have HR9 := hide (HR8.out.but (g := 0) hb9)
            have HB9 := hide (HB8.out.trans (But.of hb9))
            have hc9 := HR9.out.count
            clear hb9 HR8 HB8 HG8 HH8
            go_wp2_with fail
            refine (count_any w.heap.size p.length w9 hc9).mono ?_
            rintro e wy ⟨rfl, rfl⟩
            go_wp2_with fail
            go_ret
            exact ⟨rfl, HB2.out.trans (HB9.out.below (Nat.le_refl _) HB2.out.size)⟩
        · have HBX := hide (HPR.out.rest hA ((⟨b, off, sp⟩ : Addr).add A) (fun _ => rfl))
          go_wp2_with fail
          all_goals
            have HBS : Hid (BSl wr (.slice (some ((⟨b, off, sp⟩ : Addr).add A)) (p.length - A) (capp - A)) (p.drop A)) := HBX.out
            refine (copied_any _ (p.drop A) _ HBS.out (by rw [List.length_drop]; omega)).mono ?_
            rintro e w3 ⟨v3, rfl, ho3, hb3⟩
            have hgw : w.heap.size < wr.heap.size := HROW.out.lt
            have HQ3 := hide (ho3.bne hgw)
            have HR3 := hide (HROW.out.but (g := 0) hb3)
            have HB3 := hide (HBUT.out.trans (But.of hb3))
            clear ho3 hb3 HBS
            go_wp2_with fail
            refine (write_any w.heap.size v3 (p.take A) (p.drop A) w3 (fun x hx => HPB.out x (List.mem_of_mem_take hx)) (by rw [hAl, List.length_drop]; omega) HQ3.out (HB3.out.tab HT2.out.k (by omega)) (by omega) (by rw [hAl]; exact HR3.out)).mono ?_
            rintro e w4 ⟨rfl, hR4, hb4⟩
            rw [hrest, hAl, List.length_drop, show A + (p.length - A) = p.length by omega] at hR4
            have HR4 := hide hR4
            have HB4 := hide (HB3.out.trans hb4)
            clear hR4 hb4 HR3 HB3 HQ3
            obtain ⟨f1, f2, f3⟩ := sum_shape p
            have HS1 := hide f1
            have HS2 := hide f2
            have HS3 := hide f3
            clear f1 f2 f3
            have hsl := shaL_len p
            have HT4 := hide (HT2.out.but HB4.out (by omega) (by omega))
            go_wp2_with fail
            refine (sum_any w.heap.size p w4 HPB.out (by omega) HT4.out.k HT4.out.ltK HR4.out).mono ?_
            rintro e w5 ⟨rfl, hb5⟩
            have HR5 := hide (HR4.out.but (g := 0) hb5)
            have HB5 := hide (HB4.out.trans (But.of hb5))
            clear hb5 HR4 HB4 HT4
            have hEQ := hide (fun wx => equal_list hsl wx)
            generalize hou : ((shaL p).map byteV).toArray = ou at *
            have HOU := hide hou
            clear hou
            have HR6 := hide (HR5.out.more (.cells ou 29))
            have HB6 := hide (HB5.out.trans (But.of (below_alloc w5 (.cells ou 29))))
            have HL6 := hide (HB2.out.trans (HB6.out.below (Nat.le_refl _) HB2.out.size))
            have HPP := hide (HPW.out.below HL6.out)
            have HG6 := hide (Go.heap_alloc_new w5 (.cells ou 29))
            go_wp2_with (first
              | refine wpList_alloc_as rfl 29 rfl (.agg zero32) zero32 Tryd.zero32 rfl ?_
              | (refine wpList_store_row rfl 29 _ _ rfl w5.heap.size ou (by first | rfl | simp [Act.eval, Act.put]) (by first | rfl | simp [Act.eval, Act.put]) 29 zero32 (Go.heap_alloc_new w5 _) HS1.out HS2.out HS3.out ?_; rw [World.setRow_alloc_new]))
            generalize hg5 : w5.heap.size = g5 at *
            generalize w5.alloc (.cells ou 29) = w6 at *
            refine (copied_any _ p w6 HPP.out (by omega)).mono ?_
            rintro e w7 ⟨v7, rfl, ho7, hb7⟩
            have HQ7 := hide ho7.bsl
            have HR7 := hide (HR6.out.but (g := 0) hb7)
            have HB7 := hide (HB6.out.trans (But.of hb7))
            have HG7 := hide (heap_kept hb7 HG6.out)
            clear ho7 hb7 HR6 HB6 HPP HG6 HR5 HB5 hg5 HL6
            go_wp2_with fail
            refine (sum256_any v7 p w7 (by omega) (HT2.out.but HB7.out (by omega) (by omega)) HQ7.out).mono ?_
            rintro e w8 ⟨rfl, hb8⟩
            rw [HOU.out]
            have HR8 := hide ((HR7.out.but (g := 0) hb8).more (.cells ou 29))
            have HB8 := hide ((HB7.out.trans (But.of hb8)).trans (But.of (below_alloc w8 (.cells ou 29))))
            have HG8 := hide (heap_more (.cells ou 29) (heap_kept hb8 HG7.out))
            have HH8 := hide (Go.heap_alloc_new w8 (.cells ou 29))
            clear hb8 HR7 HB7 HG7 HQ7
            go_wp2_with (first
              | refine wpList_alloc_as rfl 29 rfl (.agg zero32) zero32 Tryd.zero32 rfl ?_
              | (refine wpList_store_row rfl 29 _ _ rfl w8.heap.size ou (by first | rfl | simp [Act.eval, Act.put]) (by first | rfl | simp [Act.eval, Act.put]) 29 zero32 (Go.heap_alloc_new w8 _) HS1.out HS2.out HS3.out ?_; rw [World.setRow_alloc_new])
              | refine wpList_load_row rfl 29 (.tmp 11) rfl g5 rfl 29 ou (0, 0) _ HG8.out Tryd.underlying29 rfl HS1.out ?_
              | refine wpList_load_row rfl 29 (.tmp 12) rfl w8.heap.size rfl 29 ou (0, 0) _ HH8.out Tryd.underlying29 rfl HS1.out ?_)
            refine (hEQ.out _).mono ?_
            rintro e w9 ⟨rfl, hb9⟩
            have HR9 := hide (HR8.out.but (g := 0) hb9)
            have HB9 := hide (HB8.out.trans (But.of hb9))
            have hc9 := HR9.out.count
            clear hb9 HR8 HB8 HG8 HH8
            go_wp2_with fail
            refine (count_any w.heap.size p.length w9 hc9).mono ?_
            rintro e wy ⟨rfl, rfl⟩
            go_wp2_with fail
            go_ret
            exact ⟨rfl, HB2.out.trans (HB9.out.below (Nat.le_refl _) HB2.out.size)⟩
end Go.Proofs.YtbkcenpohcjgnabDoor
