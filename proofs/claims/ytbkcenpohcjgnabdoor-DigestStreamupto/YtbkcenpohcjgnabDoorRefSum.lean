import Derived.Test.YtbkcenpohcjgnabDoorRefPad
import Derived.Test.YtbkcenpohcjgnabDoorRefWords
import Derived.Test.YtbkcenpohcjgnabDoorRefChunk
namespace Go.Proofs.YtbkcenpohcjgnabDoor
open Go.RowKit
open Num
set_option linter.unusedVariables false
set_option linter.unusedSimpArgs false

/-- what the output loop keeps: the state's row, the output's row -/
structure OutInv (w1 wr : World) (gs go : Nat) (sa ys : Array Value) : Prop where
  os : wr.heap[gs]? = some (.cells sa 52 (0, 0))
  oo : wr.heap[go]? = some (.cells ys 29 (0, 0))
  ob : Below w1.heap.size w1 wr
theorem OutInv.set {w1 wr : World} {gs go : Nat} {sa ys : Array Value} (h : OutInv w1 wr gs go sa ys) (hne : gs ≠ go) (hle : w1.heap.size ≤ go) (k : Nat) (v : Value) : OutInv w1 (wr.drew.setCell ⟨go, k, none⟩ v) gs go sa (ys.setIfInBounds k v) := by
  refine ⟨?_, ?_, h.ob.drew.setCell (by show w1.heap.size ≤ go; omega) _⟩
  · rw [Go.heap_setCell_other _ _ _ _ (by show gs ≠ go; exact hne)]; exact h.os
  · exact Go.heap_setCell_same wr.drew _ k ys 29 _ h.oo
theorem OutInv.put {w1 wr : World} {gs go : Nat} {sa ys : Array Value} (h : OutInv w1 wr gs go sa ys) (hne : gs ≠ go) (hle : w1.heap.size ≤ go) (k : Nat) (v : Value) : OutInv w1 (wr.setCell ⟨go, k, none⟩ v) gs go sa (ys.setIfInBounds k v) := by
  refine ⟨?_, ?_, h.ob.setCell (by show w1.heap.size ≤ go; omega) _⟩
  · rw [Go.heap_setCell_other _ _ _ _ (by show gs ≠ go; exact hne)]; exact h.os
  · exact Go.heap_setCell_same wr _ k ys 29 _ h.oo
theorem row_some {w : World} {g k : Nat} {ys : Array Value} {t : TypeId} {fr : Nat × Nat} (h : w.heap[g]? = some (.cells ys t fr)) (hk : k < ys.size) : ∃ v, w.cell? ⟨g, k, none⟩ = some v := by
  refine ⟨ys[k], ?_⟩
  rw [cell_of_row _ _ k ys t fr h]; simp

set_option maxRecDepth 100000 in
set_option maxHeartbeats 8000000 in
theorem sumWith_any (v : Value) (l : List Nat) (w : World) (h : BSl w v l) (hr : l.length + 72 ≤ 140737488355328) :
    Calls Tryd.prog 37 #[v, .agg (H0.map wordV).toArray, .agg (Ks.map wordV).toArray] w fun e w' => e = .returned (.agg ((shaL l).map byteV).toArray) ∧ Below w.heap.size w w' := by
  have HV := hide h
  have HON := hide (wordV_one H0)
  have HS1 : Hid ((Tryd.prog.info? 52).map (·.size) = some (H0.map wordV).toArray.size) := Tryd.size8w
  have HS2 : Hid (zero8w.size = (H0.map wordV).toArray.size) := Eq.refl _
  generalize hka : (Ks.map wordV).toArray = ka at *
  generalize hha : (H0.map wordV).toArray = ha at *
  clear h
  go_enter Tryd.func37, Tryd.ntmps37
  go_wp2_with (first
    | refine wpList_alloc_as rfl 52 rfl (.agg zero8w) zero8w Tryd.zero8w rfl ?_
    | refine wpList_alloc_as rfl 29 rfl (.agg zero32) zero32 Tryd.zero32 rfl ?_)
  have HB3 := hide (below_alloc3 w (.cells ha 52) (.cells ka 67) (.cells zero32 29))
  refine (padded_any v l _ (HV.out.below HB3.out) hr).mono ?_
  rintro e w1 ⟨vm, rfl, hom, hb1⟩
  have RH := hide (heap_kept hb1 (heap_more (.cells zero32 29) (heap_more (.cells ka 67) (Go.heap_alloc_new w (.cells ha 52)))))
  have RK := hide (heap_kept hb1 (heap3_snd w (.cells ha 52) (.cells ka 67) (.cells zero32 29)))
  have RZ := hide (heap_kept hb1 (heap3_new w (.cells ha 52) (.cells ka 67) (.cells zero32 29)))
  have RB := hide (HB3.out.trans (hb1.mono (by simp; omega)))
  have hg0 : w.heap.size + 1 + 1 < w1.heap.size := (Array.getElem?_eq_some_iff.1 RZ.out).1
  have HPM := hide hom.bsl
  have hplen : (padL l).length = l.length + padN l.length + 8 := by
    rw [padL, List.length_append, List.length_append, lenB_len, List.length_take, padA_len]
    have := padN_bd l.length
    omega
  have hpl : (padL l).length ≤ 140737488355328 + 64 := by
    have := padN_bd l.length
    omega
  have HBY := hide hom.2
  have HSH : Hid (shaL l = bytesS (absorb (padL l) ((padL l).length / 64)) 32) := Eq.refl _
  generalize hPM : padL l = PM at *
  clear HB3 hb1 hom hplen HV
  have hqm := HPM.out
  obtain ⟨am, capm, rfl, hl1, hm1, _, _, _⟩ := hqm
  unfold maxLen at hm1
  go_wp2_with (first
    | refine wpList_alloc_as rfl 52 rfl (.agg zero8w) zero8w Tryd.zero8w rfl ?_
    | refine wpList_load_row rfl 52 (.tmp 4) rfl w.heap.size rfl 52 ha (0, 0) _ RH.out Tryd.underlying52 rfl HS1.out ?_
    | (refine wpList_store_row rfl 52 (.tmp 8) (.tmp 15) rfl w1.heap.size ha (by first | rfl | simp [Act.eval, Act.put]) (by first | rfl | simp [Act.eval, Act.put]) 52 zero8w (Go.heap_alloc_new w1 _) HS1.out HS2.out HON.out ?_; rw [World.setRow_alloc_new]))
  have hst0 : ha = ((absorb PM 0).list.map wordV).toArray := by rw [← hha]; rfl
  have RS := hide (Go.heap_alloc_new w1 (.cells ha 52))
  have HST0 := hide hst0
  have RB1 := hide (below_alloc w1 (.cells ha 52))
  generalize w1.alloc (.cells ha 52) = W at *
  clear hst0
  go_loopw [9] (fun i wr => ∃ q : Nat, 64 * q ≤ PM.length ∧ i = .int .i64 ((64 * q : Nat) : Int) ∧ Below w1.heap.size w1 wr ∧ wr.heap[w1.heap.size]? = some (.cells ((absorb PM q).list.map wordV).toArray 52 (0, 0))) (fun i _ => PM.length + 64 - (intOf i).toNat)
  case atStart => exact ⟨0, Nat.zero_le _, rfl, RB1.out, by rw [← HST0.out]; exact RS.out⟩
  case round =>
    clear RS RB1
    obtain ⟨q, hq, rfl, hbel, hrow⟩ := hrel
    by_cases hlt : 64 * q + 64 ≤ PM.length
    · have HW1 := hide (words_any _ PM (64 * q) wr (HPM.out.below hbel) hlt (by omega))
      have hcb := take_lt HBY.out (64 * q) 64
      have HCH := hide (fun wx => chunk_any (absorb PM q) (absorb_ok PM q) (sched ((PM.drop (64 * q)).take 64) 64) (sched_len _ _) (sched_lt hcb 64) wx)
      rw [hka] at HCH
      have HNX : Hid ((absorb PM q).add (rounds Ks (sched ((PM.drop (64 * q)).take 64) 64) (absorb PM q) 64) = absorb PM (q + 1)) := Eq.refl _
      rw [HNX.out] at HCH
      have hwl : ((sched ((PM.drop (64 * q)).take 64) 64).map wordV).toArray.size = 64 := by simp [sched_len]
      have hwo := wordV_one (sched ((PM.drop (64 * q)).take 64) 64)
      have hws : (Tryd.prog.info? 67).map (·.size) = some ((sched ((PM.drop (64 * q)).take 64) 64).map wordV).toArray.size := by rw [hwl]; exact Tryd.sizeW
      have hwz : zeroW.size = ((sched ((PM.drop (64 * q)).take 64) 64).map wordV).toArray.size := by rw [hwl]; rfl
      obtain ⟨wa, hwa⟩ : ∃ wa, ((sched ((PM.drop (64 * q)).take 64) 64).map wordV).toArray = wa := ⟨_, rfl⟩
      rw [hwa] at HW1 HCH hwo hws hwz
      obtain ⟨na, hna⟩ : ∃ na, ((absorb PM (q + 1)).list.map wordV).toArray = na := ⟨_, rfl⟩
      obtain ⟨sa, hsa⟩ : ∃ sa, ((absorb PM q).list.map wordV).toArray = sa := ⟨_, rfl⟩
      have hs1 : (Tryd.prog.info? 52).map (·.size) = some sa.size := by rw [← hsa, list_size]; exact Tryd.size8w
      have hs2 : (Tryd.prog.info? 52).map (·.size) = some na.size := by rw [← hna, list_size]; exact Tryd.size8w
      have hs3 : sa.size = na.size := by rw [← hsa, ← hna, list_size, list_size]
      have hno : na.all (·.oneCell') = true := by rw [← hna]; exact wordV_one _
      rw [hna, hsa] at HCH
      rw [hsa] at hrow
      have hks : (Tryd.prog.info? 67).map (·.size) = some ka.size := by rw [← hka]; exact Tryd.sizeW
      have HNA := hide hna
      have HRW := hide hrow
      have HBL := hide hbel
      obtain ⟨p, hp⟩ : ∃ p, 64 * q = p := ⟨_, rfl⟩
      rw [hp] at HW1 hlt ⊢
      have HP := hide hp
      have hszr := hbel.size
      clear hwa hwl hna hsa hcb hbel hrow HNX hq hp
      go_wp2_with fail
      refine HW1.out.mono ?_
      rintro e wa1 ⟨rfl, hb2⟩
      have HBa := hide ((HBL.out.trans (hb2.mono hszr)).alloc (Nat.le_trans hszr hb2.size) (.cells wa 67))
      have HRa := hide (heap_more (.cells wa 67) (heap_kept hb2 HRW.out))
      have HWa := hide (Go.heap_alloc_new wa1 (.cells wa 67))
      have HKa := hide (heap_kept HBa.out RK.out)
      clear hb2 HW1 HBL HRW
      go_wp2_with (first
        | refine wpList_alloc_as rfl 67 rfl (.agg zeroW) zeroW Tryd.zeroW rfl ?_
        | (refine wpList_store_row rfl 67 (.tmp 10) (.tmp 25) rfl wa1.heap.size wa (by first | rfl | simp [Act.eval, Act.put]) (by first | rfl | simp [Act.eval, Act.put]) 67 zeroW (Go.heap_alloc_new wa1 _) hws hwz hwo ?_; rw [World.setRow_alloc_new])
        | refine wpList_load_row rfl 52 (.tmp 8) rfl w1.heap.size rfl 52 sa (0, 0) _ HRa.out Tryd.underlying52 rfl hs1 ?_
        | refine wpList_load_row rfl 67 (.tmp 10) rfl wa1.heap.size rfl 67 wa (0, 0) _ HWa.out Tryd.underlying67 rfl hws ?_
        | refine wpList_load_row rfl 67 (.tmp 5) rfl (w.heap.size + 1) rfl 67 ka (0, 0) _ HKa.out Tryd.underlying67 rfl hks ?_)
      refine (HCH.out _).mono ?_
      rintro e wb ⟨rfl, hb3⟩
      have HRb := hide (heap_kept hb3 HRa.out)
      have HBb := hide (HBa.out.trans (hb3.mono HBa.out.size))
      have HNR := hide (setRow_heap wb w1.heap.size sa na 52 (0, 0) HRb.out)
      clear hb3 HCH HRa HBa HWa HKa
      go_wp2_with (refine wpList_store_row rfl 52 (.tmp 8) (.tmp 29) rfl w1.heap.size na rfl rfl 52 sa HRb.out hs2 hs3 hno ?_)
      go_roundw
      case rel => exact ⟨q + 1, by have := HP.out; omega, by have := HP.out; go_num, below_setRow HBb.out (Nat.le_refl _) _, by rw [HNA.out]; exact HNR.out⟩
      case measure => simp [intOf]; omega
    · have hqe : PM.length / 64 = q := by omega
      have HQE : Hid (shaL l = bytesS (absorb PM q) 32) := by show _ = _; rw [HSH.out, hqe]
      have HLT := hide (list_lt (absorb_ok PM q))
      have HX : Hid (∀ i, i < 8 → (((absorb PM q).list.map wordV).toArray)[i]? = some (.int .u32 ((absorb PM q).list.getD i 0 : Nat))) := by
        intro i hi; rw [List.getElem?_toArray, map_wordV_getD (by simpa [St.list] using hi)]
      have HSU := hide (fun k => bytesS_succ (absorb PM q) k)
      generalize hST : absorb PM q = ST at *
      obtain ⟨sa, hsa⟩ : ∃ sa, (ST.list.map wordV).toArray = sa := ⟨_, rfl⟩
      rw [hsa] at hrow HX
      have HZ0 := hide (heap_kept hbel RZ.out)
      have hszr := hbel.size
      have hsw : w1.heap.size < wr.heap.size := (Array.getElem?_eq_some_iff.1 hrow).1
      have HIN : Hid (OutInv w1 (wr.alloc (.cells zero32 29)) w1.heap.size wr.heap.size sa zero32) := ⟨heap_more _ hrow, Go.heap_alloc_new _ _, hbel.alloc hszr _⟩
      obtain ⟨p, hp⟩ : ∃ p, 64 * q = p := ⟨_, rfl⟩
      rw [hp] at hlt hq ⊢
      clear hrow hbel hqe HSH hsa hp HPM HBY hST HST0
      go_wp2_with (refine wpList_alloc_as rfl 29 rfl (.agg zero32) zero32 Tryd.zero32 rfl ?_)
      obtain ⟨go', hgo⟩ : ∃ g, wr.heap.size = g := ⟨_, rfl⟩
      rw [hgo] at hsw hszr HIN ⊢
      generalize wr.alloc (.cells zero32 29) = W2 at *
      clear hgo
      go_loopw [12] (fun i wx => ∃ k : Nat, k ≤ 8 ∧ i = .int .i64 k ∧ ∃ ys : Array Value, OutInv w1 wx w1.heap.size go' sa ys ∧ ys.size = 32 ∧ ys.toList.take (4 * k) = (bytesS ST (4 * k)).map byteV) (fun i _ => 8 - (intOf i).toNat)
      case atStart => exact ⟨0, Nat.zero_le _, rfl, _, HIN.out, rfl, rfl⟩
      case round =>
        clear HIN
        obtain ⟨k, hk, rfl, ys, hin, hy1, hy2⟩ := hrel
        by_cases hltk : k < 8
        · obtain ⟨x, hx⟩ : ∃ x, ST.list.getD k 0 = x := ⟨_, rfl⟩
          have hxs := HX.out k hltk
          have hxl := HLT.out k
          rw [hx] at hxs hxl
          have hsu0 := HSU.out (4 * k)
          have hsu1 := HSU.out (4 * k + 1)
          have hsu2 := HSU.out (4 * k + 2)
          have hsu3 := HSU.out (4 * k + 3)
          have hba : ∀ j, j < 4 → byteAt ST.list (4 * k + j) = x / 2 ^ (24 - 8 * j) % 256 := by
            intro j hj
            rw [byteAt, show (4 * k + j) / 4 = k by omega, show (4 * k + j) % 4 = j by omega, hx]
          rw [show 4 * k = 4 * k + 0 from rfl, hba 0 (by omega)] at hsu0
          rw [hba 1 (by omega)] at hsu1
          rw [hba 2 (by omega)] at hsu2
          rw [hba 3 (by omega)] at hsu3
          obtain ⟨i0, e0⟩ : ∃ i, 4 * k = i := ⟨_, rfl⟩
          obtain ⟨y0, ey0⟩ : ∃ y, x / 16777216 % 256 = y := ⟨_, rfl⟩
          obtain ⟨y1, ey1⟩ : ∃ y, x / 65536 % 256 = y := ⟨_, rfl⟩
          obtain ⟨y2, ey2⟩ : ∃ y, x / 256 % 256 = y := ⟨_, rfl⟩
          obtain ⟨y3, ey3⟩ : ∃ y, x / 1 % 256 = y := ⟨_, rfl⟩
          have hS : Hid (bytesS ST (4 * (k + 1)) = bytesS ST i0 ++ [y0, y1, y2, y3]) := by
            show _ = _
            rw [show 4 * (k + 1) = 4 * k + 3 + 1 by omega, hsu3, hsu2, hsu1]
            have h0 : bytesS ST (4 * k + 1) = bytesS ST (4 * k) ++ [y0] := by rw [← ey0]; exact hsu0
            rw [h0, ← e0, ← ey1, ← ey2, ← ey3]
            simp
          rw [e0] at hy2
          have g0 : 4 * (k : Int) = (i0 : Int) := by omega
          have l0 : (i0 : Int) < 32 := by omega
          have lk : (k : Int) < 8 := by omega
          have q0 : (x : Int) / 16777216 = (y0 : Int) := by omega
          have q1 : (x : Int) / 65536 % 256 = (y1 : Int) := by omega
          have q2 : (x : Int) / 256 % 256 = (y2 : Int) := by omega
          have q3 : (x : Int) % 256 = (y3 : Int) := by omega
          have hi32 : i0 + 4 ≤ 32 := by omega
          clear hsu0 hsu1 hsu2 hsu3 hba ey0 ey1 ey2 ey3 hx
          have HXS := hide hxs
          have HE0 := hide e0
          clear hxs e0
          have cs0 : (wr).cell? ⟨w1.heap.size, k, none⟩ = some (.int .u32 (x : Int)) := by rw [cell_of_row _ _ k sa 52 (0, 0) hin.os]; exact HXS.out
          have sz0 : (ys).size = 32 := hy1
          obtain ⟨v0, st0⟩ := row_some (k := i0) hin.oo (by omega)
          have fz0 : (wr).frozen? ⟨go', i0, none⟩ = false := frozen_of_row _ _ _ _ 29 hin.oo
          have hin1 := hin.put (by omega) (by omega) (i0) (.int .u8 (y0 : Int))
          have cs1 : ((wr).setCell ⟨go', i0, none⟩ (.int .u8 (y0 : Int))).cell? ⟨w1.heap.size, k, none⟩ = some (.int .u32 (x : Int)) := by rw [cell_of_row _ _ k sa 52 (0, 0) hin1.os]; exact HXS.out
          have sz1 : ((ys).setIfInBounds (i0) (.int .u8 (y0 : Int))).size = 32 := by rw [Array.size_setIfInBounds]; exact sz0
          obtain ⟨v1, st1⟩ := row_some (k := i0 + 1) hin1.oo (by omega)
          have fz1 : ((wr).setCell ⟨go', i0, none⟩ (.int .u8 (y0 : Int))).frozen? ⟨go', i0 + 1, none⟩ = false := frozen_of_row _ _ _ _ 29 hin1.oo
          have hin2 := hin1.put (by omega) (by omega) (i0 + 1) (.int .u8 (y1 : Int))
          have cs2 : (((wr).setCell ⟨go', i0, none⟩ (.int .u8 (y0 : Int))).setCell ⟨go', i0 + 1, none⟩ (.int .u8 (y1 : Int))).cell? ⟨w1.heap.size, k, none⟩ = some (.int .u32 (x : Int)) := by rw [cell_of_row _ _ k sa 52 (0, 0) hin2.os]; exact HXS.out
          have sz2 : (((ys).setIfInBounds (i0) (.int .u8 (y0 : Int))).setIfInBounds (i0 + 1) (.int .u8 (y1 : Int))).size = 32 := by rw [Array.size_setIfInBounds]; exact sz1
          obtain ⟨v2, st2⟩ := row_some (k := i0 + 2) hin2.oo (by omega)
          have fz2 : (((wr).setCell ⟨go', i0, none⟩ (.int .u8 (y0 : Int))).setCell ⟨go', i0 + 1, none⟩ (.int .u8 (y1 : Int))).frozen? ⟨go', i0 + 2, none⟩ = false := frozen_of_row _ _ _ _ 29 hin2.oo
          have hin3 := hin2.put (by omega) (by omega) (i0 + 2) (.int .u8 (y2 : Int))
          have cs3 : ((((wr).setCell ⟨go', i0, none⟩ (.int .u8 (y0 : Int))).setCell ⟨go', i0 + 1, none⟩ (.int .u8 (y1 : Int))).setCell ⟨go', i0 + 2, none⟩ (.int .u8 (y2 : Int))).cell? ⟨w1.heap.size, k, none⟩ = some (.int .u32 (x : Int)) := by rw [cell_of_row _ _ k sa 52 (0, 0) hin3.os]; exact HXS.out
          have sz3 : ((((ys).setIfInBounds (i0) (.int .u8 (y0 : Int))).setIfInBounds (i0 + 1) (.int .u8 (y1 : Int))).setIfInBounds (i0 + 2) (.int .u8 (y2 : Int))).size = 32 := by rw [Array.size_setIfInBounds]; exact sz2
          obtain ⟨v3, st3⟩ := row_some (k := i0 + 3) hin3.oo (by omega)
          have fz3 : ((((wr).setCell ⟨go', i0, none⟩ (.int .u8 (y0 : Int))).setCell ⟨go', i0 + 1, none⟩ (.int .u8 (y1 : Int))).setCell ⟨go', i0 + 2, none⟩ (.int .u8 (y2 : Int))).frozen? ⟨go', i0 + 3, none⟩ = false := frozen_of_row _ _ _ _ 29 hin3.oo
          have hin4 := hin3.put (by omega) (by omega) (i0 + 3) (.int .u8 (y3 : Int))
          have HIN := hide hin4
          have HSZ : Hid ((((((ys).setIfInBounds (i0) (.int .u8 (y0 : Int))).setIfInBounds (i0 + 1) (.int .u8 (y1 : Int))).setIfInBounds (i0 + 2) (.int .u8 (y2 : Int))).setIfInBounds (i0 + 3) (.int .u8 (y3 : Int))).size = 32) := by show _ = _; rw [Array.size_setIfInBounds]; exact sz3
          have HTK : Hid ((((((ys).setIfInBounds (i0) (.int .u8 (y0 : Int))).setIfInBounds (i0 + 1) (.int .u8 (y1 : Int))).setIfInBounds (i0 + 2) (.int .u8 (y2 : Int))).setIfInBounds (i0 + 3) (.int .u8 (y3 : Int))).toList.take (4 * (k + 1)) = (bytesS ST (4 * (k + 1))).map byteV) := by
            show _ = _
            have t0 := take_succ_set (u := .int .u8 (y0 : Int)) (show i0 < ys.size by omega) hy2
            have t1 := take_succ_set (u := .int .u8 (y1 : Int)) (k := i0 + 1) (by rw [Array.size_setIfInBounds]; omega) t0
            have t2 := take_succ_set (u := .int .u8 (y2 : Int)) (k := i0 + 2) (by rw [Array.size_setIfInBounds, Array.size_setIfInBounds]; omega) t1
            have t3 := take_succ_set (u := .int .u8 (y3 : Int)) (k := i0 + 3) (by rw [Array.size_setIfInBounds, Array.size_setIfInBounds, Array.size_setIfInBounds]; omega) t2
            rw [hS.out, show 4 * (k + 1) = i0 + 3 + 1 by have := HE0.out; omega, t3]
            simp [byteV]
          clear hin hin1 hin2 hin3 hin4 sz0 sz1 sz2 sz3 hy1 hy2
          go_wp2
          go_roundw
          case rel => exact ⟨k + 1, by omega, by go_num, _, HIN.out, HSZ.out, HTK.out⟩
          case measure => simp [intOf]; omega
        · have hk8 : k = 8 := by omega
          subst hk8
          have hys : ys = ((shaL l).map byteV).toArray := by
            rw [List.take_of_length_le (by simp [hy1])] at hy2
            rw [HQE.out, ← hy2]
          obtain ⟨f1, f2, f3⟩ := sum_shape l
          rw [← hys] at f1 f2 f3
          have HE : Hid (Ending.returned (.agg ys) = .returned (.agg ((shaL l).map byteV).toArray)) := by show _ = _; rw [hys]
          have HRo := hide hin.oo
          have HRz := hide (heap_kept hin.ob RZ.out)
          have HBL : Hid (Below w.heap.size w wr) := RB.out.trans (hin.ob.mono RB.out.size)
          have HRS := hide (setRow_heap wr (w.heap.size + 1 + 1) zero32 ys 29 (0, 0) HRz.out)
          clear hin hy1 hy2 hys hltk hk HQE HLT HX HSU
          go_wp2_with (first
            | refine wpList_load_row rfl 29 (.tmp 11) rfl go' rfl 29 ys (0, 0) _ HRo.out Tryd.underlying29 rfl f1 ?_
            | refine wpList_store_row rfl 29 (.tmp 6) (.tmp 68) rfl (w.heap.size + 1 + 1) ys rfl rfl 29 zero32 HRz.out f1 f2 f3 ?_)
          exact bodyPost_ret (v := .agg ys) (results_cell_row rfl _ _ (w.heap.size + 1 + 1) 29 ys (0, 0) _ rfl HRS.out Tryd.underlying29 rfl f1) rfl ⟨HE.out, below_setRow HBL.out (by omega) _⟩

set_option maxRecDepth 100000 in
set_option maxHeartbeats 2000000 in
theorem refSum_any (v : Value) (l : List Nat) (w : World) (h : BSl w v l) (hr : l.length + 72 ≤ 140737488355328) (hB : Tab w 1 H0) (hR : Tab w 2 Ks) :
    Calls Tryd.prog 24 #[v] w fun e w' => e = .returned (.agg ((shaL l).map byteV).toArray) ∧ Below w.heap.size w w' := by
  have HV := hide h
  obtain ⟨h1, h2, h3⟩ := sum_shape l
  have HSZ := hide h1
  have HZS := hide h2
  have HON := hide h3
  have HBR := hide ((hB.below (below_alloc w (.cells zero32 29))).range)
  have HRR := hide ((hR.below (below_alloc w (.cells zero32 29))).range)
  have HZ := hide (Go.heap_alloc_new w (.cells zero32 29))
  clear h hB hR h1 h2 h3
  go_enter Tryd.func24, Tryd.ntmps24
  go_wp2_with (first
    | refine wpList_alloc_as rfl 29 rfl (.agg zero32) zero32 Tryd.zero32 rfl ?_
    | refine wpList_load_mid rfl 52 _ rfl 1 0 rfl (H0.map wordV) _ HBR.out Tryd.underlying52 rfl Tryd.size8w ?_
    | refine wpList_load_mid rfl 67 _ rfl 2 0 rfl (Ks.map wordV) _ HRR.out Tryd.underlying67 rfl Tryd.sizeW ?_)
  refine (sumWith_any v l _ (HV.out.below (below_alloc _ _)) hr).mono ?_
  rintro e w3 ⟨rfl, hb3⟩
  have HZ3 := hide (heap_kept hb3 HZ.out)
  have HB3 := hide ((below_alloc w (.cells zero32 29)).trans (hb3.mono (by simp)))
  have HRS := hide (setRow_heap w3 w.heap.size zero32 ((shaL l).map byteV).toArray 29 (0, 0) HZ3.out)
  generalize hoa : ((shaL l).map byteV).toArray = oa at *
  have HOA := hide hoa
  clear hb3 HZ hoa
  go_wp2_with (refine wpList_store_row rfl 29 _ _ rfl w.heap.size oa rfl rfl 29 zero32 HZ3.out HSZ.out HZS.out HON.out ?_)
  exact bodyPost_ret (v := .agg oa) (results_cell_row rfl _ _ w.heap.size 29 oa (0, 0) _ rfl HRS.out Tryd.underlying29 rfl HSZ.out) rfl ⟨by rw [HOA.out], below_setRow HB3.out (Nat.le_refl _) _⟩
end Go.Proofs.YtbkcenpohcjgnabDoor
