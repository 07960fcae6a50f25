import Derived.Test.YtbkcenpohcjgnabDoorRefTurn
import Derived.Test.YtbkcenpohcjgnabDoorShaMac
namespace Go.Proofs.YtbkcenpohcjgnabDoor
open Go.RowKit
open Num
set_option linter.unusedVariables false
set_option linter.unusedSimpArgs false

def zero8w : Array Value := ((List.replicate 8 0).map wordV).toArray
theorem Tryd.zero8w : (Tryd.prog.info? 52).map (·.zero) = some (some (.agg zero8w)) := by kernel_rfl
theorem Tryd.size8w : (Tryd.prog.info? 52).map (·.size) = some 8 := by kernel_rfl

/-- what the rounds leave as it was -/
structure Fixed (w wr : World) (sa wa ka : Array Value) : Prop where
  fs : wr.heap[w.heap.size]? = some (.cells sa 52 (0, 0))
  fw : wr.heap[w.heap.size + 1]? = some (.cells wa 67 (0, 0))
  fk : wr.heap[w.heap.size + 1 + 1]? = some (.cells ka 67 (0, 0))
  fr : wr.heap[w.heap.size + 1 + 1 + 1]? = some (.cells zero8w 52 (0, 0))
  fb : Below w.heap.size w wr
theorem heap_setRow_same (w : World) (g : Nat) (c' : Array Value) {c : Array Value} {t : TypeId} {fr : Nat × Nat} (h : w.heap[g]? = some (.cells c t fr)) : (w.setRow g c').heap[g]? = some (.cells c' t fr) := setRow_heap w g c c' t fr h
theorem heap_setRow_other (w : World) (g g' : Nat) (c' : Array Value) (h : g' ≠ g) : (w.setRow g c').heap[g']? = w.heap[g']? := by
  simp only [World.setRow]
  rw [Array.getElem?_modify, if_neg (by omega)]
theorem Fixed.setRow {w wr : World} {sa wa ka : Array Value} (h : Fixed w wr sa wa ka) (n : Nat) (c : Array Value) : Fixed w ((wr.drewN n).setRow (w.heap.size + 1 + 1 + 1 + 1) c) sa wa ka := by
  refine ⟨?_, ?_, ?_, ?_, below_setRow (below_drewN h.fb n) (by omega) _⟩
  all_goals rw [heap_setRow_other _ _ _ _ (by omega)]
  · exact h.fs
  · exact h.fw
  · exact h.fk
  · exact h.fr

theorem Fixed.setCell {w wr : World} {sa wa ka : Array Value} (h : Fixed w wr sa wa ka) (k : Nat) (v : Value) : Fixed w (wr.drew.setCell ⟨w.heap.size + 1 + 1 + 1 + 1, k, none⟩ v) sa wa ka := by
  refine ⟨?_, ?_, ?_, ?_, h.fb.drew.setCell (by show w.heap.size ≤ w.heap.size + 1 + 1 + 1 + 1; omega) _⟩
  · rw [Go.heap_setCell_other _ _ _ _ (by show w.heap.size ≠ w.heap.size + 1 + 1 + 1 + 1; omega)]; exact h.fs
  · rw [Go.heap_setCell_other _ _ _ _ (by show w.heap.size + 1 ≠ w.heap.size + 1 + 1 + 1 + 1; omega)]; exact h.fw
  · rw [Go.heap_setCell_other _ _ _ _ (by show w.heap.size + 1 + 1 ≠ w.heap.size + 1 + 1 + 1 + 1; omega)]; exact h.fk
  · rw [Go.heap_setCell_other _ _ _ _ (by show w.heap.size + 1 + 1 + 1 ≠ w.heap.size + 1 + 1 + 1 + 1; omega)]; exact h.fr

theorem list_size (s : St) : (s.list.map wordV).toArray.size = 8 := rfl
/-- the first k words added -/
def addL (sl vl : List Nat) (k : Nat) : List Nat := (List.range 8).map fun j => if j < k then (sl.getD j 0 + vl.getD j 0) % 4294967296 else vl.getD j 0
theorem addL_len (sl vl : List Nat) (k : Nat) : (addL sl vl k).length = 8 := by simp [addL]
theorem addL_zero (sl : List Nat) (v : St) : addL sl v.list 0 = v.list := by
  obtain ⟨a, b, c, d, e, f, g, h⟩ := v
  rfl
theorem addL_full (s v : St) : addL s.list v.list 8 = (s.add v).list := by
  obtain ⟨a, b, c, d, e, f, g, h⟩ := v
  obtain ⟨a', b', c', d', e', f', g', h'⟩ := s
  rfl
theorem addL_getD {sl vl : List Nat} {k : Nat} (hk : k < 8) : (addL sl vl k).getD k 0 = vl.getD k 0 := by
  simp [addL, List.getD, hk]
theorem addL_set {sl vl : List Nat} {k : Nat} (hk : k < 8) : (addL sl vl k).set k ((sl.getD k 0 + vl.getD k 0) % 4294967296) = addL sl vl (k + 1) := by
  apply List.ext_getElem
  · simp [addL]
  · intro n h1 h2
    simp only [addL, List.getElem_set, List.getElem_map, List.getElem_range]
    by_cases h : k = n
    · subst h; simp
    · rw [if_neg h]
      by_cases h3 : n < k
      · rw [if_pos h3, if_pos (by omega)]
      · rw [if_neg h3, if_neg (by omega)]

set_option maxRecDepth 100000 in
set_option maxHeartbeats 8000000 in
theorem chunk_any (st : St) (hst : st.ok) (ws : List Nat) (hl : ws.length = 64) (hlt : ∀ x ∈ ws, x < 4294967296) (w : World) :
    Calls Tryd.prog 49 #[.agg (st.list.map wordV).toArray, .agg (ws.map wordV).toArray, .agg (Ks.map wordV).toArray] w fun e w' => e = .returned (.agg ((st.add (rounds Ks ws st 64)).list.map wordV).toArray) ∧ Below w.heap.size w w' := by
  have HS1 : Hid ((Tryd.prog.info? 52).map (·.size) = some (st.list.map wordV).toArray.size) := Tryd.size8w
  have HS2 : Hid (zero8w.size = (st.list.map wordV).toArray.size) := Eq.refl _
  have HON := hide (wordV_one st.list)
  have HWC : Hid (∀ i, i < 64 → (ws.map wordV).toArray[i]? = some (.int .u32 (ws.getD i 0 : Nat))) := by
    intro i hi; rw [List.getElem?_toArray, map_wordV_getD (by omega)]
  have HWL : Hid (∀ i, i < 64 → ws.getD i 0 < 4294967296) := fun i hi => hlt _ (mem_getD (by omega))
  have HKC : Hid (∀ i, i < 64 → (Ks.map wordV).toArray[i]? = some (.int .u32 (Ks.getD i 0 : Nat))) := by
    intro i hi; rw [List.getElem?_toArray, map_wordV_getD (by rw [Ks_len]; omega)]
  have HSA : Hid ((st.list.map wordV).toArray = (st.list.map wordV).toArray) := Eq.refl _
  generalize hka : (Ks.map wordV).toArray = ka at *
  generalize hwa : (ws.map wordV).toArray = wa at *
  generalize hsa : (st.list.map wordV).toArray = sa at *
  clear hl hlt HSA
  go_enter Tryd.func49, Tryd.ntmps49
  go_wp2_with (first
    | refine wpList_alloc_as rfl 52 rfl (.agg zero8w) zero8w Tryd.zero8w rfl ?_
    | refine wpList_load_row rfl 52 (.tmp 3) rfl w.heap.size rfl 52 sa (0, 0) _ (heap_more _ (heap_more _ (heap_more _ (Go.heap_alloc_new w _)))) Tryd.underlying52 rfl HS1.out ?_
    | (refine wpList_store_row rfl 52 _ _ rfl (w.heap.size + 1 + 1 + 1 + 1) sa (by first | rfl | simp [Act.eval, Act.put]) (by first | rfl | simp [Act.eval, Act.put]) 52 zero8w (heap_at (by simp)) HS1.out HS2.out HON.out ?_; rw [setRow_last (by simp)]))
  have hb5 : Hid (Below w.heap.size w (((((w.alloc (.cells sa 52)).alloc (.cells wa 67)).alloc (.cells ka 67)).alloc (.cells zero8w 52)).alloc (.cells sa 52))) := (((below_alloc3 w _ _ _).alloc (by simp; omega) _).alloc (by simp; omega) _)
  have R0 := hide (heap_more (.cells sa 52) (heap_more (.cells zero8w 52) (heap_more (.cells ka 67) (heap_more (.cells wa 67) (Go.heap_alloc_new w (.cells sa 52))))))
  have R1 := hide (heap_more (.cells sa 52) (heap_more (.cells zero8w 52) (heap3_snd w (.cells sa 52) (.cells wa 67) (.cells ka 67))))
  have R2 := hide (heap_more (.cells sa 52) (heap_more (.cells zero8w 52) (heap3_new w (.cells sa 52) (.cells wa 67) (.cells ka 67))))
  have R3 : Hid ((((((w.alloc (.cells sa 52)).alloc (.cells wa 67)).alloc (.cells ka 67)).alloc (.cells zero8w 52)).alloc (.cells sa 52)).heap[w.heap.size + 1 + 1 + 1]? = some (.cells zero8w 52 (0, 0))) := heap_more _ (heap_at (by simp))
  have R4 : Hid ((((((w.alloc (.cells sa 52)).alloc (.cells wa 67)).alloc (.cells ka 67)).alloc (.cells zero8w 52)).alloc (.cells sa 52)).heap[w.heap.size + 1 + 1 + 1 + 1]? = some (.cells sa 52 (0, 0))) := heap_at (by simp)
  generalize ((((w.alloc (.cells sa 52)).alloc (.cells wa 67)).alloc (.cells ka 67)).alloc (.cells zero8w 52)).alloc (.cells sa 52) = W at *
  go_loopw [8] (fun i wr => ∃ k : Nat, k ≤ 64 ∧ i = .int .i64 k ∧ Fixed w wr sa wa ka ∧ (rounds Ks ws st k).ok ∧ wr.heap[w.heap.size + 1 + 1 + 1 + 1]? = some (.cells ((rounds Ks ws st k).list.map wordV).toArray 52 (0, 0)))
    (fun i _ => 64 - (intOf i).toNat)
  case atStart => exact ⟨0, Nat.zero_le _, rfl, ⟨R0.out, R1.out, R2.out, R3.out, hb5.out⟩, hst, by rw [show rounds Ks ws st 0 = st from rfl, hsa]; exact R4.out⟩
  case round =>
    clear R0 R1 R2 R3 R4 hb5
    obtain ⟨k, hk, rfl, hfix, hok, hrow⟩ := hrel
    by_cases hlt : k < 64
    · have HRW := hide hrow
      have HFX := hide hfix
      have ck : wr.cell? ⟨w.heap.size + 1 + 1, k, none⟩ = some (.int .u32 (Ks.getD k 0 : Nat)) := by rw [cell_of_row _ _ k ka 67 (0, 0) hfix.fk]; exact HKC.out k hlt
      have cw : wr.cell? ⟨w.heap.size + 1, k, none⟩ = some (.int .u32 (ws.getD k 0 : Nat)) := by rw [cell_of_row _ _ k wa 67 (0, 0) hfix.fw]; exact HWC.out k hlt
      have lk := Ks_lt k hlt
      have lw := HWL.out k hlt
      have HRN : Hid (rounds Ks ws st (k + 1) = rnd (rounds Ks ws st k) (Ks.getD k 0) (ws.getD k 0)) := Eq.refl _
      have HOK : Hid ((rnd (rounds Ks ws st k) (Ks.getD k 0) (ws.getD k 0)).ok) := rnd_ok hok _ _
      generalize hv : rounds Ks ws st k = v at *
      obtain ⟨va, vb, vc, vd, ve, vf, vg, vh⟩ := v
      obtain ⟨hva, hvb, hvc, hvd, hve, hvf, hvg, hvh⟩ := hok
      simp only at *
      have t0 : wr.cell? ⟨w.heap.size + 1 + 1 + 1 + 1, 0, none⟩ = some (.int .u32 (va : Int)) := by rw [cell_of_row _ _ _ _ _ _ hrow]; rfl
      have t1 : wr.cell? ⟨w.heap.size + 1 + 1 + 1 + 1, 1, none⟩ = some (.int .u32 (vb : Int)) := by rw [cell_of_row _ _ _ _ _ _ hrow]; rfl
      have t2 : wr.cell? ⟨w.heap.size + 1 + 1 + 1 + 1, 2, none⟩ = some (.int .u32 (vc : Int)) := by rw [cell_of_row _ _ _ _ _ _ hrow]; rfl
      have t3 : wr.cell? ⟨w.heap.size + 1 + 1 + 1 + 1, 3, none⟩ = some (.int .u32 (vd : Int)) := by rw [cell_of_row _ _ _ _ _ _ hrow]; rfl
      have t4 : wr.cell? ⟨w.heap.size + 1 + 1 + 1 + 1, 4, none⟩ = some (.int .u32 (ve : Int)) := by rw [cell_of_row _ _ _ _ _ _ hrow]; rfl
      have t5 : wr.cell? ⟨w.heap.size + 1 + 1 + 1 + 1, 5, none⟩ = some (.int .u32 (vf : Int)) := by rw [cell_of_row _ _ _ _ _ _ hrow]; rfl
      have t6 : wr.cell? ⟨w.heap.size + 1 + 1 + 1 + 1, 6, none⟩ = some (.int .u32 (vg : Int)) := by rw [cell_of_row _ _ _ _ _ _ hrow]; rfl
      have t7 : wr.cell? ⟨w.heap.size + 1 + 1 + 1 + 1, 7, none⟩ = some (.int .u32 (vh : Int)) := by rw [cell_of_row _ _ _ _ _ _ hrow]; rfl
      generalize Ks.getD k 0 = kt at *
      generalize ws.getD k 0 = wt at *
      have T6 := hide (fun wx => turn_6 ve hve wx)
      have T11 := hide (fun wx => turn_11 ve hve wx)
      have T25 := hide (fun wx => turn_25 ve hve wx)
      have T2 := hide (fun wx => turn_2 va hva wx)
      have T13 := hide (fun wx => turn_13 va hva wx)
      have T22 := hide (fun wx => turn_22 va hva wx)
      -- choose
      have n1 := and_u32 hve hvf
      have n2 := not_u32 hve
      have n3 := and_u32 (xor_ones_lt hve) hvg
      have n4 : bits BinOp.xor IntKind.u32 ((ve &&& vf : Nat) : Int) (((ve ^^^ 4294967295) &&& vg : Nat) : Int) = ((chs ve vf vg : Nat) : Int) := xor_u32 (and_lt hve) (and_lt (xor_ones_lt hve))
      -- most
      have m1 := and_u32 hva hvb
      have m2 := and_u32 hva hvc
      have m3 := and_u32 hvb hvc
      have m4 := xor_u32 (and_lt (y := vb) hva) (and_lt (y := vc) hva)
      have m5 : bits BinOp.xor IntKind.u32 (((va &&& vb) ^^^ (va &&& vc) : Nat) : Int) ((vb &&& vc : Nat) : Int) = ((maj va vb vc : Nat) : Int) := xor_u32 (xor_lt (and_lt hva) (and_lt hva)) (and_lt hvb)
      -- the two sums
      have p1 := xor_u32 (rot_lt (n := 6) hve) (rot_lt (n := 11) hve)
      have p2 : bits BinOp.xor IntKind.u32 ((rot 6 ve ^^^ rot 11 ve : Nat) : Int) ((rot 25 ve : Nat) : Int) = ((bSig1 ve : Nat) : Int) := xor_u32 (xor_lt (rot_lt hve) (rot_lt hve)) (rot_lt hve)
      have p3 := xor_u32 (rot_lt (n := 2) hva) (rot_lt (n := 13) hva)
      have p4 : bits BinOp.xor IntKind.u32 ((rot 2 va ^^^ rot 13 va : Nat) : Int) ((rot 22 va : Nat) : Int) = ((bSig0 va : Nat) : Int) := xor_u32 (xor_lt (rot_lt hva) (rot_lt hva)) (rot_lt hva)
      obtain ⟨S1, eS1⟩ : ∃ z, bSig1 ve = z := ⟨_, rfl⟩
      obtain ⟨C, eC⟩ : ∃ z, chs ve vf vg = z := ⟨_, rfl⟩
      obtain ⟨S0, eS0⟩ : ∃ z, bSig0 va = z := ⟨_, rfl⟩
      obtain ⟨M, eM⟩ : ∃ z, maj va vb vc = z := ⟨_, rfl⟩
      rw [eS1] at p2
      rw [eC] at n4
      rw [eS0] at p4
      rw [eM] at m5
      obtain ⟨P1, ep1⟩ : ∃ z, (vh + S1) % 4294967296 = z := ⟨_, rfl⟩
      obtain ⟨P2, ep2⟩ : ∃ z, (P1 + C) % 4294967296 = z := ⟨_, rfl⟩
      obtain ⟨P3, ep3⟩ : ∃ z, (P2 + kt) % 4294967296 = z := ⟨_, rfl⟩
      obtain ⟨P4, ep4⟩ : ∃ z, (P3 + wt) % 4294967296 = z := ⟨_, rfl⟩
      obtain ⟨Q1, eq1⟩ : ∃ z, (S0 + M) % 4294967296 = z := ⟨_, rfl⟩
      obtain ⟨A, eA⟩ : ∃ z, (P4 + Q1) % 4294967296 = z := ⟨_, rfl⟩
      obtain ⟨E, eE⟩ : ∃ z, (vd + P4) % 4294967296 = z := ⟨_, rfl⟩
      have HQ := hide (rnd_eq ⟨va, vb, vc, vd, ve, vf, vg, vh⟩ kt wt S1 C S0 M P1 P2 P3 P4 Q1 A E eS1 eC eS0 eM ep1 ep2 ep3 ep4 eq1 eA eE)
      rw [HQ.out] at HRN HOK
      have f1 : ((vh : Int) + (S1 : Int)) % 4294967296 = (P1 : Int) := by omega
      have f2 : ((P1 : Int) + (C : Int)) % 4294967296 = (P2 : Int) := by omega
      have f3 : ((P2 : Int) + (kt : Int)) % 4294967296 = (P3 : Int) := by omega
      have f4 : ((P3 : Int) + (wt : Int)) % 4294967296 = (P4 : Int) := by omega
      have f5 : ((S0 : Int) + (M : Int)) % 4294967296 = (Q1 : Int) := by omega
      have f6 : ((P4 : Int) + (Q1 : Int)) % 4294967296 = (A : Int) := by omega
      have f7 : ((vd : Int) + (P4 : Int)) % 4294967296 = (E : Int) := by omega
      have lk2 : (k : Int) < 64 := by omega
      have HNR := hide (fun n => heap_setRow_same (wr.drewN n) (w.heap.size + 1 + 1 + 1 + 1) #[.int .u32 (A : Int), .int .u32 (va : Int), .int .u32 (vb : Int), .int .u32 (vc : Int), .int .u32 (E : Int), .int .u32 (ve : Int), .int .u32 (vf : Int), .int .u32 (vg : Int)] hrow)
      clear eS1 eC eS0 eM ep1 ep2 ep3 ep4 eq1 eA eE HQ hva hvb hvc hvd hve hvf hvg hvh lk lw hv hfix hrow
      generalize (ve ^^^ 4294967295) &&& vg = a3 at *
      generalize ve ^^^ 4294967295 = a2 at *
      generalize ve &&& vf = a1 at *
      generalize (va &&& vb) ^^^ (va &&& vc) = b4 at *
      generalize va &&& vb = b1 at *
      generalize va &&& vc = b2 at *
      generalize vb &&& vc = b3 at *
      generalize rot 6 ve ^^^ rot 11 ve = c3 at *
      generalize rot 2 va ^^^ rot 13 va = d3 at *
      generalize rot 6 ve = c1 at *
      generalize rot 11 ve = c2 at *
      generalize rot 25 ve = c4 at *
      generalize rot 2 va = d1 at *
      generalize rot 13 va = d2 at *
      generalize rot 22 va = d4 at *
      go_wp2
      go_quiet (first | (go_at_call 55; first | with_reducible exact Calls.quiet_of_same (T6.out _) | with_reducible exact Calls.quiet_of_same (T11.out _) | with_reducible exact Calls.quiet_of_same (T25.out _)))
      rw [f4]
      have HRQ : Hid ((wr.drewN nq).heap[w.heap.size + 1 + 1 + 1 + 1]? = some (.cells #[.int .u32 (va : Int), .int .u32 (vb : Int), .int .u32 (vc : Int), .int .u32 (vd : Int), .int .u32 (ve : Int), .int .u32 (vf : Int), .int .u32 (vg : Int), .int .u32 (vh : Int)] 52 (0, 0))) := HRW.out
      go_wp2_with fail
      refine (T2.out _).mono ?_
      rintro e w' ⟨rfl, rfl⟩
      go_wp2_with fail
      refine (T13.out _).mono ?_
      rintro e w' ⟨rfl, rfl⟩
      go_wp2_with fail
      refine (T22.out _).mono ?_
      rintro e w' ⟨rfl, rfl⟩
      go_wp2_with (refine wpList_store_row rfl 52 (.tmp 7) (.tmp 100) rfl (w.heap.size + 1 + 1 + 1 + 1) #[.int .u32 (A : Int), .int .u32 (va : Int), .int .u32 (vb : Int), .int .u32 (vc : Int), .int .u32 (E : Int), .int .u32 (ve : Int), .int .u32 (vf : Int), .int .u32 (vg : Int)] rfl rfl 52 #[.int .u32 (va : Int), .int .u32 (vb : Int), .int .u32 (vc : Int), .int .u32 (vd : Int), .int .u32 (ve : Int), .int .u32 (vf : Int), .int .u32 (vg : Int), .int .u32 (vh : Int)] HRQ.out Tryd.size8w rfl (by simp [Value.oneCell']) ?_)
      go_roundw
      case rel => exact ⟨k + 1, by omega, by go_num, HFX.out.setRow nq _, by rw [HRN.out]; exact HOK.out, by rw [HRN.out]; exact HNR.out nq⟩
      case measure => simp [intOf]; omega
    · have hk64 : k = 64 := by omega
      subst hk64
      generalize hV : rounds Ks ws st 64 = V at *
      have HVE := hide hV
      clear hV
      have HSC : Hid (∀ i, i < 8 → sa[i]? = some (.int .u32 (st.list.getD i 0 : Nat))) := by
        intro i hi; rw [← hsa, List.getElem?_toArray, map_wordV_getD (by simpa [St.list] using hi)]
      have HSL := hide (list_lt hst)
      have HVL := hide (list_lt hok)
      have HFX := hide hfix
      have HRW := hide hrow
      have HAF := hide (addL_full st V)
      have HAZ := hide (addL_zero st.list V)
      generalize hsl : st.list = sl at *
      generalize hvl : V.list = vl at *
      clear hfix hrow hlt hk hok hst hsa hka hwa
      go_wp2_with fail
      rw [show ((64 : Nat) : Int) = 64 from rfl]
      go_loopw [15] (fun i wr => ∃ k : Nat, k ≤ 8 ∧ i = .int .i64 k ∧ Fixed w wr sa wa ka ∧ wr.heap[w.heap.size + 1 + 1 + 1 + 1]? = some (.cells ((addL sl vl k).map wordV).toArray 52 (0, 0)))
        (fun i _ => 8 - (intOf i).toNat)
      case atStart => exact ⟨0, Nat.zero_le _, rfl, HFX.out, by rw [HAZ.out]; exact HRW.out⟩
      case round =>
        clear HFX HRW
        obtain ⟨k, hk, rfl, hfix, hrow⟩ := hrel
        by_cases hlt : k < 8
        · have hcs : wr.cell? ⟨w.heap.size, k, none⟩ = some (.int .u32 (sl.getD k 0 : Nat)) := by rw [cell_of_row _ _ k sa 52 (0, 0) hfix.fs]; exact HSC.out k hlt
          have hcv : wr.cell? ⟨w.heap.size + 1 + 1 + 1 + 1, k, none⟩ = some (.int .u32 (vl.getD k 0 : Nat)) := by
            rw [cell_of_row _ _ k _ 52 (0, 0) hrow, List.getElem?_toArray, map_wordV_getD (by rw [addL_len]; exact hlt), addL_getD hlt]
          have hfz : wr.frozen? ⟨w.heap.size + 1 + 1 + 1 + 1, k, none⟩ = false := frozen_of_row _ _ k _ 52 hrow
          have b1 := HSL.out k
          have b2 := HVL.out k
          have HST : Hid ((wr.drew.setCell ⟨w.heap.size + 1 + 1 + 1 + 1, k, none⟩ (.int .u32 (((sl.getD k 0 + vl.getD k 0) % 4294967296 : Nat) : Int))).heap[w.heap.size + 1 + 1 + 1 + 1]? = some (.cells ((addL sl vl (k + 1)).map wordV).toArray 52 (0, 0))) := by
            show _ = _
            rw [← addL_set hlt, List.map_set, ← List.setIfInBounds_toArray]
            exact Go.heap_setCell_same wr.drew _ k _ 52 _ hrow
          generalize sl.getD k 0 = x at *
          generalize vl.getD k 0 = y at *
          obtain ⟨z, ez⟩ : ∃ z, (x + y) % 4294967296 = z := ⟨_, rfl⟩
          have a1 : IntKind.u32.wrap ((y : Int) + (x : Int)) = (z : Int) := by rw [IntKind.wrap_u32']; omega
          have a2 : ((y : Int) + (x : Int)) % 4294967296 = (z : Int) := by omega
          rw [ez] at HST
          have lk : (k : Int) < 8 := by omega
          have HFX := hide hfix
          clear hfix hrow ez
          go_wp2
          clear a2
          refine wp_still_tail 9 (by kernel_rfl) (by kernel_rfl) ?_
          simp only [List.take_succ_cons, List.take_zero, List.drop_succ_cons, List.drop_zero]
          repeat still_step
          refine wpStill_nil ?_
          go_wp2
          go_roundw
          case rel => exact ⟨k + 1, by omega, by go_num, HFX.out.setCell _ _, HST.out⟩
          case measure => simp [intOf]; omega
        · have hk8 : k = 8 := by omega
          subst hk8
          rw [HAF.out] at hrow
          have hsz : (Tryd.prog.info? 52).map (·.size) = some ((st.add V).list.map wordV).toArray.size := by rw [list_size]; exact Tryd.size8w
          have hzs : zero8w.size = ((st.add V).list.map wordV).toArray.size := by rw [list_size]; rfl
          have hone := wordV_one (st.add V).list
          obtain ⟨oa, hoa⟩ : ∃ oa, ((st.add V).list.map wordV).toArray = oa := ⟨_, rfl⟩
          rw [hoa] at hsz hzs hone hrow
          have HR2 := hide hrow
          have HR1 := hide hfix.fr
          have HBL := hide hfix.fb
          have HRS := hide (setRow_heap wr (w.heap.size + 1 + 1 + 1) zero8w oa 52 (0, 0) hfix.fr)
          have HOA := hide hoa
          clear hfix hrow hlt hk hoa
          go_wp2_with (first
            | refine wpList_load_row rfl 52 _ rfl (w.heap.size + 1 + 1 + 1 + 1) rfl 52 oa (0, 0) _ HR2.out Tryd.underlying52 rfl hsz ?_
            | refine wpList_store_row rfl 52 _ _ rfl (w.heap.size + 1 + 1 + 1) oa rfl rfl 52 zero8w HR1.out hsz hzs hone ?_)
          exact bodyPost_ret (v := .agg oa) (results_cell_row rfl _ _ (w.heap.size + 1 + 1 + 1) 52 oa (0, 0) _ rfl HRS.out Tryd.underlying52 rfl hsz) rfl ⟨by rw [HVE.out, HOA.out], below_setRow HBL.out (by omega) _⟩
end Go.Proofs.YtbkcenpohcjgnabDoor
