import Derived.Test.YtkjaaknlhmneoacDoorRefTurn
import Derived.Test.YtkjaaknlhmneoacDoorShaMac
import Derived.Test.YtkjaaknlhmneoacDoorRefPad
import Derived.Test.YtkjaaknlhmneoacDoorRefWords
import Derived.Test.YtkjaaknlhmneoacDoorMtRef4
import Derived.Maps.AppendAt
import Derived.Test.YtkjaaknlhmneoacDoorMtConv
import Derived.Test.YtkjaaknlhmneoacDoorMtSame
import Derived.Deep.DeepHandedRow
import Derived.Laws.CopyOwn
import Derived.Test.YtkjaaknlhmneoacDoorMtLaw0
import Derived.Test.YtkjaaknlhmneoacDoorCards
import Derived.Test.YtkjaaknlhmneoacDoorTie
import Derived.WalkKit
import Derived.ProofKit
import Derived.OpenShut
import Derived.ChangeOld
import Derived.Lib.LaidTab
import Derived.SizedLaws
import Derived.ChangeSlices
import Derived.Deep.Slices
import Derived.Test.YtkjaaknlhmneoacDoorMtSup
import Derived.ChangeSame
namespace Go.Proofs.YtkjaaknlhmneoacDoor
open Go.RowKit
open Num
set_option linter.unusedVariables false
set_option linter.unusedSimpArgs false

def zero8w : Array Value := ((List.replicate 8 0).map wordV).toArray
theorem Tryd.zero8w : (Tryd.prog.info? 92).map (·.zero) = some (some (.agg zero8w)) := by kernel_rfl
theorem Tryd.size8w : (Tryd.prog.info? 92).map (·.size) = some 8 := by kernel_rfl

/-- what the rounds leave as it was -/
structure Fixed (w wr : World) (sa wa ka : Array Value) : Prop where
  fs : wr.heap[w.heap.size]? = some (.cells sa 92 (0, 0))
  fw : wr.heap[w.heap.size + 1]? = some (.cells wa 93 (0, 0))
  fk : wr.heap[w.heap.size + 1 + 1]? = some (.cells ka 93 (0, 0))
  fr : wr.heap[w.heap.size + 1 + 1 + 1]? = some (.cells zero8w 92 (0, 0))
  fb : Below w.heap.size w wr
theorem heap_setRow_same (w : World) (g : Nat) (c' : Array Value) {c : Array Value} {t : TypeId} {fr : Nat × Nat} (h : w.heap[g]? = some (.cells c t fr)) : (w.setRow g c').heap[g]? = some (.cells c' t fr) := setRow_heap w g c c' t fr h
theorem heap_setRow_other (w : World) (g g' : Nat) (c' : Array Value) (h : g' ≠ g) : (w.setRow g c').heap[g']? = w.heap[g']? := by
  simp only [World.setRow]
  rw [Array.getElem?_modify, if_neg (by omega)]
theorem Fixed.setRow {w wr : World} {sa wa ka : Array Value} (h : Fixed w wr sa wa ka) (n : Nat) (c : Array Value) : Fixed w ((wr.drewN n).setRow (w.heap.size + 1 + 1 + 1 + 1) c) sa wa ka := by
  refine ⟨?_, ?_, ?_, ?_, below_setRow (below_drewN h.fb n) (by omega) _⟩
  all_goals rw [heap_setRow_other _ _ _ _ (by omega)]
  · exact h.fs
  · exact h.fw
  · exact h.fk
  · exact h.fr

theorem Fixed.setCell {w wr : World} {sa wa ka : Array Value} (h : Fixed w wr sa wa ka) (k : Nat) (v : Value) : Fixed w (wr.drew.setCell ⟨w.heap.size + 1 + 1 + 1 + 1, k, none⟩ v) sa wa ka := by
  refine ⟨?_, ?_, ?_, ?_, h.fb.drew.setCell (by show w.heap.size ≤ w.heap.size + 1 + 1 + 1 + 1; omega) _⟩
  · rw [Go.heap_setCell_other _ _ _ _ (by show w.heap.size ≠ w.heap.size + 1 + 1 + 1 + 1; omega)]; exact h.fs
  · rw [Go.heap_setCell_other _ _ _ _ (by show w.heap.size + 1 ≠ w.heap.size + 1 + 1 + 1 + 1; omega)]; exact h.fw
  · rw [Go.heap_setCell_other _ _ _ _ (by show w.heap.size + 1 + 1 ≠ w.heap.size + 1 + 1 + 1 + 1; omega)]; exact h.fk
  · rw [Go.heap_setCell_other _ _ _ _ (by show w.heap.size + 1 + 1 + 1 ≠ w.heap.size + 1 + 1 + 1 + 1; omega)]; exact h.fr

theorem list_size (s : St) : (s.list.map wordV).toArray.size = 8 := rfl
/-- the first k words added -/
def addL (sl vl : List Nat) (k : Nat) : List Nat := (List.range 8).map fun j => if j < k then (sl.getD j 0 + vl.getD j 0) % 4294967296 else vl.getD j 0
theorem addL_len (sl vl : List Nat) (k : Nat) : (addL sl vl k).length = 8 := by simp [addL]
theorem addL_zero (sl : List Nat) (v : St) : addL sl v.list 0 = v.list := by
  obtain ⟨a, b, c, d, e, f, g, h⟩ := v
  rfl
theorem addL_full (s v : St) : addL s.list v.list 8 = (s.add v).list := by
  obtain ⟨a, b, c, d, e, f, g, h⟩ := v
  obtain ⟨a', b', c', d', e', f', g', h'⟩ := s
  rfl
theorem addL_getD {sl vl : List Nat} {k : Nat} (hk : k < 8) : (addL sl vl k).getD k 0 = vl.getD k 0 := by
  simp [addL, List.getD, hk]
theorem addL_set {sl vl : List Nat} {k : Nat} (hk : k < 8) : (addL sl vl k).set k ((sl.getD k 0 + vl.getD k 0) % 4294967296) = addL sl vl (k + 1) := by
  apply List.ext_getElem
  · simp [addL]
  · intro n h1 h2
    simp only [addL, List.getElem_set, List.getElem_map, List.getElem_range]
    by_cases h : k = n
    · subst h; simp
    · rw [if_neg h]
      by_cases h3 : n < k
      · rw [if_pos h3, if_pos (by omega)]
      · rw [if_neg h3, if_neg (by omega)]

set_option maxRecDepth 100000 in
set_option maxHeartbeats 8000000 in
theorem chunk_any (st : St) (hst : st.ok) (ws : List Nat) (hl : ws.length = 64) (hlt : ∀ x ∈ ws, x < 4294967296) (w : World) :
    Calls Tryd.prog 65 #[.agg (st.list.map wordV).toArray, .agg (ws.map wordV).toArray, .agg (Ks.map wordV).toArray] w fun e w' => e = .returned (.agg ((st.add (rounds Ks ws st 64)).list.map wordV).toArray) ∧ Below w.heap.size w w' := by
  have HS1 : Hid ((Tryd.prog.info? 92).map (·.size) = some (st.list.map wordV).toArray.size) := Tryd.size8w
  have HS2 : Hid (zero8w.size = (st.list.map wordV).toArray.size) := Eq.refl _
  have HON := hide (wordV_one st.list)
  have HWC : Hid (∀ i, i < 64 → (ws.map wordV).toArray[i]? = some (.int .u32 (ws.getD i 0 : Nat))) := by
    intro i hi; rw [List.getElem?_toArray, map_wordV_getD (by omega)]
  have HWL : Hid (∀ i, i < 64 → ws.getD i 0 < 4294967296) := fun i hi => hlt _ (mem_getD (by omega))
  have HKC : Hid (∀ i, i < 64 → (Ks.map wordV).toArray[i]? = some (.int .u32 (Ks.getD i 0 : Nat))) := by
    intro i hi; rw [List.getElem?_toArray, map_wordV_getD (by rw [Ks_len]; omega)]
  have HSA : Hid ((st.list.map wordV).toArray = (st.list.map wordV).toArray) := Eq.refl _
  generalize hka : (Ks.map wordV).toArray = ka at *
  generalize hwa : (ws.map wordV).toArray = wa at *
  generalize hsa : (st.list.map wordV).toArray = sa at *
  clear hl hlt HSA
  go_enter Tryd.func65, Tryd.ntmps65
  go_wp2_with (first
    | refine wpList_alloc_as rfl 92 rfl (.agg zero8w) zero8w Tryd.zero8w rfl ?_
    | refine wpList_load_row rfl 92 (.tmp 3) rfl w.heap.size rfl 92 sa (0, 0) _ (heap_more _ (heap_more _ (heap_more _ (Go.heap_alloc_new w _)))) Tryd.underlying92 rfl HS1.out ?_
    | (refine wpList_store_row rfl 92 _ _ rfl (w.heap.size + 1 + 1 + 1 + 1) sa (by first | rfl | simp [Act.eval, Act.put]) (by first | rfl | simp [Act.eval, Act.put]) 92 zero8w (heap_at (by simp)) HS1.out HS2.out HON.out ?_; rw [setRow_last (by simp)]))
  have hb5 : Hid (Below w.heap.size w (((((w.alloc (.cells sa 92)).alloc (.cells wa 93)).alloc (.cells ka 93)).alloc (.cells zero8w 92)).alloc (.cells sa 92))) := (((below_alloc3 w _ _ _).alloc (by simp; omega) _).alloc (by simp; omega) _)
  have R0 := hide (heap_more (.cells sa 92) (heap_more (.cells zero8w 92) (heap_more (.cells ka 93) (heap_more (.cells wa 93) (Go.heap_alloc_new w (.cells sa 92))))))
  have R1 := hide (heap_more (.cells sa 92) (heap_more (.cells zero8w 92) (heap3_snd w (.cells sa 92) (.cells wa 93) (.cells ka 93))))
  have R2 := hide (heap_more (.cells sa 92) (heap_more (.cells zero8w 92) (heap3_new w (.cells sa 92) (.cells wa 93) (.cells ka 93))))
  have R3 : Hid ((((((w.alloc (.cells sa 92)).alloc (.cells wa 93)).alloc (.cells ka 93)).alloc (.cells zero8w 92)).alloc (.cells sa 92)).heap[w.heap.size + 1 + 1 + 1]? = some (.cells zero8w 92 (0, 0))) := heap_more _ (heap_at (by simp))
  have R4 : Hid ((((((w.alloc (.cells sa 92)).alloc (.cells wa 93)).alloc (.cells ka 93)).alloc (.cells zero8w 92)).alloc (.cells sa 92)).heap[w.heap.size + 1 + 1 + 1 + 1]? = some (.cells sa 92 (0, 0))) := heap_at (by simp)
  generalize ((((w.alloc (.cells sa 92)).alloc (.cells wa 93)).alloc (.cells ka 93)).alloc (.cells zero8w 92)).alloc (.cells sa 92) = W at *
  go_loopw [8] (fun i wr => ∃ k : Nat, k ≤ 64 ∧ i = .int .i64 k ∧ Fixed w wr sa wa ka ∧ (rounds Ks ws st k).ok ∧ wr.heap[w.heap.size + 1 + 1 + 1 + 1]? = some (.cells ((rounds Ks ws st k).list.map wordV).toArray 92 (0, 0)))
    (fun i _ => 64 - (intOf i).toNat)
  case atStart => exact ⟨0, Nat.zero_le _, rfl, ⟨R0.out, R1.out, R2.out, R3.out, hb5.out⟩, hst, by rw [show rounds Ks ws st 0 = st from rfl, hsa]; exact R4.out⟩
  case round =>
    clear R0 R1 R2 R3 R4 hb5
    obtain ⟨k, hk, rfl, hfix, hok, hrow⟩ := hrel
    by_cases hlt : k < 64
    · have HRW := hide hrow
      have HFX := hide hfix
      have ck : wr.cell? ⟨w.heap.size + 1 + 1, k, none⟩ = some (.int .u32 (Ks.getD k 0 : Nat)) := by rw [cell_of_row _ _ k ka 93 (0, 0) hfix.fk]; exact HKC.out k hlt
      have cw : wr.cell? ⟨w.heap.size + 1, k, none⟩ = some (.int .u32 (ws.getD k 0 : Nat)) := by rw [cell_of_row _ _ k wa 93 (0, 0) hfix.fw]; exact HWC.out k hlt
      have lk := Ks_lt k hlt
      have lw := HWL.out k hlt
      have HRN : Hid (rounds Ks ws st (k + 1) = rnd (rounds Ks ws st k) (Ks.getD k 0) (ws.getD k 0)) := Eq.refl _
      have HOK : Hid ((rnd (rounds Ks ws st k) (Ks.getD k 0) (ws.getD k 0)).ok) := rnd_ok hok _ _
      generalize hv : rounds Ks ws st k = v at *
      obtain ⟨va, vb, vc, vd, ve, vf, vg, vh⟩ := v
      obtain ⟨hva, hvb, hvc, hvd, hve, hvf, hvg, hvh⟩ := hok
      simp only at *
      have t0 : wr.cell? ⟨w.heap.size + 1 + 1 + 1 + 1, 0, none⟩ = some (.int .u32 (va : Int)) := by rw [cell_of_row _ _ _ _ _ _ hrow]; rfl
      have t1 : wr.cell? ⟨w.heap.size + 1 + 1 + 1 + 1, 1, none⟩ = some (.int .u32 (vb : Int)) := by rw [cell_of_row _ _ _ _ _ _ hrow]; rfl
      have t2 : wr.cell? ⟨w.heap.size + 1 + 1 + 1 + 1, 2, none⟩ = some (.int .u32 (vc : Int)) := by rw [cell_of_row _ _ _ _ _ _ hrow]; rfl
      have t3 : wr.cell? ⟨w.heap.size + 1 + 1 + 1 + 1, 3, none⟩ = some (.int .u32 (vd : Int)) := by rw [cell_of_row _ _ _ _ _ _ hrow]; rfl
      have t4 : wr.cell? ⟨w.heap.size + 1 + 1 + 1 + 1, 4, none⟩ = some (.int .u32 (ve : Int)) := by rw [cell_of_row _ _ _ _ _ _ hrow]; rfl
      have t5 : wr.cell? ⟨w.heap.size + 1 + 1 + 1 + 1, 5, none⟩ = some (.int .u32 (vf : Int)) := by rw [cell_of_row _ _ _ _ _ _ hrow]; rfl
      have t6 : wr.cell? ⟨w.heap.size + 1 + 1 + 1 + 1, 6, none⟩ = some (.int .u32 (vg : Int)) := by rw [cell_of_row _ _ _ _ _ _ hrow]; rfl
      have t7 : wr.cell? ⟨w.heap.size + 1 + 1 + 1 + 1, 7, none⟩ = some (.int .u32 (vh : Int)) := by rw [cell_of_row _ _ _ _ _ _ hrow]; rfl
      generalize Ks.getD k 0 = kt at *
      generalize ws.getD k 0 = wt at *
      have T6 := hide (fun wx => turn_6 ve hve wx)
      have T11 := hide (fun wx => turn_11 ve hve wx)
      have T25 := hide (fun wx => turn_25 ve hve wx)
      have T2 := hide (fun wx => turn_2 va hva wx)
      have T13 := hide (fun wx => turn_13 va hva wx)
      have T22 := hide (fun wx => turn_22 va hva wx)
      -- choose
      have n1 := and_u32 hve hvf
      have n2 := not_u32 hve
      have n3 := and_u32 (xor_ones_lt hve) hvg
      have n4 : bits BinOp.xor IntKind.u32 ((ve &&& vf : Nat) : Int) (((ve ^^^ 4294967295) &&& vg : Nat) : Int) = ((chs ve vf vg : Nat) : Int) := xor_u32 (and_lt hve) (and_lt (xor_ones_lt hve))
      -- most
      have m1 := and_u32 hva hvb
      have m2 := and_u32 hva hvc
      have m3 := and_u32 hvb hvc
      have m4 := xor_u32 (and_lt (y := vb) hva) (and_lt (y := vc) hva)
      have m5 : bits BinOp.xor IntKind.u32 (((va &&& vb) ^^^ (va &&& vc) : Nat) : Int) ((vb &&& vc : Nat) : Int) = ((maj va vb vc : Nat) : Int) := xor_u32 (xor_lt (and_lt hva) (and_lt hva)) (and_lt hvb)
      -- the two sums
      have p1 := xor_u32 (rot_lt (n := 6) hve) (rot_lt (n := 11) hve)
      have p2 : bits BinOp.xor IntKind.u32 ((rot 6 ve ^^^ rot 11 ve : Nat) : Int) ((rot 25 ve : Nat) : Int) = ((bSig1 ve : Nat) : Int) := xor_u32 (xor_lt (rot_lt hve) (rot_lt hve)) (rot_lt hve)
      have p3 := xor_u32 (rot_lt (n := 2) hva) (rot_lt (n := 13) hva)
      have p4 : bits BinOp.xor IntKind.u32 ((rot 2 va ^^^ rot 13 va : Nat) : Int) ((rot 22 va : Nat) : Int) = ((bSig0 va : Nat) : Int) := xor_u32 (xor_lt (rot_lt hva) (rot_lt hva)) (rot_lt hva)
      obtain ⟨S1, eS1⟩ : ∃ z, bSig1 ve = z := ⟨_, rfl⟩
      obtain ⟨C, eC⟩ : ∃ z, chs ve vf vg = z := ⟨_, rfl⟩
      obtain ⟨S0, eS0⟩ : ∃ z, bSig0 va = z := ⟨_, rfl⟩
      obtain ⟨M, eM⟩ : ∃ z, maj va vb vc = z := ⟨_, rfl⟩
      rw [eS1] at p2
      rw [eC] at n4
      rw [eS0] at p4
      rw [eM] at m5
      obtain ⟨P1, ep1⟩ : ∃ z, (vh + S1) % 4294967296 = z := ⟨_, rfl⟩
      obtain ⟨P2, ep2⟩ : ∃ z, (P1 + C) % 4294967296 = z := ⟨_, rfl⟩
      obtain ⟨P3, ep3⟩ : ∃ z, (P2 + kt) % 4294967296 = z := ⟨_, rfl⟩
      obtain ⟨P4, ep4⟩ : ∃ z, (P3 + wt) % 4294967296 = z := ⟨_, rfl⟩
      obtain ⟨Q1, eq1⟩ : ∃ z, (S0 + M) % 4294967296 = z := ⟨_, rfl⟩
      obtain ⟨A, eA⟩ : ∃ z, (P4 + Q1) % 4294967296 = z := ⟨_, rfl⟩
      obtain ⟨E, eE⟩ : ∃ z, (vd + P4) % 4294967296 = z := ⟨_, rfl⟩
      have HQ := hide (rnd_eq ⟨va, vb, vc, vd, ve, vf, vg, vh⟩ kt wt S1 C S0 M P1 P2 P3 P4 Q1 A E eS1 eC eS0 eM ep1 ep2 ep3 ep4 eq1 eA eE)
      rw [HQ.out] at HRN HOK
      have f1 : ((vh : Int) + (S1 : Int)) % 4294967296 = (P1 : Int) := by omega
      have f2 : ((P1 : Int) + (C : Int)) % 4294967296 = (P2 : Int) := by omega
      have f3 : ((P2 : Int) + (kt : Int)) % 4294967296 = (P3 : Int) := by omega
      have f4 : ((P3 : Int) + (wt : Int)) % 4294967296 = (P4 : Int) := by omega
      have f5 : ((S0 : Int) + (M : Int)) % 4294967296 = (Q1 : Int) := by omega
      have f6 : ((P4 : Int) + (Q1 : Int)) % 4294967296 = (A : Int) := by omega
      have f7 : ((vd : Int) + (P4 : Int)) % 4294967296 = (E : Int) := by omega
      have lk2 : (k : Int) < 64 := by omega
      have HNR := hide (fun n => heap_setRow_same (wr.drewN n) (w.heap.size + 1 + 1 + 1 + 1) #[.int .u32 (A : Int), .int .u32 (va : Int), .int .u32 (vb : Int), .int .u32 (vc : Int), .int .u32 (E : Int), .int .u32 (ve : Int), .int .u32 (vf : Int), .int .u32 (vg : Int)] hrow)
      clear eS1 eC eS0 eM ep1 ep2 ep3 ep4 eq1 eA eE HQ hva hvb hvc hvd hve hvf hvg hvh lk lw hv hfix hrow
      generalize (ve ^^^ 4294967295) &&& vg = a3 at *
      generalize ve ^^^ 4294967295 = a2 at *
      generalize ve &&& vf = a1 at *
      generalize (va &&& vb) ^^^ (va &&& vc) = b4 at *
      generalize va &&& vb = b1 at *
      generalize va &&& vc = b2 at *
      generalize vb &&& vc = b3 at *
      generalize rot 6 ve ^^^ rot 11 ve = c3 at *
      generalize rot 2 va ^^^ rot 13 va = d3 at *
      generalize rot 6 ve = c1 at *
      generalize rot 11 ve = c2 at *
      generalize rot 25 ve = c4 at *
      generalize rot 2 va = d1 at *
      generalize rot 13 va = d2 at *
      generalize rot 22 va = d4 at *
      go_wp2
      go_quiet (first | (go_at_call 71; first | with_reducible exact Calls.quiet_of_same (T6.out _) | with_reducible exact Calls.quiet_of_same (T11.out _) | with_reducible exact Calls.quiet_of_same (T25.out _)))
      rw [f4]
      have HRQ : Hid ((wr.drewN nq).heap[w.heap.size + 1 + 1 + 1 + 1]? = some (.cells #[.int .u32 (va : Int), .int .u32 (vb : Int), .int .u32 (vc : Int), .int .u32 (vd : Int), .int .u32 (ve : Int), .int .u32 (vf : Int), .int .u32 (vg : Int), .int .u32 (vh : Int)] 92 (0, 0))) := HRW.out
      go_wp2_with fail
      refine (T2.out _).mono ?_
      rintro e w' ⟨rfl, rfl⟩
      go_wp2_with fail
      refine (T13.out _).mono ?_
      rintro e w' ⟨rfl, rfl⟩
      go_wp2_with fail
      refine (T22.out _).mono ?_
      rintro e w' ⟨rfl, rfl⟩
      go_wp2_with (refine wpList_store_row rfl 92 (.tmp 7) (.tmp 100) rfl (w.heap.size + 1 + 1 + 1 + 1) #[.int .u32 (A : Int), .int .u32 (va : Int), .int .u32 (vb : Int), .int .u32 (vc : Int), .int .u32 (E : Int), .int .u32 (ve : Int), .int .u32 (vf : Int), .int .u32 (vg : Int)] rfl rfl 92 #[.int .u32 (va : Int), .int .u32 (vb : Int), .int .u32 (vc : Int), .int .u32 (vd : Int), .int .u32 (ve : Int), .int .u32 (vf : Int), .int .u32 (vg : Int), .int .u32 (vh : Int)] HRQ.out Tryd.size8w rfl (by simp [Value.oneCell']) ?_)
      go_roundw
      case rel => exact ⟨k + 1, by omega, by go_num, HFX.out.setRow nq _, by rw [HRN.out]; exact HOK.out, by rw [HRN.out]; exact HNR.out nq⟩
      case measure => simp [intOf]; omega
    · have hk64 : k = 64 := by omega
      subst hk64
      generalize hV : rounds Ks ws st 64 = V at *
      have HVE := hide hV
      clear hV
      have HSC : Hid (∀ i, i < 8 → sa[i]? = some (.int .u32 (st.list.getD i 0 : Nat))) := by
        intro i hi; rw [← hsa, List.getElem?_toArray, map_wordV_getD (by simpa [St.list] using hi)]
      have HSL := hide (list_lt hst)
      have HVL := hide (list_lt hok)
      have HFX := hide hfix
      have HRW := hide hrow
      have HAF := hide (addL_full st V)
      have HAZ := hide (addL_zero st.list V)
      generalize hsl : st.list = sl at *
      generalize hvl : V.list = vl at *
      clear hfix hrow hlt hk hok hst hsa hka hwa
      go_wp2_with fail
      rw [show ((64 : Nat) : Int) = 64 from rfl]
      go_loopw [15] (fun i wr => ∃ k : Nat, k ≤ 8 ∧ i = .int .i64 k ∧ Fixed w wr sa wa ka ∧ wr.heap[w.heap.size + 1 + 1 + 1 + 1]? = some (.cells ((addL sl vl k).map wordV).toArray 92 (0, 0)))
        (fun i _ => 8 - (intOf i).toNat)
      case atStart => exact ⟨0, Nat.zero_le _, rfl, HFX.out, by rw [HAZ.out]; exact HRW.out⟩
      case round =>
        clear HFX HRW
        obtain ⟨k, hk, rfl, hfix, hrow⟩ := hrel
        by_cases hlt : k < 8
        · have hcs : wr.cell? ⟨w.heap.size, k, none⟩ = some (.int .u32 (sl.getD k 0 : Nat)) := by rw [cell_of_row _ _ k sa 92 (0, 0) hfix.fs]; exact HSC.out k hlt
          have hcv : wr.cell? ⟨w.heap.size + 1 + 1 + 1 + 1, k, none⟩ = some (.int .u32 (vl.getD k 0 : Nat)) := by
            rw [cell_of_row _ _ k _ 92 (0, 0) hrow, List.getElem?_toArray, map_wordV_getD (by rw [addL_len]; exact hlt), addL_getD hlt]
          have hfz : wr.frozen? ⟨w.heap.size + 1 + 1 + 1 + 1, k, none⟩ = false := frozen_of_row _ _ k _ 92 hrow
          have b1 := HSL.out k
          have b2 := HVL.out k
          have HST : Hid ((wr.drew.setCell ⟨w.heap.size + 1 + 1 + 1 + 1, k, none⟩ (.int .u32 (((sl.getD k 0 + vl.getD k 0) % 4294967296 : Nat) : Int))).heap[w.heap.size + 1 + 1 + 1 + 1]? = some (.cells ((addL sl vl (k + 1)).map wordV).toArray 92 (0, 0))) := by
            show _ = _
            rw [← addL_set hlt, List.map_set, ← List.setIfInBounds_toArray]
            exact Go.heap_setCell_same wr.drew _ k _ 92 _ hrow
          generalize sl.getD k 0 = x at *
          generalize vl.getD k 0 = y at *
          obtain ⟨z, ez⟩ : ∃ z, (x + y) % 4294967296 = z := ⟨_, rfl⟩
          have a1 : IntKind.u32.wrap ((y : Int) + (x : Int)) = (z : Int) := by rw [IntKind.wrap_u32']; omega
          have a2 : ((y : Int) + (x : Int)) % 4294967296 = (z : Int) := by omega
          rw [ez] at HST
          have lk : (k : Int) < 8 := by omega
          have HFX := hide hfix
          clear hfix hrow ez
          go_wp2
          clear a2
          refine wp_still_tail 9 (by kernel_rfl) (by kernel_rfl) ?_
          simp only [List.take_succ_cons, List.take_zero, List.drop_succ_cons, List.drop_zero]
          repeat still_step
          refine wpStill_nil ?_
          go_wp2
          go_roundw
          case rel => exact ⟨k + 1, by omega, by go_num, HFX.out.setCell _ _, HST.out⟩
          case measure => simp [intOf]; omega
        · have hk8 : k = 8 := by omega
          subst hk8
          rw [HAF.out] at hrow
          have hsz : (Tryd.prog.info? 92).map (·.size) = some ((st.add V).list.map wordV).toArray.size := by rw [list_size]; exact Tryd.size8w
          have hzs : zero8w.size = ((st.add V).list.map wordV).toArray.size := by rw [list_size]; rfl
          have hone := wordV_one (st.add V).list
          obtain ⟨oa, hoa⟩ : ∃ oa, ((st.add V).list.map wordV).toArray = oa := ⟨_, rfl⟩
          rw [hoa] at hsz hzs hone hrow
          have HR2 := hide hrow
          have HR1 := hide hfix.fr
          have HBL := hide hfix.fb
          have HRS := hide (setRow_heap wr (w.heap.size + 1 + 1 + 1) zero8w oa 92 (0, 0) hfix.fr)
          have HOA := hide hoa
          clear hfix hrow hlt hk hoa
          go_wp2_with (first
            | refine wpList_load_row rfl 92 _ rfl (w.heap.size + 1 + 1 + 1 + 1) rfl 92 oa (0, 0) _ HR2.out Tryd.underlying92 rfl hsz ?_
            | refine wpList_store_row rfl 92 _ _ rfl (w.heap.size + 1 + 1 + 1) oa rfl rfl 92 zero8w HR1.out hsz hzs hone ?_)
          exact bodyPost_ret (v := .agg oa) (results_cell_row rfl _ _ (w.heap.size + 1 + 1 + 1) 92 oa (0, 0) _ rfl HRS.out Tryd.underlying92 rfl hsz) rfl ⟨by rw [HVE.out, HOA.out], below_setRow HBL.out (by omega) _⟩
end Go.Proofs.YtkjaaknlhmneoacDoor
namespace Go.Proofs.YtkjaaknlhmneoacDoor
open Go.RowKit
open Num
set_option linter.unusedVariables false
set_option linter.unusedSimpArgs false

/-- what the output loop keeps: the state's row, the output's row -/
structure OutInv (w1 wr : World) (gs go : Nat) (sa ys : Array Value) : Prop where
  os : wr.heap[gs]? = some (.cells sa 92 (0, 0))
  oo : wr.heap[go]? = some (.cells ys 58 (0, 0))
  ob : Below w1.heap.size w1 wr
theorem OutInv.set {w1 wr : World} {gs go : Nat} {sa ys : Array Value} (h : OutInv w1 wr gs go sa ys) (hne : gs ≠ go) (hle : w1.heap.size ≤ go) (k : Nat) (v : Value) : OutInv w1 (wr.drew.setCell ⟨go, k, none⟩ v) gs go sa (ys.setIfInBounds k v) := by
  refine ⟨?_, ?_, h.ob.drew.setCell (by show w1.heap.size ≤ go; omega) _⟩
  · rw [Go.heap_setCell_other _ _ _ _ (by show gs ≠ go; exact hne)]; exact h.os
  · exact Go.heap_setCell_same wr.drew _ k ys 58 _ h.oo
theorem OutInv.put {w1 wr : World} {gs go : Nat} {sa ys : Array Value} (h : OutInv w1 wr gs go sa ys) (hne : gs ≠ go) (hle : w1.heap.size ≤ go) (k : Nat) (v : Value) : OutInv w1 (wr.setCell ⟨go, k, none⟩ v) gs go sa (ys.setIfInBounds k v) := by
  refine ⟨?_, ?_, h.ob.setCell (by show w1.heap.size ≤ go; omega) _⟩
  · rw [Go.heap_setCell_other _ _ _ _ (by show gs ≠ go; exact hne)]; exact h.os
  · exact Go.heap_setCell_same wr _ k ys 58 _ h.oo
theorem row_some {w : World} {g k : Nat} {ys : Array Value} {t : TypeId} {fr : Nat × Nat} (h : w.heap[g]? = some (.cells ys t fr)) (hk : k < ys.size) : ∃ v, w.cell? ⟨g, k, none⟩ = some v := by
  refine ⟨ys[k], ?_⟩
  rw [cell_of_row _ _ k ys t fr h]; simp

set_option maxRecDepth 100000 in
set_option maxHeartbeats 8000000 in
theorem sumWith_any (v : Value) (l : List Nat) (w : World) (h : BSl w v l) (hr : l.length + 72 ≤ 140737488355328) :
    Calls Tryd.prog 50 #[v, .agg (H0.map wordV).toArray, .agg (Ks.map wordV).toArray] w fun e w' => e = .returned (.agg ((shaL l).map byteV).toArray) ∧ Below w.heap.size w w' := by
  have HV := hide h
  have HON := hide (wordV_one H0)
  have HS1 : Hid ((Tryd.prog.info? 92).map (·.size) = some (H0.map wordV).toArray.size) := Tryd.size8w
  have HS2 : Hid (zero8w.size = (H0.map wordV).toArray.size) := Eq.refl _
  generalize hka : (Ks.map wordV).toArray = ka at *
  generalize hha : (H0.map wordV).toArray = ha at *
  clear h
  go_enter Tryd.func50, Tryd.ntmps50
  go_wp2_with (first
    | refine wpList_alloc_as rfl 92 rfl (.agg zero8w) zero8w Tryd.zero8w rfl ?_
    | refine wpList_alloc_as rfl 58 rfl (.agg zero32) zero32 Tryd.zero32 rfl ?_)
  have HB3 := hide (below_alloc3 w (.cells ha 92) (.cells ka 93) (.cells zero32 58))
  refine (padded_any v l _ (HV.out.below HB3.out) hr).mono ?_
  rintro e w1 ⟨vm, rfl, hom, hb1⟩
  have RH := hide (heap_kept hb1 (heap_more (.cells zero32 58) (heap_more (.cells ka 93) (Go.heap_alloc_new w (.cells ha 92)))))
  have RK := hide (heap_kept hb1 (heap3_snd w (.cells ha 92) (.cells ka 93) (.cells zero32 58)))
  have RZ := hide (heap_kept hb1 (heap3_new w (.cells ha 92) (.cells ka 93) (.cells zero32 58)))
  have RB := hide (HB3.out.trans (hb1.mono (by simp; omega)))
  have hg0 : w.heap.size + 1 + 1 < w1.heap.size := (Array.getElem?_eq_some_iff.1 RZ.out).1
  have HPM := hide hom.bsl
  have hplen : (padL l).length = l.length + padN l.length + 8 := by
    rw [padL, List.length_append, List.length_append, lenB_len, List.length_take, padA_len]
    have := padN_bd l.length
    omega
  have hpl : (padL l).length ≤ 140737488355328 + 64 := by
    have := padN_bd l.length
    omega
  have HBY := hide hom.2
  have HSH : Hid (shaL l = bytesS (absorb (padL l) ((padL l).length / 64)) 32) := Eq.refl _
  generalize hPM : padL l = PM at *
  clear HB3 hb1 hom hplen HV
  have hqm := HPM.out
  obtain ⟨am, capm, rfl, hl1, hm1, _, _, _⟩ := hqm
  unfold maxLen at hm1
  go_wp2_with (first
    | refine wpList_alloc_as rfl 92 rfl (.agg zero8w) zero8w Tryd.zero8w rfl ?_
    | refine wpList_load_row rfl 92 (.tmp 4) rfl w.heap.size rfl 92 ha (0, 0) _ RH.out Tryd.underlying92 rfl HS1.out ?_
    | (refine wpList_store_row rfl 92 (.tmp 8) (.tmp 15) rfl w1.heap.size ha (by first | rfl | simp [Act.eval, Act.put]) (by first | rfl | simp [Act.eval, Act.put]) 92 zero8w (Go.heap_alloc_new w1 _) HS1.out HS2.out HON.out ?_; rw [World.setRow_alloc_new]))
  have hst0 : ha = ((absorb PM 0).list.map wordV).toArray := by rw [← hha]; rfl
  have RS := hide (Go.heap_alloc_new w1 (.cells ha 92))
  have HST0 := hide hst0
  have RB1 := hide (below_alloc w1 (.cells ha 92))
  generalize w1.alloc (.cells ha 92) = W at *
  clear hst0
  go_loopw [9] (fun i wr => ∃ q : Nat, 64 * q ≤ PM.length ∧ i = .int .i64 ((64 * q : Nat) : Int) ∧ Below w1.heap.size w1 wr ∧ wr.heap[w1.heap.size]? = some (.cells ((absorb PM q).list.map wordV).toArray 92 (0, 0))) (fun i _ => PM.length + 64 - (intOf i).toNat)
  case atStart => exact ⟨0, Nat.zero_le _, rfl, RB1.out, by rw [← HST0.out]; exact RS.out⟩
  case round =>
    clear RS RB1
    obtain ⟨q, hq, rfl, hbel, hrow⟩ := hrel
    by_cases hlt : 64 * q + 64 ≤ PM.length
    · have HW1 := hide (words_any _ PM (64 * q) wr (HPM.out.below hbel) hlt (by omega))
      have hcb := take_lt HBY.out (64 * q) 64
      have HCH := hide (fun wx => chunk_any (absorb PM q) (absorb_ok PM q) (sched ((PM.drop (64 * q)).take 64) 64) (sched_len _ _) (sched_lt hcb 64) wx)
      rw [hka] at HCH
      have HNX : Hid ((absorb PM q).add (rounds Ks (sched ((PM.drop (64 * q)).take 64) 64) (absorb PM q) 64) = absorb PM (q + 1)) := Eq.refl _
      rw [HNX.out] at HCH
      have hwl : ((sched ((PM.drop (64 * q)).take 64) 64).map wordV).toArray.size = 64 := by simp [sched_len]
      have hwo := wordV_one (sched ((PM.drop (64 * q)).take 64) 64)
      have hws : (Tryd.prog.info? 93).map (·.size) = some ((sched ((PM.drop (64 * q)).take 64) 64).map wordV).toArray.size := by rw [hwl]; exact Tryd.sizeW
      have hwz : zeroW.size = ((sched ((PM.drop (64 * q)).take 64) 64).map wordV).toArray.size := by rw [hwl]; rfl
      obtain ⟨wa, hwa⟩ : ∃ wa, ((sched ((PM.drop (64 * q)).take 64) 64).map wordV).toArray = wa := ⟨_, rfl⟩
      rw [hwa] at HW1 HCH hwo hws hwz
      obtain ⟨na, hna⟩ : ∃ na, ((absorb PM (q + 1)).list.map wordV).toArray = na := ⟨_, rfl⟩
      obtain ⟨sa, hsa⟩ : ∃ sa, ((absorb PM q).list.map wordV).toArray = sa := ⟨_, rfl⟩
      have hs1 : (Tryd.prog.info? 92).map (·.size) = some sa.size := by rw [← hsa, list_size]; exact Tryd.size8w
      have hs2 : (Tryd.prog.info? 92).map (·.size) = some na.size := by rw [← hna, list_size]; exact Tryd.size8w
      have hs3 : sa.size = na.size := by rw [← hsa, ← hna, list_size, list_size]
      have hno : na.all (·.oneCell') = true := by rw [← hna]; exact wordV_one _
      rw [hna, hsa] at HCH
      rw [hsa] at hrow
      have hks : (Tryd.prog.info? 93).map (·.size) = some ka.size := by rw [← hka]; exact Tryd.sizeW
      have HNA := hide hna
      have HRW := hide hrow
      have HBL := hide hbel
      obtain ⟨p, hp⟩ : ∃ p, 64 * q = p := ⟨_, rfl⟩
      rw [hp] at HW1 hlt ⊢
      have HP := hide hp
      have hszr := hbel.size
      clear hwa hwl hna hsa hcb hbel hrow HNX hq hp
      go_wp2_with fail
      refine HW1.out.mono ?_
      rintro e wa1 ⟨rfl, hb2⟩
      have HBa := hide ((HBL.out.trans (hb2.mono hszr)).alloc (Nat.le_trans hszr hb2.size) (.cells wa 93))
      have HRa := hide (heap_more (.cells wa 93) (heap_kept hb2 HRW.out))
      have HWa := hide (Go.heap_alloc_new wa1 (.cells wa 93))
      have HKa := hide (heap_kept HBa.out RK.out)
      clear hb2 HW1 HBL HRW
      go_wp2_with (first
        | refine wpList_alloc_as rfl 93 rfl (.agg zeroW) zeroW Tryd.zeroW rfl ?_
        | (refine wpList_store_row rfl 93 (.tmp 10) (.tmp 25) rfl wa1.heap.size wa (by first | rfl | simp [Act.eval, Act.put]) (by first | rfl | simp [Act.eval, Act.put]) 93 zeroW (Go.heap_alloc_new wa1 _) hws hwz hwo ?_; rw [World.setRow_alloc_new])
        | refine wpList_load_row rfl 92 (.tmp 8) rfl w1.heap.size rfl 92 sa (0, 0) _ HRa.out Tryd.underlying92 rfl hs1 ?_
        | refine wpList_load_row rfl 93 (.tmp 10) rfl wa1.heap.size rfl 93 wa (0, 0) _ HWa.out Tryd.underlying93 rfl hws ?_
        | refine wpList_load_row rfl 93 (.tmp 5) rfl (w.heap.size + 1) rfl 93 ka (0, 0) _ HKa.out Tryd.underlying93 rfl hks ?_)
      refine (HCH.out _).mono ?_
      rintro e wb ⟨rfl, hb3⟩
      have HRb := hide (heap_kept hb3 HRa.out)
      have HBb := hide (HBa.out.trans (hb3.mono HBa.out.size))
      have HNR := hide (setRow_heap wb w1.heap.size sa na 92 (0, 0) HRb.out)
      clear hb3 HCH HRa HBa HWa HKa
      go_wp2_with (refine wpList_store_row rfl 92 (.tmp 8) (.tmp 29) rfl w1.heap.size na rfl rfl 92 sa HRb.out hs2 hs3 hno ?_)
      go_roundw
      case rel => exact ⟨q + 1, by have := HP.out; omega, by have := HP.out; go_num, below_setRow HBb.out (Nat.le_refl _) _, by rw [HNA.out]; exact HNR.out⟩
      case measure => simp [intOf]; omega
    · have hqe : PM.length / 64 = q := by omega
      have HQE : Hid (shaL l = bytesS (absorb PM q) 32) := by show _ = _; rw [HSH.out, hqe]
      have HLT := hide (list_lt (absorb_ok PM q))
      have HX : Hid (∀ i, i < 8 → (((absorb PM q).list.map wordV).toArray)[i]? = some (.int .u32 ((absorb PM q).list.getD i 0 : Nat))) := by
        intro i hi; rw [List.getElem?_toArray, map_wordV_getD (by simpa [St.list] using hi)]
      have HSU := hide (fun k => bytesS_succ (absorb PM q) k)
      generalize hST : absorb PM q = ST at *
      obtain ⟨sa, hsa⟩ : ∃ sa, (ST.list.map wordV).toArray = sa := ⟨_, rfl⟩
      rw [hsa] at hrow HX
      have HZ0 := hide (heap_kept hbel RZ.out)
      have hszr := hbel.size
      have hsw : w1.heap.size < wr.heap.size := (Array.getElem?_eq_some_iff.1 hrow).1
      have HIN : Hid (OutInv w1 (wr.alloc (.cells zero32 58)) w1.heap.size wr.heap.size sa zero32) := ⟨heap_more _ hrow, Go.heap_alloc_new _ _, hbel.alloc hszr _⟩
      obtain ⟨p, hp⟩ : ∃ p, 64 * q = p := ⟨_, rfl⟩
      rw [hp] at hlt hq ⊢
      clear hrow hbel hqe HSH hsa hp HPM HBY hST HST0
      go_wp2_with (refine wpList_alloc_as rfl 58 rfl (.agg zero32) zero32 Tryd.zero32 rfl ?_)
      obtain ⟨go', hgo⟩ : ∃ g, wr.heap.size = g := ⟨_, rfl⟩
      rw [hgo] at hsw hszr HIN ⊢
      generalize wr.alloc (.cells zero32 58) = W2 at *
      clear hgo
      go_loopw [12] (fun i wx => ∃ k : Nat, k ≤ 8 ∧ i = .int .i64 k ∧ ∃ ys : Array Value, OutInv w1 wx w1.heap.size go' sa ys ∧ ys.size = 32 ∧ ys.toList.take (4 * k) = (bytesS ST (4 * k)).map byteV) (fun i _ => 8 - (intOf i).toNat)
      case atStart => exact ⟨0, Nat.zero_le _, rfl, _, HIN.out, rfl, rfl⟩
      case round =>
        clear HIN
        obtain ⟨k, hk, rfl, ys, hin, hy1, hy2⟩ := hrel
        by_cases hltk : k < 8
        · obtain ⟨x, hx⟩ : ∃ x, ST.list.getD k 0 = x := ⟨_, rfl⟩
          have hxs := HX.out k hltk
          have hxl := HLT.out k
          rw [hx] at hxs hxl
          have hsu0 := HSU.out (4 * k)
          have hsu1 := HSU.out (4 * k + 1)
          have hsu2 := HSU.out (4 * k + 2)
          have hsu3 := HSU.out (4 * k + 3)
          have hba : ∀ j, j < 4 → byteAt ST.list (4 * k + j) = x / 2 ^ (24 - 8 * j) % 256 := by
            intro j hj
            rw [byteAt, show (4 * k + j) / 4 = k by omega, show (4 * k + j) % 4 = j by omega, hx]
          rw [show 4 * k = 4 * k + 0 from rfl, hba 0 (by omega)] at hsu0
          rw [hba 1 (by omega)] at hsu1
          rw [hba 2 (by omega)] at hsu2
          rw [hba 3 (by omega)] at hsu3
          obtain ⟨i0, e0⟩ : ∃ i, 4 * k = i := ⟨_, rfl⟩
          obtain ⟨y0, ey0⟩ : ∃ y, x / 16777216 % 256 = y := ⟨_, rfl⟩
          obtain ⟨y1, ey1⟩ : ∃ y, x / 65536 % 256 = y := ⟨_, rfl⟩
          obtain ⟨y2, ey2⟩ : ∃ y, x / 256 % 256 = y := ⟨_, rfl⟩
          obtain ⟨y3, ey3⟩ : ∃ y, x / 1 % 256 = y := ⟨_, rfl⟩
          have hS : Hid (bytesS ST (4 * (k + 1)) = bytesS ST i0 ++ [y0, y1, y2, y3]) := by
            show _ = _
            rw [show 4 * (k + 1) = 4 * k + 3 + 1 by omega, hsu3, hsu2, hsu1]
            have h0 : bytesS ST (4 * k + 1) = bytesS ST (4 * k) ++ [y0] := by rw [← ey0]; exact hsu0
            rw [h0, ← e0, ← ey1, ← ey2, ← ey3]
            simp
          rw [e0] at hy2
          have g0 : 4 * (k : Int) = (i0 : Int) := by omega
          have l0 : (i0 : Int) < 32 := by omega
          have lk : (k : Int) < 8 := by omega
          have q0 : (x : Int) / 16777216 = (y0 : Int) := by omega
          have q1 : (x : Int) / 65536 % 256 = (y1 : Int) := by omega
          have q2 : (x : Int) / 256 % 256 = (y2 : Int) := by omega
          have q3 : (x : Int) % 256 = (y3 : Int) := by omega
          have hi32 : i0 + 4 ≤ 32 := by omega
          clear hsu0 hsu1 hsu2 hsu3 hba ey0 ey1 ey2 ey3 hx
          have HXS := hide hxs
          have HE0 := hide e0
          clear hxs e0
          have cs0 : (wr).cell? ⟨w1.heap.size, k, none⟩ = some (.int .u32 (x : Int)) := by rw [cell_of_row _ _ k sa 92 (0, 0) hin.os]; exact HXS.out
          have sz0 : (ys).size = 32 := hy1
          obtain ⟨v0, st0⟩ := row_some (k := i0) hin.oo (by omega)
          have fz0 : (wr).frozen? ⟨go', i0, none⟩ = false := frozen_of_row _ _ _ _ 58 hin.oo
          have hin1 := hin.put (by omega) (by omega) (i0) (.int .u8 (y0 : Int))
          have cs1 : ((wr).setCell ⟨go', i0, none⟩ (.int .u8 (y0 : Int))).cell? ⟨w1.heap.size, k, none⟩ = some (.int .u32 (x : Int)) := by rw [cell_of_row _ _ k sa 92 (0, 0) hin1.os]; exact HXS.out
          have sz1 : ((ys).setIfInBounds (i0) (.int .u8 (y0 : Int))).size = 32 := by rw [Array.size_setIfInBounds]; exact sz0
          obtain ⟨v1, st1⟩ := row_some (k := i0 + 1) hin1.oo (by omega)
          have fz1 : ((wr).setCell ⟨go', i0, none⟩ (.int .u8 (y0 : Int))).frozen? ⟨go', i0 + 1, none⟩ = false := frozen_of_row _ _ _ _ 58 hin1.oo
          have hin2 := hin1.put (by omega) (by omega) (i0 + 1) (.int .u8 (y1 : Int))
          have cs2 : (((wr).setCell ⟨go', i0, none⟩ (.int .u8 (y0 : Int))).setCell ⟨go', i0 + 1, none⟩ (.int .u8 (y1 : Int))).cell? ⟨w1.heap.size, k, none⟩ = some (.int .u32 (x : Int)) := by rw [cell_of_row _ _ k sa 92 (0, 0) hin2.os]; exact HXS.out
          have sz2 : (((ys).setIfInBounds (i0) (.int .u8 (y0 : Int))).setIfInBounds (i0 + 1) (.int .u8 (y1 : Int))).size = 32 := by rw [Array.size_setIfInBounds]; exact sz1
          obtain ⟨v2, st2⟩ := row_some (k := i0 + 2) hin2.oo (by omega)
          have fz2 : (((wr).setCell ⟨go', i0, none⟩ (.int .u8 (y0 : Int))).setCell ⟨go', i0 + 1, none⟩ (.int .u8 (y1 : Int))).frozen? ⟨go', i0 + 2, none⟩ = false := frozen_of_row _ _ _ _ 58 hin2.oo
          have hin3 := hin2.put (by omega) (by omega) (i0 + 2) (.int .u8 (y2 : Int))
          have cs3 : ((((wr).setCell ⟨go', i0, none⟩ (.int .u8 (y0 : Int))).setCell ⟨go', i0 + 1, none⟩ (.int .u8 (y1 : Int))).setCell ⟨go', i0 + 2, none⟩ (.int .u8 (y2 : Int))).cell? ⟨w1.heap.size, k, none⟩ = some (.int .u32 (x : Int)) := by rw [cell_of_row _ _ k sa 92 (0, 0) hin3.os]; exact HXS.out
          have sz3 : ((((ys).setIfInBounds (i0) (.int .u8 (y0 : Int))).setIfInBounds (i0 + 1) (.int .u8 (y1 : Int))).setIfInBounds (i0 + 2) (.int .u8 (y2 : Int))).size = 32 := by rw [Array.size_setIfInBounds]; exact sz2
          obtain ⟨v3, st3⟩ := row_some (k := i0 + 3) hin3.oo (by omega)
          have fz3 : ((((wr).setCell ⟨go', i0, none⟩ (.int .u8 (y0 : Int))).setCell ⟨go', i0 + 1, none⟩ (.int .u8 (y1 : Int))).setCell ⟨go', i0 + 2, none⟩ (.int .u8 (y2 : Int))).frozen? ⟨go', i0 + 3, none⟩ = false := frozen_of_row _ _ _ _ 58 hin3.oo
          have hin4 := hin3.put (by omega) (by omega) (i0 + 3) (.int .u8 (y3 : Int))
          have HIN := hide hin4
          have HSZ : Hid ((((((ys).setIfInBounds (i0) (.int .u8 (y0 : Int))).setIfInBounds (i0 + 1) (.int .u8 (y1 : Int))).setIfInBounds (i0 + 2) (.int .u8 (y2 : Int))).setIfInBounds (i0 + 3) (.int .u8 (y3 : Int))).size = 32) := by show _ = _; rw [Array.size_setIfInBounds]; exact sz3
          have HTK : Hid ((((((ys).setIfInBounds (i0) (.int .u8 (y0 : Int))).setIfInBounds (i0 + 1) (.int .u8 (y1 : Int))).setIfInBounds (i0 + 2) (.int .u8 (y2 : Int))).setIfInBounds (i0 + 3) (.int .u8 (y3 : Int))).toList.take (4 * (k + 1)) = (bytesS ST (4 * (k + 1))).map byteV) := by
            show _ = _
            have t0 := take_succ_set (u := .int .u8 (y0 : Int)) (show i0 < ys.size by omega) hy2
            have t1 := take_succ_set (u := .int .u8 (y1 : Int)) (k := i0 + 1) (by rw [Array.size_setIfInBounds]; omega) t0
            have t2 := take_succ_set (u := .int .u8 (y2 : Int)) (k := i0 + 2) (by rw [Array.size_setIfInBounds, Array.size_setIfInBounds]; omega) t1
            have t3 := take_succ_set (u := .int .u8 (y3 : Int)) (k := i0 + 3) (by rw [Array.size_setIfInBounds, Array.size_setIfInBounds, Array.size_setIfInBounds]; omega) t2
            rw [hS.out, show 4 * (k + 1) = i0 + 3 + 1 by have := HE0.out; omega, t3]
            simp [byteV]
          clear hin hin1 hin2 hin3 hin4 sz0 sz1 sz2 sz3 hy1 hy2
          go_wp2
          go_roundw
          case rel => exact ⟨k + 1, by omega, by go_num, _, HIN.out, HSZ.out, HTK.out⟩
          case measure => simp [intOf]; omega
        · have hk8 : k = 8 := by omega
          subst hk8
          have hys : ys = ((shaL l).map byteV).toArray := by
            rw [List.take_of_length_le (by simp [hy1])] at hy2
            rw [HQE.out, ← hy2]
          obtain ⟨f1, f2, f3⟩ := sum_shape l
          rw [← hys] at f1 f2 f3
          have HE : Hid (Ending.returned (.agg ys) = .returned (.agg ((shaL l).map byteV).toArray)) := by show _ = _; rw [hys]
          have HRo := hide hin.oo
          have HRz := hide (heap_kept hin.ob RZ.out)
          have HBL : Hid (Below w.heap.size w wr) := RB.out.trans (hin.ob.mono RB.out.size)
          have HRS := hide (setRow_heap wr (w.heap.size + 1 + 1) zero32 ys 58 (0, 0) HRz.out)
          clear hin hy1 hy2 hys hltk hk HQE HLT HX HSU
          go_wp2_with (first
            | refine wpList_load_row rfl 58 (.tmp 11) rfl go' rfl 58 ys (0, 0) _ HRo.out Tryd.underlying58 rfl f1 ?_
            | refine wpList_store_row rfl 58 (.tmp 6) (.tmp 68) rfl (w.heap.size + 1 + 1) ys rfl rfl 58 zero32 HRz.out f1 f2 f3 ?_)
          exact bodyPost_ret (v := .agg ys) (results_cell_row rfl _ _ (w.heap.size + 1 + 1) 58 ys (0, 0) _ rfl HRS.out Tryd.underlying58 rfl f1) rfl ⟨HE.out, below_setRow HBL.out (by omega) _⟩

set_option maxRecDepth 100000 in
set_option maxHeartbeats 2000000 in
theorem refSum_any (v : Value) (l : List Nat) (w : World) (h : BSl w v l) (hr : l.length + 72 ≤ 140737488355328) (hB : Tab w 0 H0) (hR : Tab w 1 Ks) :
    Calls Tryd.prog 25 #[v] w fun e w' => e = .returned (.agg ((shaL l).map byteV).toArray) ∧ Below w.heap.size w w' := by
  have HV := hide h
  obtain ⟨h1, h2, h3⟩ := sum_shape l
  have HSZ := hide h1
  have HZS := hide h2
  have HON := hide h3
  have HBR := hide ((hB.below (below_alloc w (.cells zero32 58))).range)
  have HRR := hide ((hR.below (below_alloc w (.cells zero32 58))).range)
  have HZ := hide (Go.heap_alloc_new w (.cells zero32 58))
  clear h hB hR h1 h2 h3
  go_enter Tryd.func25, Tryd.ntmps25
  go_wp2_with (first
    | refine wpList_alloc_as rfl 58 rfl (.agg zero32) zero32 Tryd.zero32 rfl ?_
    | refine wpList_load_mid rfl 92 _ rfl 0 0 rfl (H0.map wordV) _ HBR.out Tryd.underlying92 rfl Tryd.size8w ?_
    | refine wpList_load_mid rfl 93 _ rfl 1 0 rfl (Ks.map wordV) _ HRR.out Tryd.underlying93 rfl Tryd.sizeW ?_)
  refine (sumWith_any v l _ (HV.out.below (below_alloc _ _)) hr).mono ?_
  rintro e w3 ⟨rfl, hb3⟩
  have HZ3 := hide (heap_kept hb3 HZ.out)
  have HB3 := hide ((below_alloc w (.cells zero32 58)).trans (hb3.mono (by simp)))
  have HRS := hide (setRow_heap w3 w.heap.size zero32 ((shaL l).map byteV).toArray 58 (0, 0) HZ3.out)
  generalize hoa : ((shaL l).map byteV).toArray = oa at *
  have HOA := hide hoa
  clear hb3 HZ hoa
  go_wp2_with (refine wpList_store_row rfl 58 _ _ rfl w.heap.size oa rfl rfl 58 zero32 HZ3.out HSZ.out HZS.out HON.out ?_)
  exact bodyPost_ret (v := .agg oa) (results_cell_row rfl _ _ w.heap.size 58 oa (0, 0) _ rfl HRS.out Tryd.underlying58 rfl HSZ.out) rfl ⟨by rw [HOA.out], below_setRow HB3.out (Nat.le_refl _) _⟩
end Go.Proofs.YtkjaaknlhmneoacDoor
namespace Go.Proofs.YtkjaaknlhmneoacDoor
open Go.RowKit Go.Lib
open Num
set_option linter.unusedVariables false
set_option linter.unusedSimpArgs false
set_option maxRecDepth 20000

/-- the row that grows, beside the digest's box -/
structure AP (w wr : World) (db : Nat) (ys : Array Value) (v : Value) (L : List Nat) : Prop where
  own : Own wr w.heap.size v L
  row : wr.heap[db]? = some (.cells ys 58 (0, 0))
  bel : Below w.heap.size w wr
  ap : v.ownBlock ≠ some db
theorem AP.le {w wr : World} {db : Nat} {ys : Array Value} {v : Value} {L : List Nat} (h : AP w wr db ys v L) : w.heap.size ≤ wr.heap.size := h.bel.size
theorem AP.alloc {w wr : World} {db : Nat} {ys : Array Value} {v : Value} {L : List Nat} (h : AP w wr db ys v L) (o : Obj) : AP w (wr.alloc o) db ys v L :=
  ⟨h.own.grown rfl, (heap_alloc_old wr o (Array.getElem?_eq_some_iff.1 h.row).1).trans h.row, h.bel.alloc h.le _, h.ap⟩
theorem AP.grow {w wr w' : World} {db : Nat} {ys : Array Value} {v v' : Value} {L L' : List Nat} (h : AP w wr db ys v L) (ho : Own w' w.heap.size v' L') (hg : wr.grownBy w' v.ownBlock) (ha : v'.ownBlock = v.ownBlock ∨ v'.ownBlock = some wr.heap.size) : AP w w' db ys v' L' := by
  have hd := (Array.getElem?_eq_some_iff.1 h.row).1
  refine ⟨ho, (hg.block db hd fun e => h.ap e.symm).trans h.row, h.bel.grown hg h.le fun j hj => (h.own.1.lt j hj).1, ?_⟩
  rcases ha with e | e
  · rw [e]; exact h.ap
  · rw [e]; intro e2; injection e2 with e2; omega
theorem wpList_app3 {ops : Array Oper} {rest : List Oper} {o : Oper} {a : Act} {w wr : World} {Q : Exit → Act → World → Prop} (hgd : o.guard = none) (s x : Operand)
    (ho : o.op = .call { callee := .builtin .append, args := #[s, x], argTypes := #[22, 22] })
    (db : Nat) (ys : Array Value) (v vx : Value) (l0 : List Nat) (y : Nat) (hs : a.eval s = v) (hx : a.eval x = vx) (hown : AP w wr db ys v l0) (hb : BSl wr vx [y]) (hlen : l0.length + 1 ≤ 140737488355328)
    (h : ∀ v' w', AP w w' db ys v' (l0 ++ [y]) → wpList Tryd.prog ops Q rest (a.put o.dst v') w') : wpList Tryd.prog ops Q (o :: rest) a wr := by
  obtain ⟨i0, hi, hz0, hz1, hz2⟩ := info_parts Tryd.info5
  have hb' := hb
  obtain ⟨ad, cap, rfl, hl, hm, hn, hbb, hcc⟩ := hb'
  obtain ⟨b, off, rfl, hcell⟩ := hcc (by simp)
  refine wpList_append_own_at _ hgd s x 22 ho w.heap.size 5 i0 (.int .u8 0) 1 1 Tryd.underlying22 hi hz0 hz1 hz2 rfl (by decide) v l0.length _ hs hown.own.1 ⟨b, off, none⟩ 1 cap ([y].map byteV) hx (by simp) hb.news (byteV_oneCell _) (by unfold maxLen; omega) (by omega) hown.le ?_
  intro v' w1 hown' hg hiff hat
  exact h v' w1 (hown.grow ⟨by rw [List.length_append, List.map_append]; exact hown', fun z hz => (List.mem_append.1 hz).elim (hown.own.2 z) (hbb z)⟩ hg hat)
theorem cells10 {w : World} {g : Nat} {x0 x1 x2 x3 x4 x5 x6 x7 x8 x9 : Value} (h : ∀ j, w.cell? ⟨g, j, none⟩ = (#[x0, x1, x2, x3, x4, x5, x6, x7, x8, x9] : Array Value)[j]?) : w.cell? ⟨g, 0, none⟩ = some x0 ∧ w.cell? ⟨g, 1, none⟩ = some x1 ∧ w.cell? ⟨g, 2, none⟩ = some x2 ∧ w.cell? ⟨g, 3, none⟩ = some x3 ∧ w.cell? ⟨g, 4, none⟩ = some x4 ∧ w.cell? ⟨g, 5, none⟩ = some x5 ∧ w.cell? ⟨g, 6, none⟩ = some x6 ∧ w.cell? ⟨g, 7, none⟩ = some x7 ∧ w.cell? ⟨g, 8, none⟩ = some x8 ∧ w.cell? ⟨g, 9, none⟩ = some x9 := ⟨h 0, h 1, h 2, h 3, h 4, h 5, h 6, h 7, h 8, h 9⟩
end Go.Proofs.YtkjaaknlhmneoacDoor
namespace Go.Proofs.YtkjaaknlhmneoacDoor
open Go.RowKit Go.Lib
open Num
set_option linter.unusedVariables false
set_option linter.unusedSimpArgs false
set_option maxRecDepth 20000

/-- a field as it lies in the bytes -/
def fldV (l : List Nat) (f : Nat) : Nat := bval ((l.drop (plc f)).take (wid f))
/-- the first fields, read -/
def rdF (l : List Nat) (f : Nat) : List Nat := (List.range f).map (fldV l) ++ List.replicate (10 - f) 0
theorem rdF_len (l : List Nat) {f : Nat} (hf : f ≤ 10) : (rdF l f).length = 10 := by simp [rdF]; omega
theorem rdF_at (l : List Nat) {f : Nat} (hf : f < 10) : (rdF l f).getD f 0 = 0 := by
  unfold rdF
  rw [List.getD, List.getElem?_append_right (by simp)]
  simp [List.getElem?_replicate, show 0 < 10 - f by omega]
theorem rdF_set (l : List Nat) {f : Nat} (hf : f < 10) : (rdF l f).set f (fldV l f) = rdF l (f + 1) := by
  unfold rdF
  rw [List.set_append_right _ _ (by simp), List.length_map, List.length_range, Nat.sub_self, List.range_succ, List.map_append, List.append_assoc]
  congr 1
  rw [show 10 - f = (10 - (f + 1)) + 1 by omega, List.replicate_succ]
  rfl
theorem rdF_all (l : List Nat) : rdF l 10 = [fldV l 0, fldV l 1, fldV l 2, fldV l 3, fldV l 4, fldV l 5, fldV l 6, fldV l 7, fldV l 8, fldV l 9] := rfl
theorem fldV_lt {l : List Nat} (hb : ∀ b ∈ l, b < 256) (hl : 68 ≤ l.length) {f : Nat} (hf : f < 10) : fldV l f < 256 ^ wid f := by
  refine bval_lt (wid f) _ ?_ fun b h => hb b (List.mem_of_mem_drop (List.mem_of_mem_take h))
  have := plc_wid hf
  rw [List.length_take, List.length_drop]
  omega
theorem part_fld {l : List Nat} {m k n : Nat} (h : 8 + k + n ≤ m) : (((l.take m).drop 8).drop k).take n = (l.drop (8 + k)).take n := by
  rw [List.drop_drop, List.drop_take, List.take_take]
  congr 1
  omega
/-- what the fields say is what Unseal reads -/
theorem body_fld (l : List Nat) {m : Nat} (hm : 68 ≤ m) : body l m = ⟨fldV l 0, (fldV l 1 : Nat), (fldV l 2 : Nat), (fldV l 3 : Nat), fldV l 5, fldV l 6, fldV l 7, fldV l 8, fldV l 9, (fldV l 4 : Nat)⟩ := by
  unfold body decF
  have e0 : ((l.take m).drop 8).take 8 = (l.drop 8).take 8 := by have := part_fld (l := l) (m := m) (k := 0) (n := 8) (by omega); simpa using this
  rw [e0, part_fld (by omega), part_fld (by omega), part_fld (by omega), part_fld (by omega), part_fld (by omega), part_fld (by omega), part_fld (by omega), part_fld (by omega), part_fld (by omega)]
  rfl
theorem bval_take {l : List Nat} {P i : Nat} (h : P + i < l.length) : bval ((l.drop P).take (i + 1)) = bval ((l.drop P).take i) * 256 + l.getD (P + i) 0 := by
  rw [List.take_add_one, List.getElem?_drop, (show l[P + i]? = some (l.getD (P + i) 0) by simp [List.getD, h])]
  exact bval_snoc _ _
end Go.Proofs.YtkjaaknlhmneoacDoor
namespace Go.Proofs.YtkjaaknlhmneoacDoor
open Go.RowKit Go.Lib
open Num
set_option linter.unusedVariables false
set_option linter.unusedSimpArgs false
set_option maxRecDepth 20000

theorem okSz_m {n : Nat} (h : okSz n = true) : ∃ m, n = m + 32 ∧ 96 ≤ m ∧ m ≤ 992 := by
  unfold okSz at h
  simp at h
  exact ⟨n - 32, by omega, by omega, by omega⟩
theorem uns_m {l : List Nat} {m : Nat} (hs : okSz l.length = true) (hm : l.length = m + 32) : uns l = if chk l m = 0 then (body l m, 0) else (sup0, chk l m) := by
  unfold uns
  rw [if_pos hs, show l.length - 32 = m by omega]
section
variable {l : List Nat} {m : Nat}
theorem uns_51 (hs : okSz l.length = true) (hm : l.length = m + 32) (h : l.take 8 ≠ lets) : uns l = (sup0, 51) := by
  have : chk l m = 51 := by unfold chk; rw [if_pos h]
  rw [uns_m hs hm, this]; rfl
theorem uns_52 (hs : okSz l.length = true) (hm : l.length = m + 32) (h : l.take 8 = lets) (h2 : shaL (l.take m) ≠ l.drop m) : uns l = (sup0, 52) := by
  have : chk l m = 52 := by unfold chk; rw [if_neg (by simpa using h), if_pos h2]
  rw [uns_m hs hm, this]; rfl
theorem uns_53 (hs : okSz l.length = true) (hm : l.length = m + 32) (h : l.take 8 = lets) (h2 : shaL (l.take m) = l.drop m) (h3 : (body l m).ok = false ∨ (body l m).size ≠ ((m + 32 : Nat) : Int)) : uns l = (sup0, 53) := by
  have : chk l m = 53 := by
    unfold chk
    rw [if_neg (by simpa using h), if_neg (by simpa using h2)]
    by_cases h4 : (body l m).ok = false
    · rw [if_pos h4]
    · rw [if_neg h4, if_pos (h3.resolve_left h4)]
  rw [uns_m hs hm, this]; rfl
theorem chk_z (h : l.take 8 = lets) (h2 : shaL (l.take m) = l.drop m) (h3 : (body l m).ok = true) (h4 : (body l m).size = ((m + 32 : Nat) : Int)) : chk l m = if ¬ (∀ x ∈ (l.take m).drop 68, x = 0) then 53 else 0 := by
  unfold chk
  rw [if_neg (by simpa using h), if_neg (by simpa using h2), if_neg (by rw [h3]; simp), if_neg (by simpa using h4)]
theorem uns_0 (hs : okSz l.length = true) (hm : l.length = m + 32) (h : l.take 8 = lets) (h2 : shaL (l.take m) = l.drop m) (h3 : (body l m).ok = true) (h4 : (body l m).size = ((m + 32 : Nat) : Int)) (h5 : l.take m = (body l m).head) : uns l = (body l m, 0) := by
  have hz : ∀ x ∈ (l.take m).drop 68, x = 0 := by
    rw [h5, Sup.head, List.drop_append_of_le_length (by rw [Sup.fld_len]; exact Nat.le_refl _), List.drop_of_length_le (by rw [Sup.fld_len]; exact Nat.le_refl _), List.nil_append]
    intro x hx
    exact (List.mem_replicate.1 hx).2
  have : chk l m = 0 := by rw [chk_z h h2 h3 h4, if_neg (by simpa using hz)]
  rw [uns_m hs hm, this]; rfl
theorem uns_e (hb : ∀ x ∈ l, x < 256) (hs : okSz l.length = true) (hm : l.length = m + 32) (h : l.take 8 = lets) (h2 : shaL (l.take m) = l.drop m) (h3 : (body l m).ok = true) (h4 : (body l m).size = ((m + 32 : Nat) : Int)) (h5 : l.take m ≠ (body l m).head) : uns l = (sup0, 53) := by
  by_cases hz : ∀ x ∈ (l.take m).drop 68, x = 0
  · exfalso
    have hc : chk l m = 0 := by rw [chk_z h h2 h3 h4, if_neg (by simpa using hz)]
    have hu : uns l = (body l m, 0) := by rw [uns_m hs hm, hc]; rfl
    obtain ⟨hok, he⟩ := uns_only hb hu
    have hl := Sup.head_len hok
    apply h5
    generalize body l m = s at *
    have hm2 : s.head.length = m := by rw [hl, h4]; omega
    rw [he, Sup.enc, ← hm2, List.take_left]
  · have : chk l m = 53 := by rw [chk_z h h2 h3 h4, if_pos hz]
    rw [uns_m hs hm, this]; rfl
end
theorem take_eq_step {l k : List Nat} {j : Nat} (hl : j < l.length) (hk : j < k.length) (h : l.take j = k.take j) (he : l.getD j 0 = k.getD j 0) : l.take (j + 1) = k.take (j + 1) := by
  rw [List.take_add_one, List.take_add_one, h]
  simp [List.getD, hl, hk] at he
  simp [hl, hk, he]
theorem take_ne {l k : List Nat} {j n : Nat} (hj : j < n) (hl : j < l.length) (hk : j < k.length) (he : l.getD j 0 ≠ k.getD j 0) (hn : k.length = n) : l.take n ≠ k := fun e => he (by
  have : (l.take n)[j]? = k[j]? := by rw [e]
  rw [List.getElem?_take, if_pos hj] at this
  simp [List.getD, this])
theorem body_wf {l : List Nat} {m : Nat} (hb : ∀ b ∈ l, b < 256) (hm : l.length = m + 32) (h1 : 96 ≤ m) : (body l m).Wf := by
  rw [body_fld l (by omega)]
  have f := fun f (hf : f < 10) => fldV_lt hb (by omega) hf
  have f0 : fldV l 0 < 256 ^ 8 := f 0 (by decide)
  have f1 : fldV l 1 < 256 ^ 4 := f 1 (by decide)
  have f2 : fldV l 2 < 256 ^ 4 := f 2 (by decide)
  have f3 : fldV l 3 < 256 ^ 4 := f 3 (by decide)
  have f4 : fldV l 4 < 256 ^ 4 := f 4 (by decide)
  have f5 : fldV l 5 < 256 ^ 8 := f 5 (by decide)
  have f6 : fldV l 6 < 256 ^ 8 := f 6 (by decide)
  have f7 : fldV l 7 < 256 ^ 8 := f 7 (by decide)
  have f8 : fldV l 8 < 256 ^ 8 := f 8 (by decide)
  have f9 : fldV l 9 < 256 ^ 4 := f 9 (by decide)
  unfold Sup.Wf
  simp only
  omega
end Go.Proofs.YtkjaaknlhmneoacDoor
namespace Go.Proofs.YtkjaaknlhmneoacDoor
open Go.RowKit Go.Lib
open Num
set_option linter.unusedVariables false
set_option linter.unusedSimpArgs false
set_option maxRecDepth 20000

theorem results_r1 {P : Program} {fn : Func} {p : Tmp} {ty : TypeId} (h : fn.results = #[.cell p ty]) (tmps : Array Value) (w : World) (g : Nat) (t : TypeId) (cs : Array Value) (fr : Nat × Nat) (d : TypeDesc)
    (hp : tmps.getD p undef = .pointer (some ⟨g, 0, none⟩)) (hg : w.heap[g]? = some (.cells cs t fr))
    (hu : P.underlying ty = some d) (hd : (match d with | .struct _ | .array _ _ => true | _ => false) = true) (hi : (P.info? ty).map (·.size) = some cs.size) :
    (results fn tmps).run P w = .ok (.agg cs) w := by
  have hp' : tmps[p]?.getD undef = .pointer (some ⟨g, 0, none⟩) := by simpa using hp
  simp [results, h, hp', asAddr, run_loadVar_row w g t ty cs fr d hg hu hd hi]
set_option maxHeartbeats 1000000 in
theorem rsuper_any (w : World) (x0 x1 x2 x3 x4 x5 x6 x7 x8 x9 : Nat) (h1 : x1 < 4294967296) (h2 : x2 < 4294967296) (h3 : x3 < 4294967296) (h4 : x4 < 4294967296) (h9 : x9 < 4294967296) :
    Calls Tryd.prog 28 #[.agg #[.int .u64 (x0 : Int), .int .u64 (x1 : Int), .int .u64 (x2 : Int), .int .u64 (x3 : Int), .int .u64 (x4 : Int), .int .u64 (x5 : Int), .int .u64 (x6 : Int), .int .u64 (x7 : Int), .int .u64 (x8 : Int), .int .u64 (x9 : Int)]] w fun e w' =>
      e = .returned (.agg #[.int .u64 (x0 : Int), .int .i64 (x1 : Int), .int .i64 (x2 : Int), .int .i64 (x3 : Int), .int .u64 (x5 : Int), .int .u64 (x6 : Int), .int .u64 (x7 : Int), .int .u64 (x8 : Int), .int .u32 (x9 : Int), .int .i64 (x4 : Int)]) ∧ Below w.heap.size w w' := by
  have e1 : IntKind.i64.wrap (x1 : Int) = (x1 : Int) := by simp [IntKind.wrap, IntKind.bits, IntKind.signed]; omega
  have e2 : IntKind.i64.wrap (x2 : Int) = (x2 : Int) := by simp [IntKind.wrap, IntKind.bits, IntKind.signed]; omega
  have e3 : IntKind.i64.wrap (x3 : Int) = (x3 : Int) := by simp [IntKind.wrap, IntKind.bits, IntKind.signed]; omega
  have e4 : IntKind.i64.wrap (x4 : Int) = (x4 : Int) := by simp [IntKind.wrap, IntKind.bits, IntKind.signed]; omega
  have e9 : IntKind.u32.wrap (x9 : Int) = (x9 : Int) := by simp [IntKind.wrap, IntKind.bits, IntKind.signed]; omega
  go_enter Tryd.func28, Tryd.ntmps28
  go_wp2_with fail
  refine bodyPost_ret (results_r1 (p := 2) rfl _ _ (w.heap.size + 1) 29 _ (0, 0) _ (by kernel_rfl) (by first | exact heap3_snd w _ _ _ | exact heap_alloc2_new _ _ _ | exact heap_two' _ _ _) Tryd.underlying29 rfl (by kernel_rfl)) rfl ⟨rfl, ?_⟩
  exact (((Below.refl _ w).alloc (Nat.le_refl _) _).alloc (by simp) _).alloc (by simp; omega) _
end Go.Proofs.YtkjaaknlhmneoacDoor
namespace Go.Proofs.YtkjaaknlhmneoacDoor
open Go.RowKit Go.Lib
open Num
set_option linter.unusedVariables false
set_option linter.unusedSimpArgs false
set_option maxRecDepth 20000

/-- a row that grows: what else was stays -/
structure GR (w wr : World) (v0 v : Value) (L : List Nat) : Prop where
  own : Own wr 0 v L
  gr : w.grownBy wr v0.ownBlock
  at' : v.ownBlock = v0.ownBlock ∨ ∃ k, v.ownBlock = some k ∧ w.heap.size ≤ k
theorem GR.alloc {w wr : World} {v0 v : Value} {L : List Nat} (h : GR w wr v0 v L) (o : Obj) : GR w (wr.alloc o) v0 v L :=
  ⟨h.own.grown rfl, ⟨h.gr.os, h.gr.tape, h.gr.output, by have := h.gr.size; rw [World.size_alloc]; omega, fun k hk hne => (heap_alloc_old wr o (Nat.lt_of_lt_of_le hk h.gr.size)).trans (h.gr.block k hk hne)⟩, h.at'⟩
theorem GR.grow {w wr w' : World} {v0 v v' : Value} {L L' : List Nat} (h : GR w wr v0 v L) (ho : Own w' 0 v' L') (hg : wr.grownBy w' v.ownBlock) (ha : v'.ownBlock = v.ownBlock ∨ v'.ownBlock = some wr.heap.size) : GR w w' v0 v' L' := by
  have hs := h.gr.size
  refine ⟨ho, ⟨hg.os.trans h.gr.os, hg.tape.trans h.gr.tape, hg.output.trans h.gr.output, Nat.le_trans hs hg.size, fun k hk hne => (hg.block k (by omega) ?_).trans (h.gr.block k hk hne)⟩, ?_⟩
  · rcases h.at' with e | ⟨j, e, hj⟩
    · rw [e]; exact hne
    · rw [e]; intro e2; injection e2 with e2; omega
  · rcases ha with e | e
    · rw [e]; exact h.at'
    · exact .inr ⟨_, e, hs⟩
theorem wpList_app4 {ops : Array Oper} {rest : List Oper} {o : Oper} {a : Act} {w wr : World} {Q : Exit → Act → World → Prop} (hgd : o.guard = none) (s x : Operand)
    (ho : o.op = .call { callee := .builtin .append, args := #[s, x], argTypes := #[22, 22] })
    (v0 v vx : Value) (l0 : List Nat) (y : Nat) (hs : a.eval s = v) (hx : a.eval x = vx) (hown : GR w wr v0 v l0) (hb : BSl wr vx [y]) (hlen : l0.length + 1 ≤ 140737488355328)
    (h : ∀ v' w', GR w w' v0 v' (l0 ++ [y]) → wpList Tryd.prog ops Q rest (a.put o.dst v') w') : wpList Tryd.prog ops Q (o :: rest) a wr := by
  obtain ⟨i0, hi, hz0, hz1, hz2⟩ := info_parts Tryd.info5
  have hb' := hb
  obtain ⟨ad, cap, rfl, hl, hm, hn, hbb, hcc⟩ := hb'
  obtain ⟨b, off, rfl, hcell⟩ := hcc (by simp)
  refine wpList_append_own_at _ hgd s x 22 ho 0 5 i0 (.int .u8 0) 1 1 Tryd.underlying22 hi hz0 hz1 hz2 rfl (by decide) v l0.length _ hs hown.own.1 ⟨b, off, none⟩ 1 cap ([y].map byteV) hx (by simp) hb.news (byteV_oneCell _) (by unfold maxLen; omega) (by omega) (Nat.zero_le _) ?_
  intro v' w1 hown' hg hiff hat
  exact h v' w1 (hown.grow ⟨by rw [List.length_append, List.map_append]; exact hown', fun z hz => (List.mem_append.1 hz).elim (hown.own.2 z) (hbb z)⟩ hg hat)
end Go.Proofs.YtkjaaknlhmneoacDoor
namespace Go.Proofs.YtkjaaknlhmneoacDoor
open Go.RowKit Go.Lib
open Num
set_option linter.unusedVariables false
set_option linter.unusedSimpArgs false
set_option maxRecDepth 20000

/-- what Seal says of any superblock: the bytes, and the error's number -/
def Sup.slb (s : Sup) : List Nat := if s.ok = true then s.enc else []
def Sup.sle (s : Sup) : Int := if s.ok = true then 0 else 53
def SlP (w : World) (s : Sup) (e : Ending) (w' : World) : Prop := ∃ v, e = .returned (.tuple #[v, .int .i64 s.sle]) ∧ Own w' w.heap.size v s.slb ∧ Below w.heap.size w w'
theorem Own.nil (w : World) (base : Nat) : Own w base (.slice none 0 0) [] := ⟨⟨rfl, .inl ⟨rfl, rfl⟩⟩, by simp⟩
theorem seal_sl (w : World) (s : Sup) (hw : s.Wf) (hT : Tabs w) : Calls Tryd.prog 16 #[s.val] w fun e w' => SlP w s e w' := by
  cases ho : s.ok with
  | false =>
    refine (seal_no w s hw ho).mono ?_
    rintro e w' ⟨rfl, hb⟩
    exact ⟨_, by rw [Sup.sle, ho]; rfl, by rw [Sup.slb, ho]; exact Own.nil _ _, hb⟩
  | true =>
    refine (seal_yes w s hw ho hT).mono ?_
    rintro e w' ⟨g, rfl, hr, hb⟩
    have hl := Sup.enc_len ⟨ho, hw⟩
    have hx := hr.own
    unfold gsl at hx
    rw [hl] at hx
    exact ⟨_, by rw [Sup.sle, ho]; rfl, by rw [Sup.slb, ho]; exact hx, hb⟩
/-- the next superblock -/
def Sup.next (s : Sup) : Sup := { s with seq := (s.seq + 1) % 18446744073709551616 }
theorem Sup.Wf.next {s : Sup} (h : s.Wf) : s.next.Wf := ⟨Nat.mod_lt _ (by decide), h.2⟩
end Go.Proofs.YtkjaaknlhmneoacDoor
namespace Go.Proofs.YtkjaaknlhmneoacDoor
open Go.RowKit Go.Lib
open Num
set_option linter.unusedVariables false
set_option linter.unusedSimpArgs false
set_option maxRecDepth 20000

theorem results_rt {P : Program} {fn : Func} {p u : Tmp} {ty : TypeId} (h : fn.results = #[.cell p ty, .tmp u]) (tmps : Array Value) (w : World) (g : Nat) (t : TypeId) (cs : Array Value) (fr : Nat × Nat) (d : TypeDesc)
    (hp : tmps.getD p undef = .pointer (some ⟨g, 0, none⟩)) (hg : w.heap[g]? = some (.cells cs t fr))
    (hu : P.underlying ty = some d) (hd : (match d with | .struct _ | .array _ _ => true | _ => false) = true) (hi : (P.info? ty).map (·.size) = some cs.size) :
    (results fn tmps).run P w = .ok (.tuple #[.agg cs, tmps.getD u undef]) w := by
  have hp' : tmps[p]?.getD undef = .pointer (some ⟨g, 0, none⟩) := by simpa using hp
  simp [results, h, hp', asAddr, run_loadVar_row w g t ty cs fr d hg hu hd hi]
/-- the document's Unseal under way: its answer's box -/
structure RU (w wr : World) : Prop where
  rs : wr.heap[w.heap.size]? = some (.cells zSup 29 (0, 0))
  bel : Below w.heap.size w wr
theorem RU.lt {w wr : World} (h : RU w wr) : w.heap.size < wr.heap.size := (Array.getElem?_eq_some_iff.1 h.rs).1
theorem RU.below {w wr y : World} (h : RU w wr) (hb : Below wr.heap.size wr y) : RU w y := ⟨(hb.block _ h.lt).trans h.rs, h.bel.trans (hb.mono h.bel.size)⟩
theorem RU.start (w : World) : RU w (w.alloc (.cells zSup 29)) := ⟨Go.heap_alloc_new _ _, (Below.refl _ _).alloc (Nat.le_refl _) _⟩
theorem RU.done {w wr : World} (h : RU w wr) (R : Array Value) : (wr.setRow w.heap.size R).heap[w.heap.size]? = some (.cells R 29 (0, 0)) ∧ Below w.heap.size w (wr.setRow w.heap.size R) := ⟨setRow_heap _ _ _ _ _ _ h.rs, below_setRow h.bel (Nat.le_refl _) _⟩
theorem below_dn (w : World) (k : Nat) : Below w.heap.size w (w.drewN k) := ⟨rfl, rfl, rfl, Nat.le_refl _, fun _ _ => rfl⟩
structure RV (w wr : World) (db : Nat) (ys : Array Value) : Prop where
  ru : RU w wr
  dr : wr.heap[db]? = some (.cells ys 58 (0, 0))
theorem RV.below {w wr y : World} {db : Nat} {ys : Array Value} (h : RV w wr db ys) (hb : Below wr.heap.size wr y) : RV w y db ys := ⟨h.ru.below hb, (hb.block _ (Array.getElem?_eq_some_iff.1 h.dr).1).trans h.dr⟩
structure RX (w wr : World) (xb : Nat) (V : List Nat) : Prop where
  ru : RU w wr
  xr : wr.heap[xb]? = some (.cells (V.map u64V).toArray 62 (0, 0))
  xg : w.heap.size < xb
theorem RX.below {w wr y : World} {xb : Nat} {V : List Nat} (h : RX w wr xb V) (hb : Below wr.heap.size wr y) : RX w y xb V := ⟨h.ru.below hb, (hb.block _ (Array.getElem?_eq_some_iff.1 h.xr).1).trans h.xr, h.xg⟩
theorem RX.set {w wr : World} {xb : Nat} {V : List Nat} (h : RX w wr xb V) (f x : Nat) : RX w (wr.setCell ⟨xb, f, none⟩ (.int .u64 (x : Int))) xb (V.set f x) := by
  have hg := h.xg
  have hne : w.heap.size ≠ xb := by omega
  have hnb : ∀ b, b < w.heap.size → b ≠ xb := fun b hb => by omega
  refine ⟨⟨(Go.heap_setCell_other _ _ _ _ hne).trans h.ru.rs, ⟨h.ru.bel.os, h.ru.bel.tape, h.ru.bel.output, by rw [World.size_setCell]; exact h.ru.bel.size, fun b hb => (Go.heap_setCell_other _ _ _ _ (hnb b hb)).trans (h.ru.bel.block b hb)⟩⟩, ?_, hg⟩
  have hs := Go.heap_setCell_same wr xb f _ 62 (.int .u64 (x : Int)) h.xr
  rw [hs, List.setIfInBounds_toArray, ← show u64V x = .int .u64 (x : Int) from rfl, ← List.map_set]
theorem RX.cell {w wr : World} {xb : Nat} {V : List Nat} (h : RX w wr xb V) {f : Nat} (hf : f < V.length) : wr.cell? ⟨xb, f, none⟩ = some (.int .u64 (V.getD f 0 : Nat)) ∧ wr.frozen? ⟨xb, f, none⟩ = false := by
  refine ⟨?_, frozen_of_row _ _ _ _ 62 h.xr⟩
  rw [cell_of_row _ _ _ _ _ _ h.xr]
  simp [List.getD, hf, u64V]
theorem set_self {V : List Nat} {f : Nat} (hf : f < V.length) (h : V.getD f 0 = 0) : V.set f 0 = V := by
  refine List.ext_getElem (by simp) fun i h1 h2 => ?_
  rw [List.getElem_set]
  split
  · rename_i e
    subst e
    simpa [List.getD, hf] using h.symm
  · rfl
theorem bval_part {l : List Nat} (hb : ∀ b ∈ l, b < 256) {P t : Nat} (ht : t ≤ 7) : bval ((l.drop P).take t) * 256 + 255 < 18446744073709551616 := by
  have h1 : bval ((l.drop P).take t) < 256 ^ ((l.drop P).take t).length := bval_lt _ _ rfl fun b h => hb b (List.mem_of_mem_drop (List.mem_of_mem_take h))
  have h2 : 256 ^ ((l.drop P).take t).length ≤ 256 ^ 7 := Nat.pow_le_pow_right (by decide) (Nat.le_trans (List.length_take_le _ _) ht)
  have h3 : (256 : Nat) ^ 7 = 72057594037927936 := by decide
  omega
structure RY (w wr : World) (sb : Nat) (R : Array Value) : Prop where
  ru : RU w wr
  sr : wr.heap[sb]? = some (.cells R 29 (0, 0))
theorem RY.below {w wr y : World} {sb : Nat} {R : Array Value} (h : RY w wr sb R) (hb : Below wr.heap.size wr y) : RY w y sb R := ⟨h.ru.below hb, (hb.block _ (Array.getElem?_eq_some_iff.1 h.sr).1).trans h.sr⟩
theorem zs2 : zSup.all (·.oneCell') = true := by simp [zSup, Value.oneCell']
theorem zs1 : (Tryd.prog.info? 29).map (·.size) = some zSup.size := by kernel_rfl
set_option maxHeartbeats 1000000 in
theorem runseal_size (w : World) (v : Value) (l : List Nat) (hv : BSl w v l) (hs : okSz l.length = false) : Calls Tryd.prog 9 #[v] w fun e w' => UnsPost w l e w' := by
  have HU : Hid (uns l = (sup0, 3)) := hide (by unfold uns; rw [if_neg (by rw [hs]; simp)])
  have HZ := hide fun x => sizes_any x l.length
  rw [hs] at HZ
  obtain ⟨a, cap, rfl, h1, h2, h3, h4, h5⟩ := hv
  unfold maxLen at h2
  clear h5 h4 h3 hs
  have HRU := hide (RU.start w)
  unfold UnsPost
  generalize l.length = n at *
  go_enter Tryd.func9, Tryd.ntmps9
  go_wp2_with (first
    | (go_at_call 24; refine (HZ.out _).mono ?_; rintro e w1 ⟨rfl, rfl⟩)
    | (refine wpList_store_row rfl 29 (.tmp 2) _ rfl w.heap.size zSup (by first | rfl | simp [Act.eval, Act.put]) (by first | rfl | simp [Act.eval, Act.put]) 29 zSup HRU.out.rs zs1 rfl rfl ?_))
  refine bodyPost_ret (results_rt (p := 2) (u := 3) rfl _ _ w.heap.size 29 zSup (0, 0) _ (by kernel_rfl) HRU.out.rs Tryd.underlying29 rfl zs1) rfl ?_
  exact ⟨by rw [HU.out]; rfl, HRU.out.bel⟩
set_option maxHeartbeats 8000000 in
theorem runseal_x (w : World) (v : Value) (l : List Nat) (hv : BSl w v l) (hs : okSz l.length = true) (hB : Tab w 0 H0) (hR : Tab w 1 Ks) : Calls Tryd.prog 9 #[v] w fun e w' => UnsPost w l e w' := by
  obtain ⟨m, hm, hm1, hm2⟩ := okSz_m hs
  have HZ := hide fun x => sizes_any x l.length
  rw [hs, hm] at HZ
  have HTB := hide hB
  have HTR := hide hR
  obtain ⟨a, cap, rfl, h1, h2, h3, h4, h5⟩ := hv
  obtain ⟨b, off, rfl, hc⟩ := h5 (by omega)
  unfold maxLen at h2
  have hlb := World.block_lt_of_cell? w _ (hc 0 (by omega))
  have hc' : ∀ i, i < m + 32 → w.cell? ⟨b, off + i, none⟩ = some (.int .u8 (l.getD i 0 : Nat)) := fun i hi => by
    have := hc i (by omega)
    rw [this]
    try simp [List.getD]
  have HC : Hid (∀ x, Below w.heap.size w x → ∀ i, i < m + 32 → x.cell? ⟨b, off + i, none⟩ = some (.int .u8 (l.getD i 0 : Nat))) := hide fun x hb i hi => by
    rw [World.cell?_of_block (hb.block b hlb)]; exact hc' i hi
  have HBl : Hid (∀ wx, Below w.heap.size w wx → BSl wx (.slice (some ⟨b, off, none⟩) m cap) (l.take m)) := hide fun wx hb => by
    have hlm : (l.take m).length = m := by rw [List.length_take]; omega
    refine ⟨_, cap, by rw [hlm], by rw [hlm]; omega, by unfold maxLen; omega, by simp, fun x hx => h4 x (List.mem_of_mem_take hx), fun _ => ⟨b, off, rfl, fun i hi => ?_⟩⟩
    rw [hlm] at hi
    rw [HC.out wx hb i (by omega)]
    simp [List.getD, hi]
  have H51 := hide fun h => uns_51 (l := l) (m := m) hs hm h
  have H52 := hide fun h g => uns_52 (l := l) (m := m) hs hm h g
  have H53 := hide fun h g i => uns_53 (l := l) (m := m) hs hm h g i
  have HUE := hide fun h g i j k => uns_e (l := l) (m := m) h4 hs hm h g i j k
  have HU0 := hide fun h g i j k => uns_0 (l := l) (m := m) hs hm h g i j k
  have HLN := hide hm
  have HBY := hide h4
  rw [hm] at h1
  clear hs h3 h4 h5 hc hc' hB hR
  have HRU := hide (RU.start w)
  unfold UnsPost
  rw [hm]
  clear hm
  go_enter Tryd.func9, Tryd.ntmps9
  go_wp2_with (first
    | (go_at_call 24; refine (HZ.out _).mono ?_; rintro e w1 ⟨rfl, rfl⟩))
  have HR0 : Hid (RU w (w.alloc (.cells #[.int .u64 0, .int .i64 0, .int .i64 0, .int .i64 0, .int .u64 0, .int .u64 0, .int .u64 0, .int .u64 0, .int .u32 0, .int .i64 0] 29))) := hide HRU.out
  clear HRU HZ
  generalize w.alloc (.cells #[.int .u64 0, .int .i64 0, .int .i64 0, .int .i64 0, .int .u64 0, .int .u64 0, .int .u64 0, .int .u64 0, .int .u32 0, .int .i64 0] 29) = w0 at *
  go_loopw [6] (fun i wr => ∃ j : Nat, j ≤ 8 ∧ i = .int .i64 (j : Int) ∧ RU w wr ∧ l.take j = lets.take j) (fun i _ => 8 - (intOf i).toNat)
  case atStart => exact ⟨0, Nat.zero_le _, rfl, HR0.out, by simp⟩
  case round =>
    clear HR0
    obtain ⟨j, hj, rfl, hRW, htk⟩ := hrel
    have HRW := hide hRW
    have HTK := hide htk
    clear hRW htk
    rcases (show j = 8 ∨ j = 0 ∨ j = 1 ∨ j = 2 ∨ j = 3 ∨ j = 4 ∨ j = 5 ∨ j = 6 ∨ j = 7 by omega) with rfl | rfl | rfl | rfl | rfl | rfl | rfl | rfl | rfl
    · skip
      rw [show ((8 : Nat) : Int) = 8 from rfl]
      have H8 : Hid (l.take 8 = lets) := hide HTK.out
      clear H51 HTK
      have HSU : Hid (∀ x, RU w x → Calls Tryd.prog 25 #[.slice (some ⟨b, off, none⟩) m cap] x fun e w' => e = .returned (.agg ((shaL (l.take m)).map byteV).toArray) ∧ Below x.heap.size x w') := hide fun x hx => refSum_any _ (l.take m) x (HBl.out x hx.bel) (by rw [List.length_take]; omega) (HTB.out.below hx.bel) (HTR.out.below hx.bel)
      obtain ⟨f1, f2, f3⟩ := sum_shape (l.take m)
      have HDL : Hid ((shaL (l.take m)).length = 32) := hide (shaL_len _)
      have HYS : Hid (∀ k, k < 32 → ((shaL (l.take m)).map byteV).toArray[k]? = some (.int .u8 ((shaL (l.take m)).getD k 0 : Nat))) := hide fun k hk => by
        rw [List.getElem?_toArray, map_byteV_getD (by rw [shaL_len]; exact hk)]
      generalize ((shaL (l.take m)).map byteV).toArray = ys at *
      generalize shaL (l.take m) = D at *
      go_wp2_with (first
        | (go_at_call 25; refine (HSU.out _ HRW.out).mono ?_; rintro e w3 ⟨rfl, q3⟩; have HR3 := hide (HRW.out.below q3); clear q3 HRW)
        | (refine wpList_store_row rfl 58 (.tmp 7) (.tmp 40) rfl w3.heap.size ys (by first | rfl | simp [Act.eval, Act.put]) (by first | rfl | simp [Act.eval, Act.put]) 58 zero32 (Go.heap_alloc_new w3 _) f1 f2 f3 ?_; rw [World.setRow_alloc_new]))
      have HV : Hid (RV w (w3.alloc (.cells ys 58)) w3.heap.size ys) := hide ⟨HR3.out.below ((Below.refl _ _).alloc (Nat.le_refl _) _), Go.heap_alloc_new _ _⟩
      clear HR3 HSU f1 f2 f3 HTB HTR HBl
      generalize w3.alloc (.cells ys 58) = w4 at *
      generalize w3.heap.size = db at *
      go_loopw [8] (fun i wr => ∃ k : Nat, k ≤ 32 ∧ i = .int .i64 (k : Int) ∧ RV w wr db ys ∧ ∀ q, q < k → l.getD (m + q) 0 = D.getD q 0) (fun i _ => 32 - (intOf i).toNat)
      case atStart => exact ⟨0, Nat.zero_le _, rfl, HV.out, fun q hq => by omega⟩
      case round =>
        clear HV
        obtain ⟨k, hk, rfl, hRV, hq⟩ := hrel
        have HRV := hide hRV
        have HQ := hide hq
        clear hq
        by_cases hlt : k < 32
        · have cb := HC.out _ hRV.ru.bel (m + k) (by omega)
          have cd : wr.cell? ⟨db, k, none⟩ = some (.int .u8 (D.getD k 0 : Nat)) := by rw [cell_of_row _ _ _ _ _ _ hRV.dr, HYS.out k hlt]
          clear hRV
          by_cases he : l.getD (m + k) 0 = D.getD k 0
          · have HN : Hid (∀ q, q < k + 1 → l.getD (m + q) 0 = D.getD q 0) := hide fun q hq => by
              by_cases e : q = k
              · rw [e]; exact he
              · exact HQ.out q (by omega)
            rw [he] at cb
            clear he HQ
            generalize D.getD k 0 = x at *
            go_wp2_with fail
            go_quiet (fail)
            go_wp2_with fail
            go_roundw
            case rel => exact ⟨k + 1, by omega, by go_num, HRV.out.below (below_dn _ _), HN.out⟩
            case measure => simp [intOf]; omega
          · have HU := hide (H52.out H8.out (fun e => he (by rw [e]; simp [List.getD])))
            have he2 : (((l.getD (m + k) 0 : Nat) : Int) != ((D.getD k 0 : Nat) : Int)) = true := by simpa using (show ((l.getD (m + k) 0 : Nat) : Int) ≠ ((D.getD k 0 : Nat) : Int) by omega)
            generalize D.getD k 0 = x at *
            generalize l.getD (m + k) 0 = y at *
            clear he HQ
            go_wp2_with fail
            go_quiet (fail)
            have HRZ := hide (HRV.out.ru.below (below_dn _ nq))
            go_wp2_with (refine wpList_store_row rfl 29 (.tmp 2) _ rfl w.heap.size zSup (by first | rfl | simp [Act.eval, Act.put]) (by first | rfl | simp [Act.eval, Act.put, zSup]) 29 zSup HRZ.out.rs zs1 rfl zs2 ?_)
            (try simp only [Exit.inBlock, Exit.then])
            refine bodyPost_ret (results_rt (p := 2) (u := 3) rfl _ _ w.heap.size 29 zSup (0, 0) _ (by kernel_rfl) (HRZ.out.done zSup).1 Tryd.underlying29 rfl zs1) rfl ?_
            exact ⟨by rw [HU.out]; rfl, (HRZ.out.done zSup).2⟩
        · obtain rfl : k = 32 := by omega
          have HD : Hid (D = l.drop m) := hide (List.ext_getElem (by rw [HDL.out, List.length_drop, HLN.out]; omega) fun i h1 h2 => by
            have := HQ.out i (by rw [HDL.out] at h1; exact h1)
            rw [List.getElem_drop]
            simp only [List.getD_eq_getElem?_getD] at this
            rw [List.getElem?_eq_getElem (by simp at h2; omega), List.getElem?_eq_getElem h1] at this
            simpa using this.symm)
          rw [show ((32 : Nat) : Int) = 32 from rfl]
          clear H52 HQ hRV hlt
          go_wp2_with fail
          have HX0 : Hid (RX w (wr.alloc (.cells #[.int .u64 0, .int .u64 0, .int .u64 0, .int .u64 0, .int .u64 0, .int .u64 0, .int .u64 0, .int .u64 0, .int .u64 0, .int .u64 0] 62)) wr.heap.size (rdF l 0)) := hide ⟨HRV.out.ru.below ((Below.refl _ _).alloc (Nat.le_refl _) _), Go.heap_alloc_new _ _, HRV.out.ru.lt⟩
          clear HRV
          generalize wr.alloc (.cells #[.int .u64 0, .int .u64 0, .int .u64 0, .int .u64 0, .int .u64 0, .int .u64 0, .int .u64 0, .int .u64 0, .int .u64 0, .int .u64 0] 62) = w5 at *
          generalize wr.heap.size = xb at *
          go_loopw [10] (fun i wr => ∃ f : Nat, f ≤ 10 ∧ i = .int .i64 (f : Int) ∧ RX w wr xb (rdF l f)) (fun i _ => 10 - (intOf i).toNat)
          case atStart => exact ⟨0, Nat.zero_le _, rfl, HX0.out⟩
          case round =>
            clear HX0
            obtain ⟨f, hf, rfl, hRX⟩ := hrel
            have HRX := hide hRX
            clear hRX
            by_cases hlt : f < 10
            · have HP := hide fun x => place_any x f hlt
              have HW := hide fun x => wide_any x f hlt
              have hpw := plc_wid hlt
              have HFS : Hid (∀ t, (rdF l f).set f t = ((rdF l f).set f t)) := hide fun _ => rfl
              have HST : Hid ((rdF l f).set f (bval ((l.drop (plc f)).take 0)) = rdF l f) := hide (set_self (by rw [rdF_len l hf]; exact hlt) (rdF_at l hlt))
              have HEN : Hid ((rdF l f).set f (bval ((l.drop (plc f)).take (wid f))) = rdF l (f + 1)) := hide (rdF_set l hlt)
              have HLE : Hid ((rdF l f).length = 10) := hide (rdF_len l hf)
              generalize rdF l f = V at *
              generalize wid f = n at *
              generalize plc f = P at *
              go_wp2_with (first
                | (go_at_call 26; refine (HP.out _).mono ?_; rintro e w6 ⟨rfl, rfl⟩)
                | (go_at_call 27; refine (HW.out _).mono ?_; rintro e w6 ⟨rfl, rfl⟩))
              clear HP HW
              go_loopw [13] (fun i wr => ∃ t : Nat, t ≤ n ∧ i = .int .i64 (t : Int) ∧ RX w wr xb (V.set f (bval ((l.drop P).take t)))) (fun i _ => n - (intOf i).toNat)
              case atStart => exact ⟨0, Nat.zero_le _, rfl, by rw [HST.out]; exact HRX.out⟩
              case round =>
                clear HRX
                obtain ⟨t, ht, rfl, hRX⟩ := hrel
                have HRX := hide hRX
                by_cases htn : t < n
                · obtain ⟨cx, fz⟩ := hRX.cell (f := f) (by rw [List.length_set, HLE.out]; exact hlt)
                  have cb := HC.out _ hRX.ru.bel (P + t) (by omega)
                  have hxv := bval_part HBY.out (P := P) (t := t) (by omega)
                  have HBT := hide (bval_take (l := l) (P := P) (i := t) (by rw [HLN.out]; omega))
                  have hy : l.getD (P + t) 0 < 256 := by
                    have hh : P + t < l.length := by rw [HLN.out]; omega
                    have := HBY.out (l.getD (P + t) 0) (by simp [List.getD, hh])
                    exact this
                  rw [show (V.set f (bval ((l.drop P).take t))).getD f 0 = bval ((l.drop P).take t) by simp [List.getD, show f < V.length by rw [HLE.out]; exact hlt]] at cx
                  have HSE := hide fun (x : Nat) => hRX.set f x
                  clear hRX
                  have hi1 : (0 : Int) ≤ (P : Int) + (t : Int) := by omega
                  have hi2 : (P : Int) + (t : Int) < (m : Int) + 32 := by omega
                  have hi3 : IntKind.i64.wrap ((P : Int) + (t : Int)) = (P : Int) + (t : Int) := by simp [IntKind.wrap, IntKind.bits, IntKind.signed]; omega
                  have hi4 : ((P : Int) + (t : Int)).toNat = P + t := by omega
                  generalize l.getD (P + t) 0 = y at *
                  generalize bval ((l.drop P).take t) = X at *
                  go_wp2_with fail
                  refine wp_still_tail 16 (by kernel_rfl) (by kernel_rfl) ?_
                  simp only [List.take_succ_cons, List.take_zero, List.drop_succ_cons, List.drop_zero]
                  repeat still_step
                  refine wpStill_nil ?_
                  go_wp2_with fail
                  go_roundw
                  case rel =>
                    refine ⟨t + 1, by omega, by go_num, ?_⟩
                    have h := (HSE.out (X * 256 + y)).below (below_dn _ 1)
                    rw [List.set_set, show ((X * 256 + y : Nat) : Int) = (X : Int) * 256 + (y : Int) by omega] at h
                    rw [HBT.out]
                    exact h
                  case measure => simp [intOf]; omega
                · obtain rfl : t = n := by omega
                  clear hRX
                  go_wp2_with fail
                  go_roundw
                  case rel => exact ⟨f + 1, by omega, by go_num, by rw [← HEN.out]; exact HRX.out⟩
                  case measure => simp [intOf]; omega
            · obtain rfl : f = 10 := by omega
              rw [show ((10 : Nat) : Int) = 10 from rfl]
              have HBD := hide (body_fld l (m := m) (by omega))
              have hwf := body_wf HBY.out HLN.out hm1
              rw [HBD.out] at hwf
              have b1 : fldV l 1 < 4294967296 := fldV_lt HBY.out (by rw [HLN.out]; omega) (f := 1) (by decide)
              have b2 : fldV l 2 < 4294967296 := fldV_lt HBY.out (by rw [HLN.out]; omega) (f := 2) (by decide)
              have b3 : fldV l 3 < 4294967296 := fldV_lt HBY.out (by rw [HLN.out]; omega) (f := 3) (by decide)
              have b4 : fldV l 4 < 4294967296 := fldV_lt HBY.out (by rw [HLN.out]; omega) (f := 4) (by decide)
              have b9 : fldV l 9 < 4294967296 := fldV_lt HBY.out (by rw [HLN.out]; omega) (f := 9) (by decide)
              rw [HBD.out] at H53 HUE HU0
              rw [rdF_all] at HRX
              generalize fldV l 0 = x0 at *
              generalize fldV l 1 = x1 at *
              generalize fldV l 2 = x2 at *
              generalize fldV l 3 = x3 at *
              generalize fldV l 4 = x4 at *
              generalize fldV l 5 = x5 at *
              generalize fldV l 6 = x6 at *
              generalize fldV l 7 = x7 at *
              generalize fldV l 8 = x8 at *
              generalize fldV l 9 = x9 at *
              clear HBD
              have HSUP := hide fun u => rsuper_any u x0 x1 x2 x3 x4 x5 x6 x7 x8 x9 b1 b2 b3 b4 b9
              have HFIT := hide fun u => fit_any u ⟨x0, (x1 : Nat), (x2 : Nat), (x3 : Nat), x5, x6, x7, x8, x9, (x4 : Nat)⟩ hwf
              unfold Sup.val Sup.row at HFIT
              simp only at HFIT
              obtain ⟨c0, c1, c2, c3, c4, c5, c6, c7, c8, c9⟩ := cells10 (w := wr) (g := xb) (x0 := .int .u64 (x0 : Int)) (x1 := .int .u64 (x1 : Int)) (x2 := .int .u64 (x2 : Int)) (x3 := .int .u64 (x3 : Int)) (x4 := .int .u64 (x4 : Int)) (x5 := .int .u64 (x5 : Int)) (x6 := .int .u64 (x6 : Int)) (x7 := .int .u64 (x7 : Int)) (x8 := .int .u64 (x8 : Int)) (x9 := .int .u64 (x9 : Int)) (fun j => by rw [cell_of_row _ _ _ _ _ _ HRX.out.xr]; rfl)
              have HRW := hide HRX.out.ru
              clear HRX
              go_wp2_with (first
                | (go_at_call 28; refine (HSUP.out _).mono ?_; rintro e w6 ⟨rfl, q6⟩; have HR6 := hide (HRW.out.below q6); clear q6 HRW HSUP c0 c1 c2 c3 c4 c5 c6 c7 c8 c9))
              have HY6 : Hid (RY w (w6.alloc (.cells #[.int .u64 (x0 : Int), .int .i64 (x1 : Int), .int .i64 (x2 : Int), .int .i64 (x3 : Int), .int .u64 (x5 : Int), .int .u64 (x6 : Int), .int .u64 (x7 : Int), .int .u64 (x8 : Int), .int .u32 (x9 : Int), .int .i64 (x4 : Int)] 29)) w6.heap.size #[.int .u64 (x0 : Int), .int .i64 (x1 : Int), .int .i64 (x2 : Int), .int .i64 (x3 : Int), .int .u64 (x5 : Int), .int .u64 (x6 : Int), .int .u64 (x7 : Int), .int .u64 (x8 : Int), .int .u32 (x9 : Int), .int .i64 (x4 : Int)]) := hide ⟨HR6.out.below ((Below.refl _ _).alloc (Nat.le_refl _) _), Go.heap_alloc_new _ _⟩
              clear HR6
              generalize w6.alloc (.cells #[.int .u64 (x0 : Int), .int .i64 (x1 : Int), .int .i64 (x2 : Int), .int .i64 (x3 : Int), .int .u64 (x5 : Int), .int .u64 (x6 : Int), .int .u64 (x7 : Int), .int .u64 (x8 : Int), .int .u32 (x9 : Int), .int .i64 (x4 : Int)] 29) = w7 at *
              generalize w6.heap.size = sb at *
              cases hok : Sup.ok ⟨x0, (x1 : Nat), (x2 : Nat), (x3 : Nat), x5, x6, x7, x8, x9, (x4 : Nat)⟩ with
              | false =>
                have HU := hide (H53.out H8.out HD.out (.inl hok))
                rw [hok] at HFIT
                clear hok H53 HUE HU0
                go_wp2_with (first
                  | (go_at_call 29; refine (HFIT.out _).mono ?_; rintro e w8 ⟨rfl, q8⟩; have HY8 := hide (HY6.out.below q8); have HRZ := hide HY8.out.ru; obtain ⟨c0, c1, c2, c3, c4, c5, c6, c7, c8, c9⟩ := cells10 (w := w8) (g := sb) (x0 := .int .u64 (x0 : Int)) (x1 := .int .i64 (x1 : Int)) (x2 := .int .i64 (x2 : Int)) (x3 := .int .i64 (x3 : Int)) (x4 := .int .u64 (x5 : Int)) (x5 := .int .u64 (x6 : Int)) (x6 := .int .u64 (x7 : Int)) (x7 := .int .u64 (x8 : Int)) (x8 := .int .u32 (x9 : Int)) (x9 := .int .i64 (x4 : Int)) (fun j => by rw [cell_of_row _ _ _ _ _ _ HY8.out.sr]); clear q8 HY6 HFIT)
                  | (refine wpList_store_row rfl 29 (.tmp 2) _ rfl w.heap.size zSup (by first | rfl | simp [Act.eval, Act.put]) (by first | rfl | simp [Act.eval, Act.put, zSup]) 29 zSup HRZ.out.rs zs1 rfl zs2 ?_))
                (try simp only [Exit.inBlock, Exit.then])
                refine bodyPost_ret (results_rt (p := 2) (u := 3) rfl _ _ w.heap.size 29 zSup (0, 0) _ (by kernel_rfl) (HRZ.out.done zSup).1 Tryd.underlying29 rfl zs1) rfl ?_
                exact ⟨by rw [HU.out]; rfl, (HRZ.out.done zSup).2⟩
              | true =>
                rw [hok] at HFIT
                by_cases hsz : x2 = m + 32
                · have hsq : (((x2 : Nat) : Int) != (m : Int) + 32) = false := by simpa using (show ((x2 : Nat) : Int) = (m : Int) + 32 by omega)
                  have HOK : Hid (Sup.Ok (⟨x0, (x1 : Nat), (x2 : Nat), (x3 : Nat), x5, x6, x7, x8, x9, (x4 : Nat)⟩ : Sup)) := hide ⟨hok, hwf⟩
                  have HHD := hide fun u => rhead_x u (⟨x0, (x1 : Nat), (x2 : Nat), (x3 : Nat), x5, x6, x7, x8, x9, (x4 : Nat)⟩ : Sup) HOK.out m (by show (((x2 : Nat) : Int)).toNat = _; omega) (by omega) (by omega)
                  unfold Sup.val Sup.row at HHD
                  simp only at HHD
                  rw [show ((m + 32 : Nat) : Int) = (m : Int) + 32 by omega] at HHD
                  have HUE2 := hide fun h => HUE.out H8.out HD.out hok (by show ((x2 : Nat) : Int) = _; omega) h
                  have HU2 := hide fun h => HU0.out H8.out HD.out hok (by show ((x2 : Nat) : Int) = _; omega) h
                  have HHL : Hid ((⟨x0, (x1 : Nat), (x2 : Nat), (x3 : Nat), x5, x6, x7, x8, x9, (x4 : Nat)⟩ : Sup).head.length = m) := hide (by rw [Sup.head_len HOK.out]; show (((x2 : Nat) : Int)).toNat - 32 = _; omega)
                  clear hok hsz H53 HUE HU0
                  generalize (⟨x0, (x1 : Nat), (x2 : Nat), (x3 : Nat), x5, x6, x7, x8, x9, (x4 : Nat)⟩ : Sup).head = H at *
                  go_wp2_with (first
                    | (go_at_call 29; refine (HFIT.out _).mono ?_; rintro e w8 ⟨rfl, q8⟩; have HY8 := hide (HY6.out.below q8); obtain ⟨c0, c1, c2, c3, c4, c5, c6, c7, c8, c9⟩ := cells10 (w := w8) (g := sb) (x0 := .int .u64 (x0 : Int)) (x1 := .int .i64 (x1 : Int)) (x2 := .int .i64 (x2 : Int)) (x3 := .int .i64 (x3 : Int)) (x4 := .int .u64 (x5 : Int)) (x5 := .int .u64 (x6 : Int)) (x6 := .int .u64 (x7 : Int)) (x7 := .int .u64 (x8 : Int)) (x8 := .int .u32 (x9 : Int)) (x9 := .int .i64 (x4 : Int)) (fun j => by rw [cell_of_row _ _ _ _ _ _ HY8.out.sr]); clear q8 HY6 HFIT)
                    | (go_at_call 30; refine (HHD.out _).mono ?_; rintro e w9 ⟨g, rfl, r9, q9⟩; have HY9 := hide (HY8.out.below q9); have HRM := hide r9; clear q9 r9 HY8 HHD c0 c1 c2 c3 c4 c5 c6 c7 c8 c9; unfold gsl))
                  have HC9 : Hid (∀ k, k < m → w9.cell? ⟨g, k, none⟩ = some (.int .u8 (H.getD k 0 : Nat))) := hide fun k hk => by
                    have ho := HRM.out.own.1
                    have := World.ownsRow.cellAt (by unfold gsl at ho; exact ho) k (by rw [HHL.out]; omega)
                    rw [this, map_byteV_getD (by rw [HHL.out]; exact hk)]
                  have HGL : Hid (g < w9.heap.size) := hide (World.block_lt_of_cell? w9 _ (HC9.out 0 (by omega)))
                  clear HRM
                  go_loopw [16] (fun i wr => ∃ k : Nat, k ≤ m ∧ i = .int .i64 (k : Int) ∧ RY w wr sb #[.int .u64 (x0 : Int), .int .i64 (x1 : Int), .int .i64 (x2 : Int), .int .i64 (x3 : Int), .int .u64 (x5 : Int), .int .u64 (x6 : Int), .int .u64 (x7 : Int), .int .u64 (x8 : Int), .int .u32 (x9 : Int), .int .i64 (x4 : Int)] ∧ Below w9.heap.size w9 wr ∧ ∀ q, q < k → H.getD q 0 = l.getD q 0) (fun i _ => m - (intOf i).toNat)
                  case atStart => exact ⟨0, Nat.zero_le _, rfl, HY9.out, Below.refl _ _, fun q hq => by omega⟩
                  case round =>
                    clear HY9
                    obtain ⟨k, hk, rfl, hY, hbw, hq⟩ := hrel
                    have HY := hide hY
                    have HBW := hide hbw
                    have HQ := hide hq
                    clear hq
                    by_cases hlt : k < m
                    · have cb := HC.out _ hY.ru.bel k (by omega)
                      have ch : wr.cell? ⟨g, k, none⟩ = some (.int .u8 (H.getD k 0 : Nat)) := by
                        rw [World.cell?_of_block (hbw.block g HGL.out)]; exact HC9.out k hlt
                      clear hY hbw
                      by_cases he : H.getD k 0 = l.getD k 0
                      · have HN : Hid (∀ q, q < k + 1 → H.getD q 0 = l.getD q 0) := hide fun q hq => by
                          by_cases e : q = k
                          · rw [e]; exact he
                          · exact HQ.out q (by omega)
                        rw [he] at ch
                        clear he HQ
                        generalize l.getD k 0 = x at *
                        go_wp2_with fail
                        go_quiet (fail)
                        go_wp2_with fail
                        go_roundw
                        case rel => exact ⟨k + 1, by omega, by go_num, HY.out.below (below_dn _ _), HBW.out.trans ((below_dn wr _).mono HBW.out.size), HN.out⟩
                        case measure => simp [intOf]; omega
                      · have HU := hide (HUE2.out (fun e => he (by rw [← e]; simp [List.getD, hlt])))
                        have he2 : (((H.getD k 0 : Nat) : Int) != ((l.getD k 0 : Nat) : Int)) = true := by simpa using (show ((H.getD k 0 : Nat) : Int) ≠ ((l.getD k 0 : Nat) : Int) by omega)
                        generalize l.getD k 0 = x at *
                        generalize H.getD k 0 = y at *
                        clear he HQ
                        go_wp2_with fail
                        go_quiet (fail)
                        have HRZ := hide (HY.out.ru.below (below_dn _ nq))
                        go_wp2_with (refine wpList_store_row rfl 29 (.tmp 2) _ rfl w.heap.size zSup (by first | rfl | simp [Act.eval, Act.put]) (by first | rfl | simp [Act.eval, Act.put, zSup]) 29 zSup HRZ.out.rs zs1 rfl zs2 ?_)
                        (try simp only [Exit.inBlock, Exit.then])
                        refine bodyPost_ret (results_rt (p := 2) (u := 3) rfl _ _ w.heap.size 29 zSup (0, 0) _ (by kernel_rfl) (HRZ.out.done zSup).1 Tryd.underlying29 rfl zs1) rfl ?_
                        exact ⟨by rw [HU.out]; rfl, (HRZ.out.done zSup).2⟩
                    · obtain rfl : k = m := by omega
                      have HU := hide (HU2.out (List.ext_getElem (by rw [List.length_take, HLN.out, HHL.out]; omega) fun i h1 h2 => by
                        have := HQ.out i (by rw [HHL.out] at h2; exact h2)
                        rw [List.getElem_take]
                        simp only [List.getD_eq_getElem?_getD] at this
                        rw [List.getElem?_eq_getElem h2, List.getElem?_eq_getElem (by simp at h1; omega)] at this
                        simpa using this.symm))
                      obtain ⟨c0, c1, c2, c3, c4, c5, c6, c7, c8, c9⟩ := cells10 (w := wr) (g := sb) (x0 := .int .u64 (x0 : Int)) (x1 := .int .i64 (x1 : Int)) (x2 := .int .i64 (x2 : Int)) (x3 := .int .i64 (x3 : Int)) (x4 := .int .u64 (x5 : Int)) (x5 := .int .u64 (x6 : Int)) (x6 := .int .u64 (x7 : Int)) (x7 := .int .u64 (x8 : Int)) (x8 := .int .u32 (x9 : Int)) (x9 := .int .i64 (x4 : Int)) (fun j => by rw [cell_of_row _ _ _ _ _ _ hY.sr])
                      have HRZ := hide hY.ru
                      have zr1 : (Tryd.prog.info? 29).map (·.size) = some (#[.int .u64 (x0 : Int), .int .i64 (x1 : Int), .int .i64 (x2 : Int), .int .i64 (x3 : Int), .int .u64 (x5 : Int), .int .u64 (x6 : Int), .int .u64 (x7 : Int), .int .u64 (x8 : Int), .int .u32 (x9 : Int), .int .i64 (x4 : Int)] : Array Value).size := by kernel_rfl
                      have zr2 : (#[.int .u64 (x0 : Int), .int .i64 (x1 : Int), .int .i64 (x2 : Int), .int .i64 (x3 : Int), .int .u64 (x5 : Int), .int .u64 (x6 : Int), .int .u64 (x7 : Int), .int .u64 (x8 : Int), .int .u32 (x9 : Int), .int .i64 (x4 : Int)] : Array Value).all (·.oneCell') = true := by simp [Value.oneCell']
                      clear hY hbw HQ HUE2 HU2
                      go_wp2_with (refine wpList_store_row rfl 29 (.tmp 2) _ rfl w.heap.size #[.int .u64 (x0 : Int), .int .i64 (x1 : Int), .int .i64 (x2 : Int), .int .i64 (x3 : Int), .int .u64 (x5 : Int), .int .u64 (x6 : Int), .int .u64 (x7 : Int), .int .u64 (x8 : Int), .int .u32 (x9 : Int), .int .i64 (x4 : Int)] (by first | rfl | simp [Act.eval, Act.put]) (by first | rfl | simp [Act.eval, Act.put]) 29 zSup HRZ.out.rs zr1 rfl zr2 ?_)
                      (try simp only [Exit.inBlock, Exit.then])
                      refine bodyPost_ret (results_rt (p := 2) (u := 3) rfl _ _ w.heap.size 29 #[.int .u64 (x0 : Int), .int .i64 (x1 : Int), .int .i64 (x2 : Int), .int .i64 (x3 : Int), .int .u64 (x5 : Int), .int .u64 (x6 : Int), .int .u64 (x7 : Int), .int .u64 (x8 : Int), .int .u32 (x9 : Int), .int .i64 (x4 : Int)] (0, 0) _ (by kernel_rfl) (HRZ.out.done _).1 Tryd.underlying29 rfl zr1) rfl ?_
                      exact ⟨by rw [HU.out]; rfl, (HRZ.out.done _).2⟩
                · have hsq : (((x2 : Nat) : Int) != (m : Int) + 32) = true := by simpa using (show ¬ ((x2 : Nat) : Int) = (m : Int) + 32 by omega)
                  have HU := hide (H53.out H8.out HD.out (.inr (show ((x2 : Nat) : Int) ≠ _ by omega)))
                  clear hok hsz H53 HUE HU0
                  go_wp2_with (first
                    | (go_at_call 29; refine (HFIT.out _).mono ?_; rintro e w8 ⟨rfl, q8⟩; have HY8 := hide (HY6.out.below q8); have HRZ := hide HY8.out.ru; obtain ⟨c0, c1, c2, c3, c4, c5, c6, c7, c8, c9⟩ := cells10 (w := w8) (g := sb) (x0 := .int .u64 (x0 : Int)) (x1 := .int .i64 (x1 : Int)) (x2 := .int .i64 (x2 : Int)) (x3 := .int .i64 (x3 : Int)) (x4 := .int .u64 (x5 : Int)) (x5 := .int .u64 (x6 : Int)) (x6 := .int .u64 (x7 : Int)) (x7 := .int .u64 (x8 : Int)) (x8 := .int .u32 (x9 : Int)) (x9 := .int .i64 (x4 : Int)) (fun j => by rw [cell_of_row _ _ _ _ _ _ HY8.out.sr]); clear q8 HY6 HFIT)
                    | (refine wpList_store_row rfl 29 (.tmp 2) _ rfl w.heap.size zSup (by first | rfl | simp [Act.eval, Act.put]) (by first | rfl | simp [Act.eval, Act.put, zSup]) 29 zSup HRZ.out.rs zs1 rfl zs2 ?_))
                  (try simp only [Exit.inBlock, Exit.then])
                  refine bodyPost_ret (results_rt (p := 2) (u := 3) rfl _ _ w.heap.size 29 zSup (0, 0) _ (by kernel_rfl) (HRZ.out.done zSup).1 Tryd.underlying29 rfl zs1) rfl ?_
                  exact ⟨by rw [HU.out]; rfl, (HRZ.out.done zSup).2⟩
    · have c := HC.out _ HRW.out.bel 0 (by omega)
      try rw [Nat.add_zero] at c
      by_cases he : l.getD 0 0 = 82
      · have HN := hide (take_eq_step (l := l) (k := lets) (j := 0) (by rw [HLN.out]; omega) (by decide) HTK.out he)
        rw [he] at c
        clear he HTK
        go_wp2_with fail
        go_quiet (fail)
        go_wp2_with fail
        go_roundw
        case rel => exact ⟨1, by omega, by go_num, HRW.out.below (below_dn _ _), HN.out⟩
        case measure => simp [intOf]
      · have HU := hide (H51.out (take_ne (l := l) (k := lets) (j := 0) (n := 8) (by decide) (by rw [HLN.out]; omega) (by decide) he rfl))
        have he2 : (((l.getD 0 0 : Nat) : Int) != 82) = true := by simpa using (show ((l.getD 0 0 : Nat) : Int) ≠ 82 by omega)
        have he3 : (((l.getD 0 0 : Nat) : Int) != ((((({ data := #[82, 69, 80, 76, 73, 67, 65, 49] } : ByteArray)[0]'(by decide)).toNat) : Nat) : Int)) = true := he2
        generalize l.getD 0 0 = x at *
        clear he HTK
        go_wp2_with fail
        go_quiet (fail)
        have HRZ := hide (HRW.out.below (below_dn _ nq))
        go_wp2_with (refine wpList_store_row rfl 29 (.tmp 2) _ rfl w.heap.size zSup (by first | rfl | simp [Act.eval, Act.put]) (by first | rfl | simp [Act.eval, Act.put, zSup]) 29 zSup HRZ.out.rs zs1 rfl zs2 ?_)
        (try simp only [Exit.inBlock, Exit.then])
        refine bodyPost_ret (results_rt (p := 2) (u := 3) rfl _ _ w.heap.size 29 zSup (0, 0) _ (by kernel_rfl) (HRZ.out.done zSup).1 Tryd.underlying29 rfl zs1) rfl ?_
        exact ⟨by rw [HU.out]; rfl, (HRZ.out.done zSup).2⟩
    · have c := HC.out _ HRW.out.bel 1 (by omega)
      try rw [Nat.add_zero] at c
      by_cases he : l.getD 1 0 = 69
      · have HN := hide (take_eq_step (l := l) (k := lets) (j := 1) (by rw [HLN.out]; omega) (by decide) HTK.out he)
        rw [he] at c
        clear he HTK
        go_wp2_with fail
        go_quiet (fail)
        go_wp2_with fail
        go_roundw
        case rel => exact ⟨2, by omega, by go_num, HRW.out.below (below_dn _ _), HN.out⟩
        case measure => simp [intOf]
      · have HU := hide (H51.out (take_ne (l := l) (k := lets) (j := 1) (n := 8) (by decide) (by rw [HLN.out]; omega) (by decide) he rfl))
        have he2 : (((l.getD 1 0 : Nat) : Int) != 69) = true := by simpa using (show ((l.getD 1 0 : Nat) : Int) ≠ 69 by omega)
        have he3 : (((l.getD 1 0 : Nat) : Int) != ((((({ data := #[82, 69, 80, 76, 73, 67, 65, 49] } : ByteArray)[1]'(by decide)).toNat) : Nat) : Int)) = true := he2
        generalize l.getD 1 0 = x at *
        clear he HTK
        go_wp2_with fail
        go_quiet (fail)
        have HRZ := hide (HRW.out.below (below_dn _ nq))
        go_wp2_with (refine wpList_store_row rfl 29 (.tmp 2) _ rfl w.heap.size zSup (by first | rfl | simp [Act.eval, Act.put]) (by first | rfl | simp [Act.eval, Act.put, zSup]) 29 zSup HRZ.out.rs zs1 rfl zs2 ?_)
        (try simp only [Exit.inBlock, Exit.then])
        refine bodyPost_ret (results_rt (p := 2) (u := 3) rfl _ _ w.heap.size 29 zSup (0, 0) _ (by kernel_rfl) (HRZ.out.done zSup).1 Tryd.underlying29 rfl zs1) rfl ?_
        exact ⟨by rw [HU.out]; rfl, (HRZ.out.done zSup).2⟩
    · have c := HC.out _ HRW.out.bel 2 (by omega)
      try rw [Nat.add_zero] at c
      by_cases he : l.getD 2 0 = 80
      · have HN := hide (take_eq_step (l := l) (k := lets) (j := 2) (by rw [HLN.out]; omega) (by decide) HTK.out he)
        rw [he] at c
        clear he HTK
        go_wp2_with fail
        go_quiet (fail)
        go_wp2_with fail
        go_roundw
        case rel => exact ⟨3, by omega, by go_num, HRW.out.below (below_dn _ _), HN.out⟩
        case measure => simp [intOf]
      · have HU := hide (H51.out (take_ne (l := l) (k := lets) (j := 2) (n := 8) (by decide) (by rw [HLN.out]; omega) (by decide) he rfl))
        have he2 : (((l.getD 2 0 : Nat) : Int) != 80) = true := by simpa using (show ((l.getD 2 0 : Nat) : Int) ≠ 80 by omega)
        have he3 : (((l.getD 2 0 : Nat) : Int) != ((((({ data := #[82, 69, 80, 76, 73, 67, 65, 49] } : ByteArray)[2]'(by decide)).toNat) : Nat) : Int)) = true := he2
        generalize l.getD 2 0 = x at *
        clear he HTK
        go_wp2_with fail
        go_quiet (fail)
        have HRZ := hide (HRW.out.below (below_dn _ nq))
        go_wp2_with (refine wpList_store_row rfl 29 (.tmp 2) _ rfl w.heap.size zSup (by first | rfl | simp [Act.eval, Act.put]) (by first | rfl | simp [Act.eval, Act.put, zSup]) 29 zSup HRZ.out.rs zs1 rfl zs2 ?_)
        (try simp only [Exit.inBlock, Exit.then])
        refine bodyPost_ret (results_rt (p := 2) (u := 3) rfl _ _ w.heap.size 29 zSup (0, 0) _ (by kernel_rfl) (HRZ.out.done zSup).1 Tryd.underlying29 rfl zs1) rfl ?_
        exact ⟨by rw [HU.out]; rfl, (HRZ.out.done zSup).2⟩
    · have c := HC.out _ HRW.out.bel 3 (by omega)
      try rw [Nat.add_zero] at c
      by_cases he : l.getD 3 0 = 76
      · have HN := hide (take_eq_step (l := l) (k := lets) (j := 3) (by rw [HLN.out]; omega) (by decide) HTK.out he)
        rw [he] at c
        clear he HTK
        go_wp2_with fail
        go_quiet (fail)
        go_wp2_with fail
        go_roundw
        case rel => exact ⟨4, by omega, by go_num, HRW.out.below (below_dn _ _), HN.out⟩
        case measure => simp [intOf]
      · have HU := hide (H51.out (take_ne (l := l) (k := lets) (j := 3) (n := 8) (by decide) (by rw [HLN.out]; omega) (by decide) he rfl))
        have he2 : (((l.getD 3 0 : Nat) : Int) != 76) = true := by simpa using (show ((l.getD 3 0 : Nat) : Int) ≠ 76 by omega)
        have he3 : (((l.getD 3 0 : Nat) : Int) != ((((({ data := #[82, 69, 80, 76, 73, 67, 65, 49] } : ByteArray)[3]'(by decide)).toNat) : Nat) : Int)) = true := he2
        generalize l.getD 3 0 = x at *
        clear he HTK
        go_wp2_with fail
        go_quiet (fail)
        have HRZ := hide (HRW.out.below (below_dn _ nq))
        go_wp2_with (refine wpList_store_row rfl 29 (.tmp 2) _ rfl w.heap.size zSup (by first | rfl | simp [Act.eval, Act.put]) (by first | rfl | simp [Act.eval, Act.put, zSup]) 29 zSup HRZ.out.rs zs1 rfl zs2 ?_)
        (try simp only [Exit.inBlock, Exit.then])
        refine bodyPost_ret (results_rt (p := 2) (u := 3) rfl _ _ w.heap.size 29 zSup (0, 0) _ (by kernel_rfl) (HRZ.out.done zSup).1 Tryd.underlying29 rfl zs1) rfl ?_
        exact ⟨by rw [HU.out]; rfl, (HRZ.out.done zSup).2⟩
    · have c := HC.out _ HRW.out.bel 4 (by omega)
      try rw [Nat.add_zero] at c
      by_cases he : l.getD 4 0 = 73
      · have HN := hide (take_eq_step (l := l) (k := lets) (j := 4) (by rw [HLN.out]; omega) (by decide) HTK.out he)
        rw [he] at c
        clear he HTK
        go_wp2_with fail
        go_quiet (fail)
        go_wp2_with fail
        go_roundw
        case rel => exact ⟨5, by omega, by go_num, HRW.out.below (below_dn _ _), HN.out⟩
        case measure => simp [intOf]
      · have HU := hide (H51.out (take_ne (l := l) (k := lets) (j := 4) (n := 8) (by decide) (by rw [HLN.out]; omega) (by decide) he rfl))
        have he2 : (((l.getD 4 0 : Nat) : Int) != 73) = true := by simpa using (show ((l.getD 4 0 : Nat) : Int) ≠ 73 by omega)
        have he3 : (((l.getD 4 0 : Nat) : Int) != ((((({ data := #[82, 69, 80, 76, 73, 67, 65, 49] } : ByteArray)[4]'(by decide)).toNat) : Nat) : Int)) = true := he2
        generalize l.getD 4 0 = x at *
        clear he HTK
        go_wp2_with fail
        go_quiet (fail)
        have HRZ := hide (HRW.out.below (below_dn _ nq))
        go_wp2_with (refine wpList_store_row rfl 29 (.tmp 2) _ rfl w.heap.size zSup (by first | rfl | simp [Act.eval, Act.put]) (by first | rfl | simp [Act.eval, Act.put, zSup]) 29 zSup HRZ.out.rs zs1 rfl zs2 ?_)
        (try simp only [Exit.inBlock, Exit.then])
        refine bodyPost_ret (results_rt (p := 2) (u := 3) rfl _ _ w.heap.size 29 zSup (0, 0) _ (by kernel_rfl) (HRZ.out.done zSup).1 Tryd.underlying29 rfl zs1) rfl ?_
        exact ⟨by rw [HU.out]; rfl, (HRZ.out.done zSup).2⟩
    · have c := HC.out _ HRW.out.bel 5 (by omega)
      try rw [Nat.add_zero] at c
      by_cases he : l.getD 5 0 = 67
      · have HN := hide (take_eq_step (l := l) (k := lets) (j := 5) (by rw [HLN.out]; omega) (by decide) HTK.out he)
        rw [he] at c
        clear he HTK
        go_wp2_with fail
        go_quiet (fail)
        go_wp2_with fail
        go_roundw
        case rel => exact ⟨6, by omega, by go_num, HRW.out.below (below_dn _ _), HN.out⟩
        case measure => simp [intOf]
      · have HU := hide (H51.out (take_ne (l := l) (k := lets) (j := 5) (n := 8) (by decide) (by rw [HLN.out]; omega) (by decide) he rfl))
        have he2 : (((l.getD 5 0 : Nat) : Int) != 67) = true := by simpa using (show ((l.getD 5 0 : Nat) : Int) ≠ 67 by omega)
        have he3 : (((l.getD 5 0 : Nat) : Int) != ((((({ data := #[82, 69, 80, 76, 73, 67, 65, 49] } : ByteArray)[5]'(by decide)).toNat) : Nat) : Int)) = true := he2
        generalize l.getD 5 0 = x at *
        clear he HTK
        go_wp2_with fail
        go_quiet (fail)
        have HRZ := hide (HRW.out.below (below_dn _ nq))
        go_wp2_with (refine wpList_store_row rfl 29 (.tmp 2) _ rfl w.heap.size zSup (by first | rfl | simp [Act.eval, Act.put]) (by first | rfl | simp [Act.eval, Act.put, zSup]) 29 zSup HRZ.out.rs zs1 rfl zs2 ?_)
        (try simp only [Exit.inBlock, Exit.then])
        refine bodyPost_ret (results_rt (p := 2) (u := 3) rfl _ _ w.heap.size 29 zSup (0, 0) _ (by kernel_rfl) (HRZ.out.done zSup).1 Tryd.underlying29 rfl zs1) rfl ?_
        exact ⟨by rw [HU.out]; rfl, (HRZ.out.done zSup).2⟩
    · have c := HC.out _ HRW.out.bel 6 (by omega)
      try rw [Nat.add_zero] at c
      by_cases he : l.getD 6 0 = 65
      · have HN := hide (take_eq_step (l := l) (k := lets) (j := 6) (by rw [HLN.out]; omega) (by decide) HTK.out he)
        rw [he] at c
        clear he HTK
        go_wp2_with fail
        go_quiet (fail)
        go_wp2_with fail
        go_roundw
        case rel => exact ⟨7, by omega, by go_num, HRW.out.below (below_dn _ _), HN.out⟩
        case measure => simp [intOf]
      · have HU := hide (H51.out (take_ne (l := l) (k := lets) (j := 6) (n := 8) (by decide) (by rw [HLN.out]; omega) (by decide) he rfl))
        have he2 : (((l.getD 6 0 : Nat) : Int) != 65) = true := by simpa using (show ((l.getD 6 0 : Nat) : Int) ≠ 65 by omega)
        have he3 : (((l.getD 6 0 : Nat) : Int) != ((((({ data := #[82, 69, 80, 76, 73, 67, 65, 49] } : ByteArray)[6]'(by decide)).toNat) : Nat) : Int)) = true := he2
        generalize l.getD 6 0 = x at *
        clear he HTK
        go_wp2_with fail
        go_quiet (fail)
        have HRZ := hide (HRW.out.below (below_dn _ nq))
        go_wp2_with (refine wpList_store_row rfl 29 (.tmp 2) _ rfl w.heap.size zSup (by first | rfl | simp [Act.eval, Act.put]) (by first | rfl | simp [Act.eval, Act.put, zSup]) 29 zSup HRZ.out.rs zs1 rfl zs2 ?_)
        (try simp only [Exit.inBlock, Exit.then])
        refine bodyPost_ret (results_rt (p := 2) (u := 3) rfl _ _ w.heap.size 29 zSup (0, 0) _ (by kernel_rfl) (HRZ.out.done zSup).1 Tryd.underlying29 rfl zs1) rfl ?_
        exact ⟨by rw [HU.out]; rfl, (HRZ.out.done zSup).2⟩
    · have c := HC.out _ HRW.out.bel 7 (by omega)
      try rw [Nat.add_zero] at c
      by_cases he : l.getD 7 0 = 49
      · have HN := hide (take_eq_step (l := l) (k := lets) (j := 7) (by rw [HLN.out]; omega) (by decide) HTK.out he)
        rw [he] at c
        clear he HTK
        go_wp2_with fail
        go_quiet (fail)
        go_wp2_with fail
        go_roundw
        case rel => exact ⟨8, by omega, by go_num, HRW.out.below (below_dn _ _), HN.out⟩
        case measure => simp [intOf]
      · have HU := hide (H51.out (take_ne (l := l) (k := lets) (j := 7) (n := 8) (by decide) (by rw [HLN.out]; omega) (by decide) he rfl))
        have he2 : (((l.getD 7 0 : Nat) : Int) != 49) = true := by simpa using (show ((l.getD 7 0 : Nat) : Int) ≠ 49 by omega)
        have he3 : (((l.getD 7 0 : Nat) : Int) != ((((({ data := #[82, 69, 80, 76, 73, 67, 65, 49] } : ByteArray)[7]'(by decide)).toNat) : Nat) : Int)) = true := he2
        generalize l.getD 7 0 = x at *
        clear he HTK
        go_wp2_with fail
        go_quiet (fail)
        have HRZ := hide (HRW.out.below (below_dn _ nq))
        go_wp2_with (refine wpList_store_row rfl 29 (.tmp 2) _ rfl w.heap.size zSup (by first | rfl | simp [Act.eval, Act.put]) (by first | rfl | simp [Act.eval, Act.put, zSup]) 29 zSup HRZ.out.rs zs1 rfl zs2 ?_)
        (try simp only [Exit.inBlock, Exit.then])
        refine bodyPost_ret (results_rt (p := 2) (u := 3) rfl _ _ w.heap.size 29 zSup (0, 0) _ (by kernel_rfl) (HRZ.out.done zSup).1 Tryd.underlying29 rfl zs1) rfl ?_
        exact ⟨by rw [HU.out]; rfl, (HRZ.out.done zSup).2⟩
end Go.Proofs.YtkjaaknlhmneoacDoor
namespace Go.Proofs.YtkjaaknlhmneoacDoor
open Go.RowKit Go.Lib
open Num
set_option linter.unusedVariables false
set_option linter.unusedSimpArgs false
set_option maxRecDepth 20000

abbrev sl (g n : Nat) : Value := .slice (some ⟨g, 0, none⟩) n n
def PieceAt (w : World) (g : Nat) (l : List Nat) : Prop := w.heap[g]? = some (.cells (l.map byteV).toArray 5 (0, 0)) ∧ (∀ b ∈ l, b < 256) ∧ l.length ≤ maxLen ∧ 0 < l.length
theorem PieceAt.below {w w' : World} {g : Nat} {l : List Nat} (h : PieceAt w g l) (hb : Below w.heap.size w w') : PieceAt w' g l := ⟨(hb.block g (Array.getElem?_eq_some_iff.1 h.1).1).trans h.1, h.2⟩
theorem size_u8h : (Tryd.prog.info? 5).map (·.size) = some 1 := by kernel_rfl
theorem getD_get {α : Type} {l : List α} {i : Nat} (d : α) (h : i < l.length) : l[i]? = some (l.getD i d) := by simp [List.getD, h]
def zeros (n : Nat) : List Nat := List.replicate n 0
theorem zeros_len (n : Nat) : (zeros n).length = n := by simp [zeros]
theorem zeros_lt (n : Nat) : ∀ b ∈ zeros n, b < 256 := by
  intro b hb
  have := List.eq_of_mem_replicate hb
  omega
theorem made_zeros (n : Nat) : madeCells (Value.int .u8 0).cells (n * 1) = ((zeros n).map byteV).toArray := by
  apply Array.ext_getElem?
  intro i
  by_cases h : i < n
  · simp [madeCells, zeros, byteV, Value.cells, h, Nat.mod_one]
  · simp [madeCells, zeros, byteV, Value.cells, h, Nat.mod_one]

/-- 'make([]byte, n)' -/
theorem wpList_zeros {ops : Array Oper} {rest : List Oper} {o : Oper} {a : Act} {w : World} {Q : Exit → Act → World → Prop} (hgd : o.guard = none) (l c : Operand) (ho : o.op = Op.makeSlice 22 l c)
    (C : Int) (n : Nat) (hl : a.eval l = .int .i64 C) (hc : a.eval c = .int .i64 C) (hC : C = (n : Int)) (hn : n ≤ 281474976710656) (Z : Array Value) (hZ : Hid (((zeros n).map byteV).toArray = Z))
    (h : wpList Tryd.prog ops Q rest (a.put o.dst (sl w.heap.size n)) (w.alloc (.cells Z 5))) : wpList Tryd.prog ops Q (o :: rest) a w := by
  obtain ⟨i0, hi, hz0, hz1, hz2⟩ := info_parts Tryd.info5
  subst hC
  refine wpList_plain hgd fun K' hK' => ?_
  have hr := run_make (P := Tryd.prog) w 22 5 i0 (.int .u8 0) Tryd.underlying22 hi hz0 .i64 .i64 (n : Int) (n : Int) (by omega) (Int.le_refl _) (by rw [hz2]; omega) (by omega)
  simp only [Int.toNat_natCast] at hr
  rw [hz1, made_zeros, hZ.out] at hr
  unfold Oper.wp
  simp only [execOp, ho, hl, hc, hr, Sem.run_bind, Result.andThen_ok, Sem.run_pure]
  exact hK' _ _ h

theorem copyStep {t : List Nat} {sz i : Nat} (hi : i < sz) (ht : i < t.length) : (((t.take i ++ zeros (sz - i)).map byteV).toArray).setIfInBounds i (.int .u8 (t.getD i 0 : Nat)) = ((t.take (i + 1) ++ zeros (sz - (i + 1))).map byteV).toArray := by
  have e1 : sz - i = (sz - (i + 1)) + 1 := by omega
  have e2 : zeros (sz - i) = 0 :: zeros (sz - (i + 1)) := by rw [e1]; rfl
  have e3 : t.take (i + 1) = t.take i ++ [t.getD i 0] := by rw [List.take_add_one, getD_get 0 ht]; rfl
  rw [e2, e3]
  simp only [List.map_append, List.map_cons, List.map_nil, List.setIfInBounds_toArray]
  congr 1
  have hl : ((t.take i).map byteV).length = i := by simp; omega
  rw [List.set_append_right _ _ (by omega), hl, Nat.sub_self, List.set_cons_zero, List.append_assoc]
  rfl
def marks : List Nat := [200, 201, 202, 203, 204, 205]
theorem marks_at {i : Nat} (h : i < 6) : marks.getD i 0 = 200 + i := by
  match i, h with
  | 0, _ => rfl
  | 1, _ => rfl
  | 2, _ => rfl
  | 3, _ => rfl
  | 4, _ => rfl
  | 5, _ => rfl
/-- what is handed in, with marks behind it, while they are laid -/
structure HInv (w wr : World) (l : List Nat) (i : Nat) : Prop where
  hi : i ≤ 6
  be : Below w.heap.size w wr
  row : wr.heap[w.heap.size]? = some (.cells ((l ++ (marks.take i ++ zeros (6 - i))).map byteV).toArray 5 (0, 0))
theorem handStep (l : List Nat) {i : Nat} (h : i < 6) : (((l ++ (marks.take i ++ zeros (6 - i))).map byteV).toArray).setIfInBounds (l.length + i) (.int .u8 ((200 + i : Nat) : Int)) = ((l ++ (marks.take (i + 1) ++ zeros (6 - (i + 1)))).map byteV).toArray := by
  have e := copyStep (t := marks) (sz := 6) (i := i) h h
  rw [marks_at h] at e
  have e2 : ((marks.take i ++ zeros (6 - i)).map byteV).set i (.int .u8 ((200 + i : Nat) : Int)) = (marks.take (i + 1) ++ zeros (6 - (i + 1))).map byteV := by
    have := congrArg Array.toList e
    simpa using this
  rw [show (l ++ (marks.take i ++ zeros (6 - i))).map byteV = l.map byteV ++ (marks.take i ++ zeros (6 - i)).map byteV from List.map_append, show (l ++ (marks.take (i + 1) ++ zeros (6 - (i + 1)))).map byteV = l.map byteV ++ (marks.take (i + 1) ++ zeros (6 - (i + 1))).map byteV from List.map_append, ← e2]
  simp only [List.setIfInBounds_toArray]
  congr 1
  have hl : (l.map byteV).length = l.length := by simp
  rw [List.set_append_right _ _ (by omega), hl, Nat.add_sub_cancel_left]
theorem wrapU8 {i : Nat} (h : i < 6) : IntKind.u8.wrap (200 + (i : Int)) = ((200 + i : Nat) : Int) := by
  simp [IntKind.wrap, IntKind.bits, IntKind.signed]; omega

theorem run_copy_zero (g n c : Nat) (a : Option Addr) (w : World) : (Builtin.copy_ #[22, 22] 3 #[sl g n, .slice a 0 c]).run Tryd.prog w = .ok (.int .i64 0) w := by
  obtain ⟨i0, hi, hz0, hz1, hz2⟩ := info_parts Tryd.info5
  cases a <;> simp [Builtin.copy_, run_underlying Tryd.underlying22, Builtin.lenOf, Builtin.firstCells, sizeOf, typeInfo, hi, hz1, loadCells, loadCellsFrom, storeCells, goInt]

set_option maxHeartbeats 1000000 in
theorem hand_any (w : World) (v : Value) (l : List Nat) (hv : BSl w v l) (hl : l.length ≤ 140737488355328) :
    Calls Tryd.prog 6 #[v] w fun e w' => e = .returned (sl w.heap.size (l.length + 6)) ∧ PieceAt w' w.heap.size (l ++ marks) ∧ Below w.heap.size w w' := by
  have HV := hide hv
  obtain ⟨Z, hZ⟩ : ∃ Z, ((zeros (l.length + 6)).map byteV).toArray = Z := ⟨_, rfl⟩
  have HZ := hide hZ
  obtain ⟨a, cap, rfl, h1, h2, h3, h4, h5⟩ := hv
  unfold maxLen at h2
  have hfin : ∀ wr, HInv w wr l 6 → PieceAt wr w.heap.size (l ++ marks) := fun wr h => by
    refine ⟨?_, fun b hb => ?_, by simp [marks]; unfold maxLen; omega, by simp [marks]⟩
    · have := h.row
      simpa [marks, zeros] using this
    · rcases List.mem_append.1 hb with h | h
      · exact h4 b h
      · simp [marks] at h
        omega
  have HFIN := hide hfin
  clear hfin
  have hbz := (Below.refl w.heap.size w).alloc (Nat.le_refl _) (.cells Z 5)
  have hzsz : Z.size = l.length + 6 := by rw [← hZ]; simp [zeros]
  have hEND : ∀ wr : World, wr.heap[w.heap.size]? = some (.cells ((l ++ zeros 6).map byteV).toArray 5 (0, 0)) → Below w.heap.size w wr → HInv w wr l 0 := fun wr hr hb => ⟨Nat.zero_le _, hb, by simpa using hr⟩
  have HEND := hide hEND
  clear hEND
  by_cases h0 : l.length = 0
  · have el : l = [] := List.eq_nil_of_length_eq_zero h0
    subst el
    have START : Hid (HInv w (w.alloc (.cells Z 5)) [] 0) := hide (HEND.out _ (by
      have e : ((([] : List Nat) ++ zeros 6).map byteV).toArray = Z := by rw [← hZ]; rfl
      rw [e]; exact Go.heap_alloc_new w _) hbz)
    have HZE : Hid ((w.alloc (.cells Z 5)).setRow w.heap.size (Z.toList.take 0 ++ (([] : List Value) ++ Z.toList.drop (0 + ([] : List Value).length))).toArray = w.alloc (.cells Z 5)) := hide (by rw [World.setRow_alloc_new]; simp)
    obtain ⟨l, hl'⟩ : ∃ l : List Nat, l = [] := ⟨_, rfl⟩
    rw [← hl'] at START HFIN ⊢
    have HL := hide hl'
    have hl0 : l.length = 0 := by rw [hl']; rfl
    clear hZ h5 hl'
    have hcp := run_copy_zero
    go_enter Tryd.func6, Tryd.ntmps6
    go_wp2_with (first
      | (at_make; refine wpList_zeros rfl _ _ rfl _ 6 rfl rfl (by simp) (by omega) Z HZ ?_))
    go_loopw [4] (fun x wr => ∃ i : Nat, x = .int .i64 (i : Int) ∧ HInv w wr l i) (fun x _ => 6 - (intOf x).toNat)
    case atStart => exact ⟨0, rfl, START.out⟩
    case round =>
      clear START
      obtain ⟨i, rfl, hI⟩ := hrel
      have HI := hide hI
      have hin := hI.hi
      clear hI
      by_cases hlt : i < 6
      · have hrow := HI.out.row
        have hcz : ∃ z, wr.cell? ⟨w.heap.size, i, none⟩ = some z := by
          rw [cell_of_row _ _ _ _ _ _ hrow]
          refine ⟨_, Array.getElem?_eq_getElem (by simp [zeros, marks]; omega)⟩
        obtain ⟨z, hcz⟩ := hcz
        have hfz : wr.frozen? ⟨w.heap.size, i, none⟩ = false := frozen_of_row _ _ _ _ 5 hrow
        have hwu := wrapU8 hlt
        have HNX : Hid (HInv w (wr.setCell ⟨w.heap.size, i, none⟩ (.int .u8 ((200 + i : Nat) : Int))) l (i + 1)) := hide
          ⟨by omega, HI.out.be.setCell (p := ⟨w.heap.size, i, none⟩) (Nat.le_refl _) _, by rw [← handStep l hlt, hl0, Nat.zero_add]; exact Go.heap_setCell_same wr w.heap.size i _ 5 _ hrow⟩
        clear hrow
        generalize ((200 + i : Nat) : Int) = mkv at *
        go_wp2
        go_roundw
        case rel => exact ⟨i + 1, by go_num, HNX.out⟩
        case measure => simp [intOf]; omega
      · have e : i = 6 := by omega
        subst e
        go_wp2
        go_ret
        exact ⟨by rw [hl0]; rfl, HFIN.out _ HI.out, HI.out.be⟩
  · obtain ⟨b, off, rfl, hc⟩ := h5 (by omega)
    have hnews := (HV.out.below hbz).news
    have hone := byteV_oneCell l
    have hlen : (l.map byteV).length = l.length := by simp
    have HROW : Hid ((w.alloc (.cells Z 5)).setRow w.heap.size (Z.toList.take 0 ++ (l.map byteV ++ Z.toList.drop (0 + (l.map byteV).length))).toArray = w.alloc (.cells ((l ++ zeros 6).map byteV).toArray 5)) := hide (by
      rw [World.setRow_alloc_new]
      congr 2
      rw [← hZ, hlen]
      simp [zeros])
    have hb0 := (Below.refl w.heap.size w).alloc (Nat.le_refl _) (.cells ((l ++ zeros 6).map byteV).toArray 5)
    have START := hide (HEND.out _ (Go.heap_alloc_new w _) hb0)
    have hmn : (l.map byteV).length = Nat.min l.length (l.length + 6) := by rw [hlen]; exact (Nat.min_eq_left (by omega)).symm
    clear hc h5 hZ
    generalize l.map byteV = X at *
    go_enter Tryd.func6, Tryd.ntmps6
    go_wp2_with (first
      | (at_make; refine wpList_zeros rfl _ _ rfl _ (l.length + 6) rfl rfl (by omega) (by omega) Z HZ ?_)
      | (refine wpList_copy_own rfl (.tmp 9) (.tmp 10) 22 22 rfl 5 Tryd.underlying22 size_u8h w.heap.size 0 (l.length + 6) (l.length + 6) _ l.length cap rfl rfl Z 5 (Go.heap_alloc_new w _) X hmn hnews (by omega) hone ?_; rw [HROW.out]))
    go_loopw [4] (fun x wr => ∃ i : Nat, x = .int .i64 (i : Int) ∧ HInv w wr l i) (fun x _ => 6 - (intOf x).toNat)
    case atStart => exact ⟨0, rfl, by have h := START.out; rw [List.map_append] at h; exact h⟩
    case round =>
      clear START
      obtain ⟨i, rfl, hI⟩ := hrel
      have HI := hide hI
      have hin := hI.hi
      clear hI
      by_cases hlt : i < 6
      · have hrow := HI.out.row
        have hcz : ∃ z, wr.cell? ⟨w.heap.size, l.length + i, none⟩ = some z := by
          rw [cell_of_row _ _ _ _ _ _ hrow]
          refine ⟨_, Array.getElem?_eq_getElem (by simp [zeros, marks]; omega)⟩
        obtain ⟨z, hcz⟩ := hcz
        have hfz : wr.frozen? ⟨w.heap.size, l.length + i, none⟩ = false := frozen_of_row _ _ _ _ 5 hrow
        have hwu := wrapU8 hlt
        have HNX : Hid (HInv w (wr.setCell ⟨w.heap.size, l.length + i, none⟩ (.int .u8 ((200 + i : Nat) : Int))) l (i + 1)) := hide
          ⟨by omega, HI.out.be.setCell (p := ⟨w.heap.size, l.length + i, none⟩) (Nat.le_refl _) _, by rw [← handStep l hlt]; exact Go.heap_setCell_same wr w.heap.size (l.length + i) _ 5 _ hrow⟩
        clear hrow
        generalize ((200 + i : Nat) : Int) = mkv at *
        go_wp2
        go_roundw
        case rel => exact ⟨i + 1, by go_num, HNX.out⟩
        case measure => simp [intOf]; omega
      · have e : i = 6 := by omega
        subst e
        go_wp2
        go_ret
        exact ⟨rfl, HFIN.out _ HI.out, HI.out.be⟩

theorem nilBytesEq (a : Option Addr) (n c : Nat) (W : World) : (binOp .eql 22 (.slice a n c) (.slice none 0 0)).run Tryd.prog W = .ok (.bool a.isNone) W := by
  have := Lib.run_eql_slice_nil (P := Tryd.prog) W 22 5 a n c 0 0 Tryd.underlying22
  exact this
/-- as much of what is handed in as was given -/
theorem arg_any {w : World} {g : Nat} {v : Value} {l : List Nat} (hv : BSl w v l) (hp : PieceAt w g (l ++ marks)) (hl : l.length ≤ 140737488355328) :
    Calls Tryd.prog 8 #[sl g (l.length + 6), v] w fun e w' => ∃ u, e = .returned u ∧ w' = w ∧ BSl w u l ∧ (∀ x, u.ownBlock = some x → x = g) := by
  have HP := hide hp
  obtain ⟨a, cap, rfl, h1, h2, h3, h4, h5⟩ := hv
  have H4 := hide h4
  unfold maxLen at h2
  have q := nilBytesEq
  clear h5
  cases a with
  | none =>
    have hl0 : l.length = 0 := by have := h3 rfl; omega
    have el : l = [] := List.eq_nil_of_length_eq_zero hl0
    clear hp h4
    go_enter Tryd.func8, Tryd.ntmps8
    go_wp2
    go_ret
    refine ⟨.slice none 0 0, rfl, rfl, ?_, fun x hx => by simp [Value.ownBlock] at hx⟩
    try rw [el]
    exact ⟨none, 0, rfl, Nat.le_refl _, by unfold maxLen; omega, fun _ => rfl, by simp, by simp⟩
  | some ad =>
    have hn6 : ¬ l.length + 6 = 0 := by omega
    clear hp h4
    go_enter Tryd.func8, Tryd.ntmps8
    go_wp2
    go_ret
    refine ⟨.slice (some ⟨g, 0, none⟩) l.length (l.length + 6), rfl, rfl, ?_, fun x hx => by simp [Value.ownBlock] at hx; exact hx.symm⟩
    refine ⟨some ⟨g, 0, none⟩, l.length + 6, rfl, by omega, by unfold maxLen; omega, by simp, H4.out, fun h0 => ⟨g, 0, rfl, fun i hi => ?_⟩⟩
    rw [cell_of_row _ _ _ _ _ _ HP.out.1, Nat.zero_add, List.getElem?_toArray, List.map_append, List.getElem?_append_left (by simpa using hi)]
    exact map_byteV_getD hi

set_option maxHeartbeats 1000000 in
theorem untouched_any {w : World} {g : Nat} {v : Value} {l : List Nat} (hv : BSl w v l) (hp : PieceAt w g (l ++ marks)) (hl : l.length ≤ 140737488355328) :
    Calls Tryd.prog 10 #[sl g (l.length + 6), v] w fun e w' => e = .returned (.bool true) ∧ Below w.heap.size w w' := by
  have HP := hide hp
  have HV := hide hv
  obtain ⟨a, cap, rfl, h1, h2, h3, h4, h5⟩ := hv
  unfold maxLen at h2
  have HB : Hid (∀ n, BSl (w.drewN n) (.slice (some ⟨g, 0, none⟩) l.length (l.length + 6)) l) := hide fun n => by
    refine ⟨some ⟨g, 0, none⟩, l.length + 6, rfl, by omega, by unfold maxLen; omega, by simp, h4, fun h0 => ⟨g, 0, rfl, fun i hi => ?_⟩⟩
    show w.cell? _ = _
    rw [cell_of_row _ _ _ _ _ _ HP.out.1, Nat.zero_add, List.getElem?_toArray, List.map_append, List.getElem?_append_left (by simpa using hi)]
    exact map_byteV_getD hi
  have HBV : Hid (∀ n, BSl (w.drewN n) (.slice a l.length cap) l) := hide fun n => HV.out
  have HC : Hid (∀ i, i < 6 → w.cell? ⟨g, l.length + i, none⟩ = some (.int .u8 ((200 + i : Nat) : Int))) := hide fun i hi => by
    rw [cell_of_row _ _ _ _ _ _ HP.out.1, List.getElem?_toArray, List.map_append, List.getElem?_append_right (by simp), List.length_map, Nat.add_sub_cancel_left]
    rw [map_byteV_getD (show i < marks.length from hi), marks_at hi]
  clear h3 h4 h5 hp
  go_enter Tryd.func10, Tryd.ntmps10
  go_wp2
  go_loopw [5] (fun x wr => ∃ i n : Nat, i ≤ 6 ∧ x = .int .i64 (i : Int) ∧ wr = w.drewN n) (fun x _ => 6 - (intOf x).toNat)
  case atStart => exact ⟨0, 0, Nat.zero_le _, rfl, rfl⟩
  case round =>
    obtain ⟨i, n, hin, rfl, rfl⟩ := hrel
    by_cases hlt : i < 6
    · have hc := HC.out i hlt
      have hwu := wrapU8 hlt
      generalize ((200 + i : Nat) : Int) = mkv at *
      go_wp2
      go_roundw
      case rel => exact ⟨i + 1, n, by omega, by go_num, rfl⟩
      case measure => simp [intOf]; omega
    · have e : i = 6 := by omega
      subst e
      have HSA := hide (same_eq (w.drewN n) _ _ l (HB.out n) (HBV.out n))
      have hn6 : ¬ l.length + 6 = 0 := by omega
      go_wp2_with (go_at_call 31; refine HSA.out.mono ?_; rintro e w' ⟨rfl, q⟩)
      go_ret
      exact ⟨rfl, ⟨q.os, q.tape, q.output, q.size, q.block⟩⟩
end Go.Proofs.YtkjaaknlhmneoacDoor
namespace Go.Proofs.YtkjaaknlhmneoacDoor
open Go.RowKit Go.Lib
open Num
set_option linter.unusedVariables false
set_option linter.unusedSimpArgs false
set_option maxRecDepth 20000

theorem runseal_any (w : World) (v : Value) (l : List Nat) (hv : BSl w v l) (hB : Tab w 0 H0) (hR : Tab w 1 Ks) : Calls Tryd.prog 9 #[v] w fun e w' => UnsPost w l e w' := by
  cases hs : okSz l.length with
  | false => exact runseal_size w v l hv hs
  | true => exact runseal_x w v l hv hs hB hR
set_option maxHeartbeats 4000000 in
theorem unseals_law (w : World) (v : Value) (l : List Nat) (hv : BSl w v l) (hl : l.length ≤ 140737488355328) (hT : Tabs w) (hB : Tab w 0 H0) (hR : Tab w 1 Ks) : Calls Tryd.prog 3 #[v] w fun e w' => e = .returned (.bool true) ∧ Below w.heap.size w w' := by
  have HV := hide hv
  have HT := hide hT
  have HTB := hide hB
  have HTR := hide hR
  have HL := hide hl
  have HHD := hide (hand_any w v l hv hl)
  have HU := hide fun (x : World) (u : Value) (hu : BSl x u l) (hx : Tabs x) => unseal_any x u l hu hx
  have HRU := hide fun (x : World) (hx : BSl x v l) h1 h2 => runseal_any x v l hx h1 h2
  unfold UnsPost at HU HRU
  obtain ⟨S, E, hSE⟩ : ∃ S E, uns l = (S, E) := ⟨_, _, rfl⟩
  rw [hSE] at HU HRU
  simp only at HU HRU
  clear hSE hT hB hR hl
  obtain ⟨q, b, z, k, g0, g1, g2, g3, f, m⟩ := S
  unfold Sup.val Sup.row at HU HRU
  simp only at HU HRU
  obtain ⟨a, cap, rfl, h1, h2, -, -, -⟩ := hv
  unfold maxLen at h2
  unfold sl at HHD
  go_enter Tryd.func3, Tryd.ntmps3
  go_wp2_with (first
    | (go_at_call 6; refine HHD.out.mono ?_; rintro e w1 ⟨rfl, p1, q1⟩; have HP1 := hide p1; have HB1 := hide q1; have HA := hide (arg_any (HV.out.below q1) p1 HL.out); unfold sl at HA; clear p1 q1 HHD)
    | (go_at_call 8; refine HA.out.mono ?_; rintro e w2 ⟨u, rfl, hw2, hu, -⟩; have hw2s := hw2.symm; clear hw2; subst hw2s; have HUU := hide hu; clear hu HA)
    | (go_at_call 7; refine (HU.out _ _ HUU.out (HT.out.below HB1.out)).mono ?_; rintro e w3 ⟨rfl, q3⟩; have HB3 := hide ((HB1.out.trans (q3.mono HB1.out.size)).alloc (Nat.le_trans HB1.out.size q3.size) (.cells #[.int .u64 (q : Int), .int .i64 b, .int .i64 z, .int .i64 k, .int .u64 (g0 : Int), .int .u64 (g1 : Int), .int .u64 (g2 : Int), .int .u64 (g3 : Int), .int .u32 (f : Int), .int .i64 m] 29)); have HP3 := hide ((HP1.out.below q3).below ((Below.refl _ _).alloc (Nat.le_refl _) (.cells #[.int .u64 (q : Int), .int .i64 b, .int .i64 z, .int .i64 k, .int .u64 (g0 : Int), .int .u64 (g1 : Int), .int .u64 (g2 : Int), .int .u64 (g3 : Int), .int .u32 (f : Int), .int .i64 m] 29))); clear q3 HU HUU HP1)
    | (go_at_call 9; refine (HRU.out _ (HV.out.below HB3.out) (HTB.out.below HB3.out) (HTR.out.below HB3.out)).mono ?_; rintro e w4 ⟨rfl, q4⟩; have hr4 : (w4.alloc (.cells #[.int .u64 (q : Int), .int .i64 b, .int .i64 z, .int .i64 k, .int .u64 (g0 : Int), .int .u64 (g1 : Int), .int .u64 (g2 : Int), .int .u64 (g3 : Int), .int .u32 (f : Int), .int .i64 m] 29)).heap[w3.heap.size]? = some (.cells #[.int .u64 (q : Int), .int .i64 b, .int .i64 z, .int .i64 k, .int .u64 (g0 : Int), .int .u64 (g1 : Int), .int .u64 (g2 : Int), .int .u64 (g3 : Int), .int .u32 (f : Int), .int .i64 m] 29 (0, 0)) := (heap_alloc_old w4 _ (by have := q4.size; simp at this; omega)).trans ((q4.block _ (by simp)).trans (Go.heap_alloc_new _ _)); obtain ⟨c0, c1, c2, c3, c4, c5, c6, c7, c8, c9⟩ := cells10 (fun j => cell_of_row _ _ j _ _ _ hr4); have HB5 := hide ((HB3.out.trans (q4.mono HB3.out.size)).alloc (Nat.le_trans HB3.out.size q4.size) (.cells #[.int .u64 (q : Int), .int .i64 b, .int .i64 z, .int .i64 k, .int .u64 (g0 : Int), .int .u64 (g1 : Int), .int .u64 (g2 : Int), .int .u64 (g3 : Int), .int .u32 (f : Int), .int .i64 m] 29)); have HP5 := hide ((HP3.out.below q4).below ((Below.refl _ _).alloc (Nat.le_refl _) (.cells #[.int .u64 (q : Int), .int .i64 b, .int .i64 z, .int .i64 k, .int .u64 (g0 : Int), .int .u64 (g1 : Int), .int .u64 (g2 : Int), .int .u64 (g3 : Int), .int .u32 (f : Int), .int .i64 m] 29))); have HUT := hide (untouched_any (HV.out.below HB5.out) HP5.out HL.out); unfold sl at HUT; clear q4 HRU hr4 HP3 HB3)
    | (go_at_call 10; refine HUT.out.mono ?_; rintro e w6 ⟨rfl, q6⟩; have HB6 := hide (HB5.out.trans (q6.mono HB5.out.size)); clear q6 HUT))
  go_ret
  exact ⟨rfl, HB6.out⟩
end Go.Proofs.YtkjaaknlhmneoacDoor
namespace Go.Proofs.YtkjaaknlhmneoacDoor
open Go.ChangeShapes Go.WideShapes Go.ChangeAt Go.RowKit
open Num
set_option linter.unusedVariables false
set_option maxRecDepth 20000

theorem own : ownKnob Tryd.prog.godebug = none := by kernel_rfl
theorem laidOut : laidOutB Tryd.prog = true := by kernel_rfl
theorem gH : Tryd.prog.globalNamed "replica/digest.firstState" = some 2 := by kernel_rfl
theorem gK : Tryd.prog.globalNamed "replica/digest.roundConstants" = some 3 := by kernel_rfl
theorem gHty : (Tryd.prog.globals[2]?).map (·.type) = some 113 := by kernel_rfl
theorem gKty : (Tryd.prog.globals[3]?).map (·.type) = some 93 := by kernel_rfl
theorem cellsS : Tryd.prog.cellsOf 113 = 8 := by kernel_rfl
theorem cellsW : Tryd.prog.cellsOf 93 = 64 := by kernel_rfl
theorem cells32 : Tryd.prog.cellsOf 27 = 1 := by kernel_rfl

def listed : List (String × DataW Unit) := [("replica/digest.firstState", Rows.laid_replica_digest_firstState), ("replica/digest.roundConstants", Rows.laid_replica_digest_roundConstants)]

theorem tab_of_is {W : World} {name : String} {g : Nat} {l : List Nat} (hg : Tryd.prog.globalNamed name = some g) (h : Lib.TabIs Tryd.prog W name .u32 (l.map fun n : Nat => (n : Int))) : Tab W g l := by
  intro i hi
  rw [h.cell hg i (by simpa using hi)]
  simp [List.getD, hi]

/-- what the rows' list gives: the two tables -/
theorem tabs_of_laid {W : World} (h : laidMetH Tryd.prog listed W) : Tabs W := by
  have h' : laidMet Tryd.prog [("replica/digest.firstState", Lib.tabData .u32 (H0.map fun n : Nat => (n : Int))), ("replica/digest.roundConstants", Lib.tabData .u32 (Ks.map fun n : Nat => (n : Int)))] W := h
  have h1 := Lib.tabIs_of_head gH gHty Tryd.underlying113 Tryd.underlying27 cells32 cellsS h'
  obtain ⟨ps, ⟨g', t', cs, fuel, p, q, hg', ht', hvar, hd, ⟨g2, t2, cs2, fuel2, p2, q2, hg2, ht2, hvar2, hd2, _⟩, _⟩, _⟩ := h'
  obtain rfl := Option.some.inj (gK.symm.trans hg2)
  obtain rfl := Option.some.inj (gKty.symm.trans ht2)
  have h2 : Lib.TabIs Tryd.prog W "replica/digest.roundConstants" .u32 (Ks.map fun n : Nat => (n : Int)) := by
    unfold Lib.TabIs
    rw [hvar2, ← Lib.cells_of_tab Tryd.underlying93 Tryd.underlying27 cells32 cellsW hd2]
  exact ⟨tab_of_is gH h1, tab_of_is gK h2⟩

def relay (cs : List Value) : Obj → Obj
  | .cells _ t frozen => .cells cs.toArray t frozen
  | o => o
/-- a world for the witness: the settled one, with the two tables in it -/
def laidIn (w : World) : World := { w with heap := (w.heap.modify 2 (relay (H0.map wordV))).modify 3 (relay (Ks.map wordV)) }
end Go.Proofs.YtkjaaknlhmneoacDoor
namespace Go.Proofs.YtkjaaknlhmneoacDoor
open Go.ChangeShapes Go.WideShapes Go.ChangeAt Go.RowKit
open Num
set_option linter.unusedVariables false
set_option maxRecDepth 20000

theorem gB : Tryd.prog.globalNamed "replica/replicaref01.begin" = some 0 := by kernel_rfl
theorem gR : Tryd.prog.globalNamed "replica/replicaref01.round" = some 1 := by kernel_rfl
theorem gBty : (Tryd.prog.globals[0]?).map (·.type) = some 92 := by kernel_rfl
theorem gRty : (Tryd.prog.globals[1]?).map (·.type) = some 93 := by kernel_rfl
theorem cells8 : Tryd.prog.cellsOf 92 = 8 := by kernel_rfl

def listed4 : List (String × DataW Unit) := [("replica/digest.firstState", Rows.laid_replica_digest_firstState), ("replica/digest.roundConstants", Rows.laid_replica_digest_roundConstants), ("replica/replicaref01.begin", Rows.laid_replica_replicaref01_begin), ("replica/replicaref01.round", Rows.laid_replica_replicaref01_round)]

/-- the program's two tables and the reference's two -/
structure Tabs4 (w : World) : Prop where
  t : Tabs w
  b : Tab w 0 H0
  r : Tab w 1 Ks
theorem Tabs4.below {w w' : World} (h : Tabs4 w) (hb : Below w.heap.size w w') : Tabs4 w' := ⟨h.t.below hb, h.b.below hb, h.r.below hb⟩

theorem tabs4_of_laid {W : World} (h : laidMetH Tryd.prog listed4 W) : Tabs4 W := by
  have h' : laidMet Tryd.prog [("replica/digest.firstState", Lib.tabData .u32 (H0.map fun n : Nat => (n : Int))), ("replica/digest.roundConstants", Lib.tabData .u32 (Ks.map fun n : Nat => (n : Int))), ("replica/replicaref01.begin", Lib.tabData .u32 (H0.map fun n : Nat => (n : Int))), ("replica/replicaref01.round", Lib.tabData .u32 (Ks.map fun n : Nat => (n : Int)))] W := h
  have h1 := Lib.tabIs_of_head gH gHty Tryd.underlying113 Tryd.underlying27 cells32 cellsS h'
  obtain ⟨ps, ⟨g', t', cs, fuel, p, q, hg', ht', hvar, hd, ⟨g2, t2, cs2, fuel2, p2, q2, hg2, ht2, hvar2, hd2, ⟨g3, t3, cs3, fuel3, p3, q3, hg3, ht3, hvar3, hd3, ⟨g4, t4, cs4, fuel4, p4, q4, hg4, ht4, hvar4, hd4, _⟩, _⟩, _⟩, _⟩, _⟩ := h'
  obtain rfl := Option.some.inj (gK.symm.trans hg2)
  obtain rfl := Option.some.inj (gKty.symm.trans ht2)
  obtain rfl := Option.some.inj (gB.symm.trans hg3)
  obtain rfl := Option.some.inj (gBty.symm.trans ht3)
  obtain rfl := Option.some.inj (gR.symm.trans hg4)
  obtain rfl := Option.some.inj (gRty.symm.trans ht4)
  have h2 : Lib.TabIs Tryd.prog W "replica/digest.roundConstants" .u32 (Ks.map fun n : Nat => (n : Int)) := by
    unfold Lib.TabIs
    rw [hvar2, ← Lib.cells_of_tab Tryd.underlying93 Tryd.underlying27 cells32 cellsW hd2]
  have h3 : Lib.TabIs Tryd.prog W "replica/replicaref01.begin" .u32 (H0.map fun n : Nat => (n : Int)) := by
    unfold Lib.TabIs
    rw [hvar3, ← Lib.cells_of_tab Tryd.underlying92 Tryd.underlying27 cells32 cells8 hd3]
  have h4 : Lib.TabIs Tryd.prog W "replica/replicaref01.round" .u32 (Ks.map fun n : Nat => (n : Int)) := by
    unfold Lib.TabIs
    rw [hvar4, ← Lib.cells_of_tab Tryd.underlying93 Tryd.underlying27 cells32 cellsW hd4]
  exact ⟨⟨tab_of_is gH h1, tab_of_is gK h2⟩, tab_of_is gB h3, tab_of_is gR h4⟩

/-- a world for the witness: the settled one, with the four tables in it -/
def laidIn4 (w : World) : World := { w with heap := (((w.heap.modify 2 (relay (H0.map wordV))).modify 3 (relay (Ks.map wordV))).modify 0 (relay (H0.map wordV))).modify 1 (relay (Ks.map wordV)) }
end Go.Proofs.YtkjaaknlhmneoacDoor
namespace Go.Proofs.YtkjaaknlhmneoacDoor
open Go.ChangeShapes Go.WideShapes Go.ChangeAt Go.RowKit
open Num
set_option linter.unusedVariables false
set_option maxRecDepth 20000

def IsRow (k : IntKind) (w : World) (a : Option Addr) (len cap : Nat) (zs : List Int) : Prop :=
  (a = none ∧ len = 0 ∧ cap = 0 ∧ zs = []) ∨
  ∃ x, a = some x ∧ len ≤ cap ∧ cap ≤ maxLen ∧ zs.length = cap ∧ (∀ i, i < zs.length → w.cell? (x.add i) = some (.int k (zs.getD i 0))) ∧ ∀ n ∈ zs, (Lit.int k n).wf = true

/-- what came in, as bytes -/
theorem bsl_of_row {w : World} {a : Option Addr} {len cap : Nat} {zs : List Int} (h : IsRow .u8 w a len cap zs) : ∃ l : List Nat, l.length = len ∧ BSl w (.slice a len cap) l := by
  rcases h with ⟨rfl, rfl, rfl, rfl⟩ | ⟨x, rfl, hl, hm, hz, hcell, hwz⟩
  · exact ⟨[], rfl, none, 0, rfl, Nat.le_refl _, by unfold maxLen; omega, fun _ => rfl, by simp, by simp⟩
  · have hlen : ((zs.take len).map Int.toNat).length = len := by simp; omega
    refine ⟨(zs.take len).map Int.toNat, hlen, _, cap, by rw [hlen], by omega, hm, by simp, ?_, ?_⟩
    · intro b hb
      obtain ⟨n, hn, rfl⟩ := List.mem_map.1 hb
      have := bounds_u8 (hwz n (List.mem_of_mem_take hn))
      omega
    · intro hp
      obtain ⟨b, off, rfl, hc⟩ := ints_at hcell (by omega)
      refine ⟨b, off, rfl, fun i hi => ?_⟩
      rw [hc i (by omega)]
      have hi' : i < zs.length := by omega
      have hb := bounds_u8 (hwz zs[i] (List.getElem_mem hi'))
      have hi2 : i < len := by omega
      have e2 : ((zs.take len).map Int.toNat).getD i 0 = zs[i].toNat := by
        simp [List.getD, hi', hi2]
      have e3 : zs.getD i 0 = zs[i] := by simp [List.getD, hi']
      rw [e2, e3, Int.toNat_of_nonneg hb.1]

/-- a list of bytes that came in: what it reads as, and how long it may be -/
theorem open_bytes {H : Type} {enc : TypeId × Value → H} {W : World} {base : Nat} {v : Value} {d : DataW H} {p : List MemPlace} {ts : List TypeId} {ds : List (DataW H)} (j : Nat) (hts : ts[j]? = some 22) (hds : ds[j]? = some d)
    (hsz : (DataW.weightsEach Tryd.prog ts ds).all (· ≤ reachBytes) = true) (hok : Value.okWide Tryd.prog W .any base 22 v) (h1 : DataW.Trod enc Tryd.prog W 0 (fun _ => true) true 22 v d p) : ∃ l : List Nat, BSl W v l ∧ l.length ≤ 140737488351232 := by
  obtain ⟨a1, len1, cap1, rfl⟩ := okWide_slice Tryd.underlying22 hok
  obtain ⟨z1, w1, hr1⟩ : ∃ zs, IsRow .u8 W a1 len1 cap1 zs ∧ len1 ≤ 140737488351232 := by
    obtain ⟨fuel, hf⟩ := h1
    rcases open_ints Tryd.underlying22 Tryd.underlying5 (by kernel_rfl) hf with ⟨hcs, _⟩ | ⟨x, l, c, zs, hcs, _, hl, hm, hz, hx, hcell, hwz⟩
    · simp [Value.cells] at hcs
      obtain ⟨rfl, rfl, rfl⟩ := hcs
      exact ⟨[], .inl ⟨rfl, rfl, rfl, rfl⟩, by omega⟩
    · simp [Value.cells] at hcs
      obtain ⟨rfl, rfl, rfl⟩ := hcs
      simp only [Prod.mk.injEq] at hx
      obtain ⟨rfl, hp⟩ := hx
      have hw := sized_slice hsz (j := j) (t := 22) (e := 5) hts hds Tryd.underlying22
      rw [show Tryd.prog.bytesOf 5 = 1 from by kernel_rfl] at hw
      simp only [lits, List.length_map, List.length_take, List.length_drop, reachBytes] at hw
      simp only [if_true] at hz
      exact ⟨zs, .inr ⟨_, rfl, hl, hm, hz, hcell, hwz⟩, by omega⟩
  obtain ⟨l, hll, hb⟩ := bsl_of_row w1
  exact ⟨l, hb, by omega⟩
theorem trod_place_lt {H : Type} {enc : TypeId × Value → H} {W : World} {t : TypeId} {v : Value} {d : DataW H} {p : List MemPlace} (h1 : DataW.Trod enc Tryd.prog W 0 (fun _ => true) true t v d p) : ∀ x ∈ p, x.block < W.heap.size := by
  obtain ⟨m, hm⟩ := h1; exact DataW.trod_lt m _ _ _ hm
/-- it reads on as it did -/
theorem bytes_again {H : Type} {enc : TypeId × Value → H} {W W' : World} {v : Value} {d : DataW H} {p : List MemPlace} (h1 : DataW.Trod enc Tryd.prog W 0 (fun _ => true) true 22 v d p) (bel : Below W.heap.size W W') :
    DataW.Trod enc Tryd.prog W' 0 (fun b => decide (b < W.heap.size)) true 22 v d p := Below.trod laidOut (by kernel_rfl) (of_decide_eq_true (by kernel_rfl)) h1 bel (trod_place_lt h1)
end Go.Proofs.YtkjaaknlhmneoacDoor
namespace Go.Proofs.YtkjaaknlhmneoacDoor
open Go.ChangeShapes Go.WideShapes Go.ChangeAt Go.RowKit
open Num
set_option linter.unusedVariables false
set_option maxRecDepth 20000

theorem cellsSuper : Tryd.prog.cellsOf 29 = 10 := by kernel_rfl
theorem cellsGens : Tryd.prog.cellsOf 26 = 4 := by kernel_rfl
theorem cellsI : Tryd.prog.cellsOf 3 = 1 := by kernel_rfl
theorem cellsU : Tryd.prog.cellsOf 24 = 1 := by kernel_rfl
theorem cellsV : Tryd.prog.cellsOf 27 = 1 := by kernel_rfl
theorem super_again {H : Type} {enc : TypeId × Value → H} {W W' : World} {v : Value} {d : DataW H} {p : List MemPlace} (h1 : DataW.Trod enc Tryd.prog W 0 (fun _ => true) true 29 v d p) (bel : Below W.heap.size W W') :
    DataW.Trod enc Tryd.prog W' 0 (fun b => decide (b < W.heap.size)) true 29 v d p := Below.trod laidOut (by kernel_rfl) (of_decide_eq_true (by kernel_rfl)) h1 bel (trod_place_lt h1)
theorem open_super {H : Type} {enc : TypeId × Value → H} {W : World} {base : Nat} {v : Value} {d : DataW H} {p : List MemPlace} (hok : Value.okWide Tryd.prog W .any base 29 v) (h1 : DataW.Trod enc Tryd.prog W 0 (fun _ => true) true 29 v d p) :
    ∃ s : Sup, v = s.val ∧ s.Wf := by
  obtain ⟨cs, rfl, hcs⟩ := okWide_struct Tryd.underlying29 hok
  rw [cellsSuper] at hcs
  obtain ⟨fuel, hf⟩ := h1
  obtain ⟨l⟩ := cs
  match l, hcs with
  | [v0, v1, v2, v3, v4, v5, v6, v7, v8, v9], _ =>
    obtain ⟨xs, k, hk, hxy, _, hxl, hfd⟩ := DataW.trod_struct Tryd.underlying29 hf
    match xs, hxl with
    | [y0, y1, y2, y3, y4, y5, y6], _ =>
      have g0 := hfd 0 _ rfl
      have g1 := hfd 1 _ rfl
      have g2 := hfd 2 _ rfl
      have g3 := hfd 3 _ rfl
      have g4 := hfd 4 _ rfl
      have g5 := hfd 5 _ rfl
      have g6 := hfd 6 _ rfl
      simp [cellsI, cellsU, cellsV, cellsGens, Value.cells] at g0 g1 g2 g3 g4 g5 g6
      obtain ⟨xs2, k2, hk2, hxy2, _, hxl2, hfd2⟩ := DataW.trod_struct Tryd.underlying26 g4
      match xs2, hxl2 with
      | [u0, u1, u2, u3], _ =>
        have m0 := hfd2 0 _ rfl
        have m1 := hfd2 1 _ rfl
        have m2 := hfd2 2 _ rfl
        have m3 := hfd2 3 _ rfl
        simp [cellsU] at m0 m1 m2 m3
        obtain ⟨a0, e0, _, f0⟩ := DataW.trod_int Tryd.underlying24 g0
        obtain ⟨a1, e1, _, f1⟩ := DataW.trod_int Tryd.underlying3 g1
        obtain ⟨a2, e2, _, f2⟩ := DataW.trod_int Tryd.underlying3 g2
        obtain ⟨a3, e3, _, f3⟩ := DataW.trod_int Tryd.underlying3 g3
        obtain ⟨b0, p0, _, q0⟩ := DataW.trod_int Tryd.underlying24 m0
        obtain ⟨b1, p1, _, q1⟩ := DataW.trod_int Tryd.underlying24 m1
        obtain ⟨b2, p2, _, q2⟩ := DataW.trod_int Tryd.underlying24 m2
        obtain ⟨b3, p3, _, q3⟩ := DataW.trod_int Tryd.underlying24 m3
        obtain ⟨a5, e5, _, f5⟩ := DataW.trod_int Tryd.underlying27 g5
        obtain ⟨a6, e6, _, f6⟩ := DataW.trod_int Tryd.underlying3 g6
        simp at e0 e1 e2 e3 p0 p1 p2 p3 e5 e6
        subst e0 e1 e2 e3 p0 p1 p2 p3 e5 e6
        have f0 := bounds_u64 f0
        have f1 := bounds_i64 f1
        have f2 := bounds_i64 f2
        have f3 := bounds_i64 f3
        have q0 := bounds_u64 q0
        have q1 := bounds_u64 q1
        have q2 := bounds_u64 q2
        have q3 := bounds_u64 q3
        have f5 := bounds_u32 f5
        have f6 := bounds_i64 f6
        refine ⟨⟨a0.toNat, a1, a2, a3, b0.toNat, b1.toNat, b2.toNat, b3.toNat, a5.toNat, a6⟩, ?_, ?_⟩
        · simp only [Sup.val, Sup.row]
          rw [Int.toNat_of_nonneg f0.1, Int.toNat_of_nonneg q0.1, Int.toNat_of_nonneg q1.1, Int.toNat_of_nonneg q2.1, Int.toNat_of_nonneg q3.1, Int.toNat_of_nonneg f5.1]
        · unfold Sup.Wf
          dsimp only
          omega
end Go.Proofs.YtkjaaknlhmneoacDoor
