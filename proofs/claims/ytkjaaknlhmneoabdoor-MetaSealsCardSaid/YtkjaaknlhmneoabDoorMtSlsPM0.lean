import Derived.Test.YtkjaaknlhmneoabDoorRefTurn
import Derived.Test.YtkjaaknlhmneoabDoorShaMac
import Derived.Test.YtkjaaknlhmneoabDoorRefPad
import Derived.Test.YtkjaaknlhmneoabDoorRefWords
import Derived.Test.YtkjaaknlhmneoabDoorMtRef4
import Derived.Maps.AppendAt
import Derived.Test.YtkjaaknlhmneoabDoorMtSame
import Derived.Test.YtkjaaknlhmneoabDoorFlip
import Derived.Test.YtkjaaknlhmneoabDoorCards
import Derived.Test.YtkjaaknlhmneoabDoorTie
import Derived.WalkKit
import Derived.ProofKit
import Derived.OpenShut
import Derived.ChangeOld
import Derived.Deep.DeepHandedRow
import Derived.Lib.LaidTab
import Derived.SizedLaws
import Derived.ChangeSlices
import Derived.Deep.Slices
import Derived.Test.YtkjaaknlhmneoabDoorMtSup
import Derived.ChangeSame
namespace Go.Proofs.YtkjaaknlhmneoabDoor
open Go.RowKit
open Num
set_option linter.unusedVariables false
set_option linter.unusedSimpArgs false

def zero8w : Array Value := ((List.replicate 8 0).map wordV).toArray
theorem Tryd.zero8w : (Tryd.prog.info? 64).map (·.zero) = some (some (.agg zero8w)) := by kernel_rfl
theorem Tryd.size8w : (Tryd.prog.info? 64).map (·.size) = some 8 := by kernel_rfl

/-- what the rounds leave as it was -/
structure Fixed (w wr : World) (sa wa ka : Array Value) : Prop where
  fs : wr.heap[w.heap.size]? = some (.cells sa 64 (0, 0))
  fw : wr.heap[w.heap.size + 1]? = some (.cells wa 80 (0, 0))
  fk : wr.heap[w.heap.size + 1 + 1]? = some (.cells ka 80 (0, 0))
  fr : wr.heap[w.heap.size + 1 + 1 + 1]? = some (.cells zero8w 64 (0, 0))
  fb : Below w.heap.size w wr
theorem heap_setRow_same (w : World) (g : Nat) (c' : Array Value) {c : Array Value} {t : TypeId} {fr : Nat × Nat} (h : w.heap[g]? = some (.cells c t fr)) : (w.setRow g c').heap[g]? = some (.cells c' t fr) := setRow_heap w g c c' t fr h
theorem heap_setRow_other (w : World) (g g' : Nat) (c' : Array Value) (h : g' ≠ g) : (w.setRow g c').heap[g']? = w.heap[g']? := by
  simp only [World.setRow]
  rw [Array.getElem?_modify, if_neg (by omega)]
theorem Fixed.setRow {w wr : World} {sa wa ka : Array Value} (h : Fixed w wr sa wa ka) (n : Nat) (c : Array Value) : Fixed w ((wr.drewN n).setRow (w.heap.size + 1 + 1 + 1 + 1) c) sa wa ka := by
  refine ⟨?_, ?_, ?_, ?_, below_setRow (below_drewN h.fb n) (by omega) _⟩
  all_goals rw [heap_setRow_other _ _ _ _ (by omega)]
  · exact h.fs
  · exact h.fw
  · exact h.fk
  · exact h.fr

theorem Fixed.setCell {w wr : World} {sa wa ka : Array Value} (h : Fixed w wr sa wa ka) (k : Nat) (v : Value) : Fixed w (wr.drew.setCell ⟨w.heap.size + 1 + 1 + 1 + 1, k, none⟩ v) sa wa ka := by
  refine ⟨?_, ?_, ?_, ?_, h.fb.drew.setCell (by show w.heap.size ≤ w.heap.size + 1 + 1 + 1 + 1; omega) _⟩
  · rw [Go.heap_setCell_other _ _ _ _ (by show w.heap.size ≠ w.heap.size + 1 + 1 + 1 + 1; omega)]; exact h.fs
  · rw [Go.heap_setCell_other _ _ _ _ (by show w.heap.size + 1 ≠ w.heap.size + 1 + 1 + 1 + 1; omega)]; exact h.fw
  · rw [Go.heap_setCell_other _ _ _ _ (by show w.heap.size + 1 + 1 ≠ w.heap.size + 1 + 1 + 1 + 1; omega)]; exact h.fk
  · rw [Go.heap_setCell_other _ _ _ _ (by show w.heap.size + 1 + 1 + 1 ≠ w.heap.size + 1 + 1 + 1 + 1; omega)]; exact h.fr

theorem list_size (s : St) : (s.list.map wordV).toArray.size = 8 := rfl
/-- the first k words added -/
def addL (sl vl : List Nat) (k : Nat) : List Nat := (List.range 8).map fun j => if j < k then (sl.getD j 0 + vl.getD j 0) % 4294967296 else vl.getD j 0
theorem addL_len (sl vl : List Nat) (k : Nat) : (addL sl vl k).length = 8 := by simp [addL]
theorem addL_zero (sl : List Nat) (v : St) : addL sl v.list 0 = v.list := by
  obtain ⟨a, b, c, d, e, f, g, h⟩ := v
  rfl
theorem addL_full (s v : St) : addL s.list v.list 8 = (s.add v).list := by
  obtain ⟨a, b, c, d, e, f, g, h⟩ := v
  obtain ⟨a', b', c', d', e', f', g', h'⟩ := s
  rfl
theorem addL_getD {sl vl : List Nat} {k : Nat} (hk : k < 8) : (addL sl vl k).getD k 0 = vl.getD k 0 := by
  simp [addL, List.getD, hk]
theorem addL_set {sl vl : List Nat} {k : Nat} (hk : k < 8) : (addL sl vl k).set k ((sl.getD k 0 + vl.getD k 0) % 4294967296) = addL sl vl (k + 1) := by
  apply List.ext_getElem
  · simp [addL]
  · intro n h1 h2
    simp only [addL, List.getElem_set, List.getElem_map, List.getElem_range]
    by_cases h : k = n
    · subst h; simp
    · rw [if_neg h]
      by_cases h3 : n < k
      · rw [if_pos h3, if_pos (by omega)]
      · rw [if_neg h3, if_neg (by omega)]

set_option maxRecDepth 100000 in
set_option maxHeartbeats 8000000 in
theorem chunk_any (st : St) (hst : st.ok) (ws : List Nat) (hl : ws.length = 64) (hlt : ∀ x ∈ ws, x < 4294967296) (w : World) :
    Calls Tryd.prog 55 #[.agg (st.list.map wordV).toArray, .agg (ws.map wordV).toArray, .agg (Ks.map wordV).toArray] w fun e w' => e = .returned (.agg ((st.add (rounds Ks ws st 64)).list.map wordV).toArray) ∧ Below w.heap.size w w' := by
  have HS1 : Hid ((Tryd.prog.info? 64).map (·.size) = some (st.list.map wordV).toArray.size) := Tryd.size8w
  have HS2 : Hid (zero8w.size = (st.list.map wordV).toArray.size) := Eq.refl _
  have HON := hide (wordV_one st.list)
  have HWC : Hid (∀ i, i < 64 → (ws.map wordV).toArray[i]? = some (.int .u32 (ws.getD i 0 : Nat))) := by
    intro i hi; rw [List.getElem?_toArray, map_wordV_getD (by omega)]
  have HWL : Hid (∀ i, i < 64 → ws.getD i 0 < 4294967296) := fun i hi => hlt _ (mem_getD (by omega))
  have HKC : Hid (∀ i, i < 64 → (Ks.map wordV).toArray[i]? = some (.int .u32 (Ks.getD i 0 : Nat))) := by
    intro i hi; rw [List.getElem?_toArray, map_wordV_getD (by rw [Ks_len]; omega)]
  have HSA : Hid ((st.list.map wordV).toArray = (st.list.map wordV).toArray) := Eq.refl _
  generalize hka : (Ks.map wordV).toArray = ka at *
  generalize hwa : (ws.map wordV).toArray = wa at *
  generalize hsa : (st.list.map wordV).toArray = sa at *
  clear hl hlt HSA
  go_enter Tryd.func55, Tryd.ntmps55
  go_wp2_with (first
    | refine wpList_alloc_as rfl 64 rfl (.agg zero8w) zero8w Tryd.zero8w rfl ?_
    | refine wpList_load_row rfl 64 (.tmp 3) rfl w.heap.size rfl 64 sa (0, 0) _ (heap_more _ (heap_more _ (heap_more _ (Go.heap_alloc_new w _)))) Tryd.underlying64 rfl HS1.out ?_
    | (refine wpList_store_row rfl 64 _ _ rfl (w.heap.size + 1 + 1 + 1 + 1) sa (by first | rfl | simp [Act.eval, Act.put]) (by first | rfl | simp [Act.eval, Act.put]) 64 zero8w (heap_at (by simp)) HS1.out HS2.out HON.out ?_; rw [setRow_last (by simp)]))
  have hb5 : Hid (Below w.heap.size w (((((w.alloc (.cells sa 64)).alloc (.cells wa 80)).alloc (.cells ka 80)).alloc (.cells zero8w 64)).alloc (.cells sa 64))) := (((below_alloc3 w _ _ _).alloc (by simp; omega) _).alloc (by simp; omega) _)
  have R0 := hide (heap_more (.cells sa 64) (heap_more (.cells zero8w 64) (heap_more (.cells ka 80) (heap_more (.cells wa 80) (Go.heap_alloc_new w (.cells sa 64))))))
  have R1 := hide (heap_more (.cells sa 64) (heap_more (.cells zero8w 64) (heap3_snd w (.cells sa 64) (.cells wa 80) (.cells ka 80))))
  have R2 := hide (heap_more (.cells sa 64) (heap_more (.cells zero8w 64) (heap3_new w (.cells sa 64) (.cells wa 80) (.cells ka 80))))
  have R3 : Hid ((((((w.alloc (.cells sa 64)).alloc (.cells wa 80)).alloc (.cells ka 80)).alloc (.cells zero8w 64)).alloc (.cells sa 64)).heap[w.heap.size + 1 + 1 + 1]? = some (.cells zero8w 64 (0, 0))) := heap_more _ (heap_at (by simp))
  have R4 : Hid ((((((w.alloc (.cells sa 64)).alloc (.cells wa 80)).alloc (.cells ka 80)).alloc (.cells zero8w 64)).alloc (.cells sa 64)).heap[w.heap.size + 1 + 1 + 1 + 1]? = some (.cells sa 64 (0, 0))) := heap_at (by simp)
  generalize ((((w.alloc (.cells sa 64)).alloc (.cells wa 80)).alloc (.cells ka 80)).alloc (.cells zero8w 64)).alloc (.cells sa 64) = W at *
  go_loopw [8] (fun i wr => ∃ k : Nat, k ≤ 64 ∧ i = .int .i64 k ∧ Fixed w wr sa wa ka ∧ (rounds Ks ws st k).ok ∧ wr.heap[w.heap.size + 1 + 1 + 1 + 1]? = some (.cells ((rounds Ks ws st k).list.map wordV).toArray 64 (0, 0)))
    (fun i _ => 64 - (intOf i).toNat)
  case atStart => exact ⟨0, Nat.zero_le _, rfl, ⟨R0.out, R1.out, R2.out, R3.out, hb5.out⟩, hst, by rw [show rounds Ks ws st 0 = st from rfl, hsa]; exact R4.out⟩
  case round =>
    clear R0 R1 R2 R3 R4 hb5
    obtain ⟨k, hk, rfl, hfix, hok, hrow⟩ := hrel
    by_cases hlt : k < 64
    · have HRW := hide hrow
      have HFX := hide hfix
      have ck : wr.cell? ⟨w.heap.size + 1 + 1, k, none⟩ = some (.int .u32 (Ks.getD k 0 : Nat)) := by rw [cell_of_row _ _ k ka 80 (0, 0) hfix.fk]; exact HKC.out k hlt
      have cw : wr.cell? ⟨w.heap.size + 1, k, none⟩ = some (.int .u32 (ws.getD k 0 : Nat)) := by rw [cell_of_row _ _ k wa 80 (0, 0) hfix.fw]; exact HWC.out k hlt
      have lk := Ks_lt k hlt
      have lw := HWL.out k hlt
      have HRN : Hid (rounds Ks ws st (k + 1) = rnd (rounds Ks ws st k) (Ks.getD k 0) (ws.getD k 0)) := Eq.refl _
      have HOK : Hid ((rnd (rounds Ks ws st k) (Ks.getD k 0) (ws.getD k 0)).ok) := rnd_ok hok _ _
      generalize hv : rounds Ks ws st k = v at *
      obtain ⟨va, vb, vc, vd, ve, vf, vg, vh⟩ := v
      obtain ⟨hva, hvb, hvc, hvd, hve, hvf, hvg, hvh⟩ := hok
      simp only at *
      have t0 : wr.cell? ⟨w.heap.size + 1 + 1 + 1 + 1, 0, none⟩ = some (.int .u32 (va : Int)) := by rw [cell_of_row _ _ _ _ _ _ hrow]; rfl
      have t1 : wr.cell? ⟨w.heap.size + 1 + 1 + 1 + 1, 1, none⟩ = some (.int .u32 (vb : Int)) := by rw [cell_of_row _ _ _ _ _ _ hrow]; rfl
      have t2 : wr.cell? ⟨w.heap.size + 1 + 1 + 1 + 1, 2, none⟩ = some (.int .u32 (vc : Int)) := by rw [cell_of_row _ _ _ _ _ _ hrow]; rfl
      have t3 : wr.cell? ⟨w.heap.size + 1 + 1 + 1 + 1, 3, none⟩ = some (.int .u32 (vd : Int)) := by rw [cell_of_row _ _ _ _ _ _ hrow]; rfl
      have t4 : wr.cell? ⟨w.heap.size + 1 + 1 + 1 + 1, 4, none⟩ = some (.int .u32 (ve : Int)) := by rw [cell_of_row _ _ _ _ _ _ hrow]; rfl
      have t5 : wr.cell? ⟨w.heap.size + 1 + 1 + 1 + 1, 5, none⟩ = some (.int .u32 (vf : Int)) := by rw [cell_of_row _ _ _ _ _ _ hrow]; rfl
      have t6 : wr.cell? ⟨w.heap.size + 1 + 1 + 1 + 1, 6, none⟩ = some (.int .u32 (vg : Int)) := by rw [cell_of_row _ _ _ _ _ _ hrow]; rfl
      have t7 : wr.cell? ⟨w.heap.size + 1 + 1 + 1 + 1, 7, none⟩ = some (.int .u32 (vh : Int)) := by rw [cell_of_row _ _ _ _ _ _ hrow]; rfl
      generalize Ks.getD k 0 = kt at *
      generalize ws.getD k 0 = wt at *
      have T6 := hide (fun wx => turn_6 ve hve wx)
      have T11 := hide (fun wx => turn_11 ve hve wx)
      have T25 := hide (fun wx => turn_25 ve hve wx)
      have T2 := hide (fun wx => turn_2 va hva wx)
      have T13 := hide (fun wx => turn_13 va hva wx)
      have T22 := hide (fun wx => turn_22 va hva wx)
      -- choose
      have n1 := and_u32 hve hvf
      have n2 := not_u32 hve
      have n3 := and_u32 (xor_ones_lt hve) hvg
      have n4 : bits BinOp.xor IntKind.u32 ((ve &&& vf : Nat) : Int) (((ve ^^^ 4294967295) &&& vg : Nat) : Int) = ((chs ve vf vg : Nat) : Int) := xor_u32 (and_lt hve) (and_lt (xor_ones_lt hve))
      -- most
      have m1 := and_u32 hva hvb
      have m2 := and_u32 hva hvc
      have m3 := and_u32 hvb hvc
      have m4 := xor_u32 (and_lt (y := vb) hva) (and_lt (y := vc) hva)
      have m5 : bits BinOp.xor IntKind.u32 (((va &&& vb) ^^^ (va &&& vc) : Nat) : Int) ((vb &&& vc : Nat) : Int) = ((maj va vb vc : Nat) : Int) := xor_u32 (xor_lt (and_lt hva) (and_lt hva)) (and_lt hvb)
      -- the two sums
      have p1 := xor_u32 (rot_lt (n := 6) hve) (rot_lt (n := 11) hve)
      have p2 : bits BinOp.xor IntKind.u32 ((rot 6 ve ^^^ rot 11 ve : Nat) : Int) ((rot 25 ve : Nat) : Int) = ((bSig1 ve : Nat) : Int) := xor_u32 (xor_lt (rot_lt hve) (rot_lt hve)) (rot_lt hve)
      have p3 := xor_u32 (rot_lt (n := 2) hva) (rot_lt (n := 13) hva)
      have p4 : bits BinOp.xor IntKind.u32 ((rot 2 va ^^^ rot 13 va : Nat) : Int) ((rot 22 va : Nat) : Int) = ((bSig0 va : Nat) : Int) := xor_u32 (xor_lt (rot_lt hva) (rot_lt hva)) (rot_lt hva)
      obtain ⟨S1, eS1⟩ : ∃ z, bSig1 ve = z := ⟨_, rfl⟩
      obtain ⟨C, eC⟩ : ∃ z, chs ve vf vg = z := ⟨_, rfl⟩
      obtain ⟨S0, eS0⟩ : ∃ z, bSig0 va = z := ⟨_, rfl⟩
      obtain ⟨M, eM⟩ : ∃ z, maj va vb vc = z := ⟨_, rfl⟩
      rw [eS1] at p2
      rw [eC] at n4
      rw [eS0] at p4
      rw [eM] at m5
      obtain ⟨P1, ep1⟩ : ∃ z, (vh + S1) % 4294967296 = z := ⟨_, rfl⟩
      obtain ⟨P2, ep2⟩ : ∃ z, (P1 + C) % 4294967296 = z := ⟨_, rfl⟩
      obtain ⟨P3, ep3⟩ : ∃ z, (P2 + kt) % 4294967296 = z := ⟨_, rfl⟩
      obtain ⟨P4, ep4⟩ : ∃ z, (P3 + wt) % 4294967296 = z := ⟨_, rfl⟩
      obtain ⟨Q1, eq1⟩ : ∃ z, (S0 + M) % 4294967296 = z := ⟨_, rfl⟩
      obtain ⟨A, eA⟩ : ∃ z, (P4 + Q1) % 4294967296 = z := ⟨_, rfl⟩
      obtain ⟨E, eE⟩ : ∃ z, (vd + P4) % 4294967296 = z := ⟨_, rfl⟩
      have HQ := hide (rnd_eq ⟨va, vb, vc, vd, ve, vf, vg, vh⟩ kt wt S1 C S0 M P1 P2 P3 P4 Q1 A E eS1 eC eS0 eM ep1 ep2 ep3 ep4 eq1 eA eE)
      rw [HQ.out] at HRN HOK
      have f1 : ((vh : Int) + (S1 : Int)) % 4294967296 = (P1 : Int) := by omega
      have f2 : ((P1 : Int) + (C : Int)) % 4294967296 = (P2 : Int) := by omega
      have f3 : ((P2 : Int) + (kt : Int)) % 4294967296 = (P3 : Int) := by omega
      have f4 : ((P3 : Int) + (wt : Int)) % 4294967296 = (P4 : Int) := by omega
      have f5 : ((S0 : Int) + (M : Int)) % 4294967296 = (Q1 : Int) := by omega
      have f6 : ((P4 : Int) + (Q1 : Int)) % 4294967296 = (A : Int) := by omega
      have f7 : ((vd : Int) + (P4 : Int)) % 4294967296 = (E : Int) := by omega
      have lk2 : (k : Int) < 64 := by omega
      have HNR := hide (fun n => heap_setRow_same (wr.drewN n) (w.heap.size + 1 + 1 + 1 + 1) #[.int .u32 (A : Int), .int .u32 (va : Int), .int .u32 (vb : Int), .int .u32 (vc : Int), .int .u32 (E : Int), .int .u32 (ve : Int), .int .u32 (vf : Int), .int .u32 (vg : Int)] hrow)
      clear eS1 eC eS0 eM ep1 ep2 ep3 ep4 eq1 eA eE HQ hva hvb hvc hvd hve hvf hvg hvh lk lw hv hfix hrow
      generalize (ve ^^^ 4294967295) &&& vg = a3 at *
      generalize ve ^^^ 4294967295 = a2 at *
      generalize ve &&& vf = a1 at *
      generalize (va &&& vb) ^^^ (va &&& vc) = b4 at *
      generalize va &&& vb = b1 at *
      generalize va &&& vc = b2 at *
      generalize vb &&& vc = b3 at *
      generalize rot 6 ve ^^^ rot 11 ve = c3 at *
      generalize rot 2 va ^^^ rot 13 va = d3 at *
      generalize rot 6 ve = c1 at *
      generalize rot 11 ve = c2 at *
      generalize rot 25 ve = c4 at *
      generalize rot 2 va = d1 at *
      generalize rot 13 va = d2 at *
      generalize rot 22 va = d4 at *
      go_wp2
      go_quiet (first | (go_at_call 60; first | with_reducible exact Calls.quiet_of_same (T6.out _) | with_reducible exact Calls.quiet_of_same (T11.out _) | with_reducible exact Calls.quiet_of_same (T25.out _)))
      rw [f4]
      have HRQ : Hid ((wr.drewN nq).heap[w.heap.size + 1 + 1 + 1 + 1]? = some (.cells #[.int .u32 (va : Int), .int .u32 (vb : Int), .int .u32 (vc : Int), .int .u32 (vd : Int), .int .u32 (ve : Int), .int .u32 (vf : Int), .int .u32 (vg : Int), .int .u32 (vh : Int)] 64 (0, 0))) := HRW.out
      go_wp2_with fail
      refine (T2.out _).mono ?_
      rintro e w' ⟨rfl, rfl⟩
      go_wp2_with fail
      refine (T13.out _).mono ?_
      rintro e w' ⟨rfl, rfl⟩
      go_wp2_with fail
      refine (T22.out _).mono ?_
      rintro e w' ⟨rfl, rfl⟩
      go_wp2_with (refine wpList_store_row rfl 64 (.tmp 7) (.tmp 100) rfl (w.heap.size + 1 + 1 + 1 + 1) #[.int .u32 (A : Int), .int .u32 (va : Int), .int .u32 (vb : Int), .int .u32 (vc : Int), .int .u32 (E : Int), .int .u32 (ve : Int), .int .u32 (vf : Int), .int .u32 (vg : Int)] rfl rfl 64 #[.int .u32 (va : Int), .int .u32 (vb : Int), .int .u32 (vc : Int), .int .u32 (vd : Int), .int .u32 (ve : Int), .int .u32 (vf : Int), .int .u32 (vg : Int), .int .u32 (vh : Int)] HRQ.out Tryd.size8w rfl (by simp [Value.oneCell']) ?_)
      go_roundw
      case rel => exact ⟨k + 1, by omega, by go_num, HFX.out.setRow nq _, by rw [HRN.out]; exact HOK.out, by rw [HRN.out]; exact HNR.out nq⟩
      case measure => simp [intOf]; omega
    · have hk64 : k = 64 := by omega
      subst hk64
      generalize hV : rounds Ks ws st 64 = V at *
      have HVE := hide hV
      clear hV
      have HSC : Hid (∀ i, i < 8 → sa[i]? = some (.int .u32 (st.list.getD i 0 : Nat))) := by
        intro i hi; rw [← hsa, List.getElem?_toArray, map_wordV_getD (by simpa [St.list] using hi)]
      have HSL := hide (list_lt hst)
      have HVL := hide (list_lt hok)
      have HFX := hide hfix
      have HRW := hide hrow
      have HAF := hide (addL_full st V)
      have HAZ := hide (addL_zero st.list V)
      generalize hsl : st.list = sl at *
      generalize hvl : V.list = vl at *
      clear hfix hrow hlt hk hok hst hsa hka hwa
      go_wp2_with fail
      rw [show ((64 : Nat) : Int) = 64 from rfl]
      go_loopw [15] (fun i wr => ∃ k : Nat, k ≤ 8 ∧ i = .int .i64 k ∧ Fixed w wr sa wa ka ∧ wr.heap[w.heap.size + 1 + 1 + 1 + 1]? = some (.cells ((addL sl vl k).map wordV).toArray 64 (0, 0)))
        (fun i _ => 8 - (intOf i).toNat)
      case atStart => exact ⟨0, Nat.zero_le _, rfl, HFX.out, by rw [HAZ.out]; exact HRW.out⟩
      case round =>
        clear HFX HRW
        obtain ⟨k, hk, rfl, hfix, hrow⟩ := hrel
        by_cases hlt : k < 8
        · have hcs : wr.cell? ⟨w.heap.size, k, none⟩ = some (.int .u32 (sl.getD k 0 : Nat)) := by rw [cell_of_row _ _ k sa 64 (0, 0) hfix.fs]; exact HSC.out k hlt
          have hcv : wr.cell? ⟨w.heap.size + 1 + 1 + 1 + 1, k, none⟩ = some (.int .u32 (vl.getD k 0 : Nat)) := by
            rw [cell_of_row _ _ k _ 64 (0, 0) hrow, List.getElem?_toArray, map_wordV_getD (by rw [addL_len]; exact hlt), addL_getD hlt]
          have hfz : wr.frozen? ⟨w.heap.size + 1 + 1 + 1 + 1, k, none⟩ = false := frozen_of_row _ _ k _ 64 hrow
          have b1 := HSL.out k
          have b2 := HVL.out k
          have HST : Hid ((wr.drew.setCell ⟨w.heap.size + 1 + 1 + 1 + 1, k, none⟩ (.int .u32 (((sl.getD k 0 + vl.getD k 0) % 4294967296 : Nat) : Int))).heap[w.heap.size + 1 + 1 + 1 + 1]? = some (.cells ((addL sl vl (k + 1)).map wordV).toArray 64 (0, 0))) := by
            show _ = _
            rw [← addL_set hlt, List.map_set, ← List.setIfInBounds_toArray]
            exact Go.heap_setCell_same wr.drew _ k _ 64 _ hrow
          generalize sl.getD k 0 = x at *
          generalize vl.getD k 0 = y at *
          obtain ⟨z, ez⟩ : ∃ z, (x + y) % 4294967296 = z := ⟨_, rfl⟩
          have a1 : IntKind.u32.wrap ((y : Int) + (x : Int)) = (z : Int) := by rw [IntKind.wrap_u32']; omega
          have a2 : ((y : Int) + (x : Int)) % 4294967296 = (z : Int) := by omega
          rw [ez] at HST
          have lk : (k : Int) < 8 := by omega
          have HFX := hide hfix
          clear hfix hrow ez
          go_wp2
          clear a2
          refine wp_still_tail 9 (by kernel_rfl) (by kernel_rfl) ?_
          simp only [List.take_succ_cons, List.take_zero, List.drop_succ_cons, List.drop_zero]
          repeat still_step
          refine wpStill_nil ?_
          go_wp2
          go_roundw
          case rel => exact ⟨k + 1, by omega, by go_num, HFX.out.setCell _ _, HST.out⟩
          case measure => simp [intOf]; omega
        · have hk8 : k = 8 := by omega
          subst hk8
          rw [HAF.out] at hrow
          have hsz : (Tryd.prog.info? 64).map (·.size) = some ((st.add V).list.map wordV).toArray.size := by rw [list_size]; exact Tryd.size8w
          have hzs : zero8w.size = ((st.add V).list.map wordV).toArray.size := by rw [list_size]; rfl
          have hone := wordV_one (st.add V).list
          obtain ⟨oa, hoa⟩ : ∃ oa, ((st.add V).list.map wordV).toArray = oa := ⟨_, rfl⟩
          rw [hoa] at hsz hzs hone hrow
          have HR2 := hide hrow
          have HR1 := hide hfix.fr
          have HBL := hide hfix.fb
          have HRS := hide (setRow_heap wr (w.heap.size + 1 + 1 + 1) zero8w oa 64 (0, 0) hfix.fr)
          have HOA := hide hoa
          clear hfix hrow hlt hk hoa
          go_wp2_with (first
            | refine wpList_load_row rfl 64 _ rfl (w.heap.size + 1 + 1 + 1 + 1) rfl 64 oa (0, 0) _ HR2.out Tryd.underlying64 rfl hsz ?_
            | refine wpList_store_row rfl 64 _ _ rfl (w.heap.size + 1 + 1 + 1) oa rfl rfl 64 zero8w HR1.out hsz hzs hone ?_)
          exact bodyPost_ret (v := .agg oa) (results_cell_row rfl _ _ (w.heap.size + 1 + 1 + 1) 64 oa (0, 0) _ rfl HRS.out Tryd.underlying64 rfl hsz) rfl ⟨by rw [HVE.out, HOA.out], below_setRow HBL.out (by omega) _⟩
end Go.Proofs.YtkjaaknlhmneoabDoor
namespace Go.Proofs.YtkjaaknlhmneoabDoor
open Go.RowKit
open Num
set_option linter.unusedVariables false
set_option linter.unusedSimpArgs false

/-- what the output loop keeps: the state's row, the output's row -/
structure OutInv (w1 wr : World) (gs go : Nat) (sa ys : Array Value) : Prop where
  os : wr.heap[gs]? = some (.cells sa 64 (0, 0))
  oo : wr.heap[go]? = some (.cells ys 43 (0, 0))
  ob : Below w1.heap.size w1 wr
theorem OutInv.set {w1 wr : World} {gs go : Nat} {sa ys : Array Value} (h : OutInv w1 wr gs go sa ys) (hne : gs ≠ go) (hle : w1.heap.size ≤ go) (k : Nat) (v : Value) : OutInv w1 (wr.drew.setCell ⟨go, k, none⟩ v) gs go sa (ys.setIfInBounds k v) := by
  refine ⟨?_, ?_, h.ob.drew.setCell (by show w1.heap.size ≤ go; omega) _⟩
  · rw [Go.heap_setCell_other _ _ _ _ (by show gs ≠ go; exact hne)]; exact h.os
  · exact Go.heap_setCell_same wr.drew _ k ys 43 _ h.oo
theorem OutInv.put {w1 wr : World} {gs go : Nat} {sa ys : Array Value} (h : OutInv w1 wr gs go sa ys) (hne : gs ≠ go) (hle : w1.heap.size ≤ go) (k : Nat) (v : Value) : OutInv w1 (wr.setCell ⟨go, k, none⟩ v) gs go sa (ys.setIfInBounds k v) := by
  refine ⟨?_, ?_, h.ob.setCell (by show w1.heap.size ≤ go; omega) _⟩
  · rw [Go.heap_setCell_other _ _ _ _ (by show gs ≠ go; exact hne)]; exact h.os
  · exact Go.heap_setCell_same wr _ k ys 43 _ h.oo
theorem row_some {w : World} {g k : Nat} {ys : Array Value} {t : TypeId} {fr : Nat × Nat} (h : w.heap[g]? = some (.cells ys t fr)) (hk : k < ys.size) : ∃ v, w.cell? ⟨g, k, none⟩ = some v := by
  refine ⟨ys[k], ?_⟩
  rw [cell_of_row _ _ k ys t fr h]; simp

set_option maxRecDepth 100000 in
set_option maxHeartbeats 8000000 in
theorem sumWith_any (v : Value) (l : List Nat) (w : World) (h : BSl w v l) (hr : l.length + 72 ≤ 140737488355328) :
    Calls Tryd.prog 43 #[v, .agg (H0.map wordV).toArray, .agg (Ks.map wordV).toArray] w fun e w' => e = .returned (.agg ((shaL l).map byteV).toArray) ∧ Below w.heap.size w w' := by
  have HV := hide h
  have HON := hide (wordV_one H0)
  have HS1 : Hid ((Tryd.prog.info? 64).map (·.size) = some (H0.map wordV).toArray.size) := Tryd.size8w
  have HS2 : Hid (zero8w.size = (H0.map wordV).toArray.size) := Eq.refl _
  generalize hka : (Ks.map wordV).toArray = ka at *
  generalize hha : (H0.map wordV).toArray = ha at *
  clear h
  go_enter Tryd.func43, Tryd.ntmps43
  go_wp2_with (first
    | refine wpList_alloc_as rfl 64 rfl (.agg zero8w) zero8w Tryd.zero8w rfl ?_
    | refine wpList_alloc_as rfl 43 rfl (.agg zero32) zero32 Tryd.zero32 rfl ?_)
  have HB3 := hide (below_alloc3 w (.cells ha 64) (.cells ka 80) (.cells zero32 43))
  refine (padded_any v l _ (HV.out.below HB3.out) hr).mono ?_
  rintro e w1 ⟨vm, rfl, hom, hb1⟩
  have RH := hide (heap_kept hb1 (heap_more (.cells zero32 43) (heap_more (.cells ka 80) (Go.heap_alloc_new w (.cells ha 64)))))
  have RK := hide (heap_kept hb1 (heap3_snd w (.cells ha 64) (.cells ka 80) (.cells zero32 43)))
  have RZ := hide (heap_kept hb1 (heap3_new w (.cells ha 64) (.cells ka 80) (.cells zero32 43)))
  have RB := hide (HB3.out.trans (hb1.mono (by simp; omega)))
  have hg0 : w.heap.size + 1 + 1 < w1.heap.size := (Array.getElem?_eq_some_iff.1 RZ.out).1
  have HPM := hide hom.bsl
  have hplen : (padL l).length = l.length + padN l.length + 8 := by
    rw [padL, List.length_append, List.length_append, lenB_len, List.length_take, padA_len]
    have := padN_bd l.length
    omega
  have hpl : (padL l).length ≤ 140737488355328 + 64 := by
    have := padN_bd l.length
    omega
  have HBY := hide hom.2
  have HSH : Hid (shaL l = bytesS (absorb (padL l) ((padL l).length / 64)) 32) := Eq.refl _
  generalize hPM : padL l = PM at *
  clear HB3 hb1 hom hplen HV
  have hqm := HPM.out
  obtain ⟨am, capm, rfl, hl1, hm1, _, _, _⟩ := hqm
  unfold maxLen at hm1
  go_wp2_with (first
    | refine wpList_alloc_as rfl 64 rfl (.agg zero8w) zero8w Tryd.zero8w rfl ?_
    | refine wpList_load_row rfl 64 (.tmp 4) rfl w.heap.size rfl 64 ha (0, 0) _ RH.out Tryd.underlying64 rfl HS1.out ?_
    | (refine wpList_store_row rfl 64 (.tmp 8) (.tmp 15) rfl w1.heap.size ha (by first | rfl | simp [Act.eval, Act.put]) (by first | rfl | simp [Act.eval, Act.put]) 64 zero8w (Go.heap_alloc_new w1 _) HS1.out HS2.out HON.out ?_; rw [World.setRow_alloc_new]))
  have hst0 : ha = ((absorb PM 0).list.map wordV).toArray := by rw [← hha]; rfl
  have RS := hide (Go.heap_alloc_new w1 (.cells ha 64))
  have HST0 := hide hst0
  have RB1 := hide (below_alloc w1 (.cells ha 64))
  generalize w1.alloc (.cells ha 64) = W at *
  clear hst0
  go_loopw [9] (fun i wr => ∃ q : Nat, 64 * q ≤ PM.length ∧ i = .int .i64 ((64 * q : Nat) : Int) ∧ Below w1.heap.size w1 wr ∧ wr.heap[w1.heap.size]? = some (.cells ((absorb PM q).list.map wordV).toArray 64 (0, 0))) (fun i _ => PM.length + 64 - (intOf i).toNat)
  case atStart => exact ⟨0, Nat.zero_le _, rfl, RB1.out, by rw [← HST0.out]; exact RS.out⟩
  case round =>
    clear RS RB1
    obtain ⟨q, hq, rfl, hbel, hrow⟩ := hrel
    by_cases hlt : 64 * q + 64 ≤ PM.length
    · have HW1 := hide (words_any _ PM (64 * q) wr (HPM.out.below hbel) hlt (by omega))
      have hcb := take_lt HBY.out (64 * q) 64
      have HCH := hide (fun wx => chunk_any (absorb PM q) (absorb_ok PM q) (sched ((PM.drop (64 * q)).take 64) 64) (sched_len _ _) (sched_lt hcb 64) wx)
      rw [hka] at HCH
      have HNX : Hid ((absorb PM q).add (rounds Ks (sched ((PM.drop (64 * q)).take 64) 64) (absorb PM q) 64) = absorb PM (q + 1)) := Eq.refl _
      rw [HNX.out] at HCH
      have hwl : ((sched ((PM.drop (64 * q)).take 64) 64).map wordV).toArray.size = 64 := by simp [sched_len]
      have hwo := wordV_one (sched ((PM.drop (64 * q)).take 64) 64)
      have hws : (Tryd.prog.info? 80).map (·.size) = some ((sched ((PM.drop (64 * q)).take 64) 64).map wordV).toArray.size := by rw [hwl]; exact Tryd.sizeW
      have hwz : zeroW.size = ((sched ((PM.drop (64 * q)).take 64) 64).map wordV).toArray.size := by rw [hwl]; rfl
      obtain ⟨wa, hwa⟩ : ∃ wa, ((sched ((PM.drop (64 * q)).take 64) 64).map wordV).toArray = wa := ⟨_, rfl⟩
      rw [hwa] at HW1 HCH hwo hws hwz
      obtain ⟨na, hna⟩ : ∃ na, ((absorb PM (q + 1)).list.map wordV).toArray = na := ⟨_, rfl⟩
      obtain ⟨sa, hsa⟩ : ∃ sa, ((absorb PM q).list.map wordV).toArray = sa := ⟨_, rfl⟩
      have hs1 : (Tryd.prog.info? 64).map (·.size) = some sa.size := by rw [← hsa, list_size]; exact Tryd.size8w
      have hs2 : (Tryd.prog.info? 64).map (·.size) = some na.size := by rw [← hna, list_size]; exact Tryd.size8w
      have hs3 : sa.size = na.size := by rw [← hsa, ← hna, list_size, list_size]
      have hno : na.all (·.oneCell') = true := by rw [← hna]; exact wordV_one _
      rw [hna, hsa] at HCH
      rw [hsa] at hrow
      have hks : (Tryd.prog.info? 80).map (·.size) = some ka.size := by rw [← hka]; exact Tryd.sizeW
      have HNA := hide hna
      have HRW := hide hrow
      have HBL := hide hbel
      obtain ⟨p, hp⟩ : ∃ p, 64 * q = p := ⟨_, rfl⟩
      rw [hp] at HW1 hlt ⊢
      have HP := hide hp
      have hszr := hbel.size
      clear hwa hwl hna hsa hcb hbel hrow HNX hq hp
      go_wp2_with fail
      refine HW1.out.mono ?_
      rintro e wa1 ⟨rfl, hb2⟩
      have HBa := hide ((HBL.out.trans (hb2.mono hszr)).alloc (Nat.le_trans hszr hb2.size) (.cells wa 80))
      have HRa := hide (heap_more (.cells wa 80) (heap_kept hb2 HRW.out))
      have HWa := hide (Go.heap_alloc_new wa1 (.cells wa 80))
      have HKa := hide (heap_kept HBa.out RK.out)
      clear hb2 HW1 HBL HRW
      go_wp2_with (first
        | refine wpList_alloc_as rfl 80 rfl (.agg zeroW) zeroW Tryd.zeroW rfl ?_
        | (refine wpList_store_row rfl 80 (.tmp 10) (.tmp 25) rfl wa1.heap.size wa (by first | rfl | simp [Act.eval, Act.put]) (by first | rfl | simp [Act.eval, Act.put]) 80 zeroW (Go.heap_alloc_new wa1 _) hws hwz hwo ?_; rw [World.setRow_alloc_new])
        | refine wpList_load_row rfl 64 (.tmp 8) rfl w1.heap.size rfl 64 sa (0, 0) _ HRa.out Tryd.underlying64 rfl hs1 ?_
        | refine wpList_load_row rfl 80 (.tmp 10) rfl wa1.heap.size rfl 80 wa (0, 0) _ HWa.out Tryd.underlying80 rfl hws ?_
        | refine wpList_load_row rfl 80 (.tmp 5) rfl (w.heap.size + 1) rfl 80 ka (0, 0) _ HKa.out Tryd.underlying80 rfl hks ?_)
      refine (HCH.out _).mono ?_
      rintro e wb ⟨rfl, hb3⟩
      have HRb := hide (heap_kept hb3 HRa.out)
      have HBb := hide (HBa.out.trans (hb3.mono HBa.out.size))
      have HNR := hide (setRow_heap wb w1.heap.size sa na 64 (0, 0) HRb.out)
      clear hb3 HCH HRa HBa HWa HKa
      go_wp2_with (refine wpList_store_row rfl 64 (.tmp 8) (.tmp 29) rfl w1.heap.size na rfl rfl 64 sa HRb.out hs2 hs3 hno ?_)
      go_roundw
      case rel => exact ⟨q + 1, by have := HP.out; omega, by have := HP.out; go_num, below_setRow HBb.out (Nat.le_refl _) _, by rw [HNA.out]; exact HNR.out⟩
      case measure => simp [intOf]; omega
    · have hqe : PM.length / 64 = q := by omega
      have HQE : Hid (shaL l = bytesS (absorb PM q) 32) := by show _ = _; rw [HSH.out, hqe]
      have HLT := hide (list_lt (absorb_ok PM q))
      have HX : Hid (∀ i, i < 8 → (((absorb PM q).list.map wordV).toArray)[i]? = some (.int .u32 ((absorb PM q).list.getD i 0 : Nat))) := by
        intro i hi; rw [List.getElem?_toArray, map_wordV_getD (by simpa [St.list] using hi)]
      have HSU := hide (fun k => bytesS_succ (absorb PM q) k)
      generalize hST : absorb PM q = ST at *
      obtain ⟨sa, hsa⟩ : ∃ sa, (ST.list.map wordV).toArray = sa := ⟨_, rfl⟩
      rw [hsa] at hrow HX
      have HZ0 := hide (heap_kept hbel RZ.out)
      have hszr := hbel.size
      have hsw : w1.heap.size < wr.heap.size := (Array.getElem?_eq_some_iff.1 hrow).1
      have HIN : Hid (OutInv w1 (wr.alloc (.cells zero32 43)) w1.heap.size wr.heap.size sa zero32) := ⟨heap_more _ hrow, Go.heap_alloc_new _ _, hbel.alloc hszr _⟩
      obtain ⟨p, hp⟩ : ∃ p, 64 * q = p := ⟨_, rfl⟩
      rw [hp] at hlt hq ⊢
      clear hrow hbel hqe HSH hsa hp HPM HBY hST HST0
      go_wp2_with (refine wpList_alloc_as rfl 43 rfl (.agg zero32) zero32 Tryd.zero32 rfl ?_)
      obtain ⟨go', hgo⟩ : ∃ g, wr.heap.size = g := ⟨_, rfl⟩
      rw [hgo] at hsw hszr HIN ⊢
      generalize wr.alloc (.cells zero32 43) = W2 at *
      clear hgo
      go_loopw [12] (fun i wx => ∃ k : Nat, k ≤ 8 ∧ i = .int .i64 k ∧ ∃ ys : Array Value, OutInv w1 wx w1.heap.size go' sa ys ∧ ys.size = 32 ∧ ys.toList.take (4 * k) = (bytesS ST (4 * k)).map byteV) (fun i _ => 8 - (intOf i).toNat)
      case atStart => exact ⟨0, Nat.zero_le _, rfl, _, HIN.out, rfl, rfl⟩
      case round =>
        clear HIN
        obtain ⟨k, hk, rfl, ys, hin, hy1, hy2⟩ := hrel
        by_cases hltk : k < 8
        · obtain ⟨x, hx⟩ : ∃ x, ST.list.getD k 0 = x := ⟨_, rfl⟩
          have hxs := HX.out k hltk
          have hxl := HLT.out k
          rw [hx] at hxs hxl
          have hsu0 := HSU.out (4 * k)
          have hsu1 := HSU.out (4 * k + 1)
          have hsu2 := HSU.out (4 * k + 2)
          have hsu3 := HSU.out (4 * k + 3)
          have hba : ∀ j, j < 4 → byteAt ST.list (4 * k + j) = x / 2 ^ (24 - 8 * j) % 256 := by
            intro j hj
            rw [byteAt, show (4 * k + j) / 4 = k by omega, show (4 * k + j) % 4 = j by omega, hx]
          rw [show 4 * k = 4 * k + 0 from rfl, hba 0 (by omega)] at hsu0
          rw [hba 1 (by omega)] at hsu1
          rw [hba 2 (by omega)] at hsu2
          rw [hba 3 (by omega)] at hsu3
          obtain ⟨i0, e0⟩ : ∃ i, 4 * k = i := ⟨_, rfl⟩
          obtain ⟨y0, ey0⟩ : ∃ y, x / 16777216 % 256 = y := ⟨_, rfl⟩
          obtain ⟨y1, ey1⟩ : ∃ y, x / 65536 % 256 = y := ⟨_, rfl⟩
          obtain ⟨y2, ey2⟩ : ∃ y, x / 256 % 256 = y := ⟨_, rfl⟩
          obtain ⟨y3, ey3⟩ : ∃ y, x / 1 % 256 = y := ⟨_, rfl⟩
          have hS : Hid (bytesS ST (4 * (k + 1)) = bytesS ST i0 ++ [y0, y1, y2, y3]) := by
            show _ = _
            rw [show 4 * (k + 1) = 4 * k + 3 + 1 by omega, hsu3, hsu2, hsu1]
            have h0 : bytesS ST (4 * k + 1) = bytesS ST (4 * k) ++ [y0] := by rw [← ey0]; exact hsu0
            rw [h0, ← e0, ← ey1, ← ey2, ← ey3]
            simp
          rw [e0] at hy2
          have g0 : 4 * (k : Int) = (i0 : Int) := by omega
          have l0 : (i0 : Int) < 32 := by omega
          have lk : (k : Int) < 8 := by omega
          have q0 : (x : Int) / 16777216 = (y0 : Int) := by omega
          have q1 : (x : Int) / 65536 % 256 = (y1 : Int) := by omega
          have q2 : (x : Int) / 256 % 256 = (y2 : Int) := by omega
          have q3 : (x : Int) % 256 = (y3 : Int) := by omega
          have hi32 : i0 + 4 ≤ 32 := by omega
          clear hsu0 hsu1 hsu2 hsu3 hba ey0 ey1 ey2 ey3 hx
          have HXS := hide hxs
          have HE0 := hide e0
          clear hxs e0
          have cs0 : (wr).cell? ⟨w1.heap.size, k, none⟩ = some (.int .u32 (x : Int)) := by rw [cell_of_row _ _ k sa 64 (0, 0) hin.os]; exact HXS.out
          have sz0 : (ys).size = 32 := hy1
          obtain ⟨v0, st0⟩ := row_some (k := i0) hin.oo (by omega)
          have fz0 : (wr).frozen? ⟨go', i0, none⟩ = false := frozen_of_row _ _ _ _ 43 hin.oo
          have hin1 := hin.put (by omega) (by omega) (i0) (.int .u8 (y0 : Int))
          have cs1 : ((wr).setCell ⟨go', i0, none⟩ (.int .u8 (y0 : Int))).cell? ⟨w1.heap.size, k, none⟩ = some (.int .u32 (x : Int)) := by rw [cell_of_row _ _ k sa 64 (0, 0) hin1.os]; exact HXS.out
          have sz1 : ((ys).setIfInBounds (i0) (.int .u8 (y0 : Int))).size = 32 := by rw [Array.size_setIfInBounds]; exact sz0
          obtain ⟨v1, st1⟩ := row_some (k := i0 + 1) hin1.oo (by omega)
          have fz1 : ((wr).setCell ⟨go', i0, none⟩ (.int .u8 (y0 : Int))).frozen? ⟨go', i0 + 1, none⟩ = false := frozen_of_row _ _ _ _ 43 hin1.oo
          have hin2 := hin1.put (by omega) (by omega) (i0 + 1) (.int .u8 (y1 : Int))
          have cs2 : (((wr).setCell ⟨go', i0, none⟩ (.int .u8 (y0 : Int))).setCell ⟨go', i0 + 1, none⟩ (.int .u8 (y1 : Int))).cell? ⟨w1.heap.size, k, none⟩ = some (.int .u32 (x : Int)) := by rw [cell_of_row _ _ k sa 64 (0, 0) hin2.os]; exact HXS.out
          have sz2 : (((ys).setIfInBounds (i0) (.int .u8 (y0 : Int))).setIfInBounds (i0 + 1) (.int .u8 (y1 : Int))).size = 32 := by rw [Array.size_setIfInBounds]; exact sz1
          obtain ⟨v2, st2⟩ := row_some (k := i0 + 2) hin2.oo (by omega)
          have fz2 : (((wr).setCell ⟨go', i0, none⟩ (.int .u8 (y0 : Int))).setCell ⟨go', i0 + 1, none⟩ (.int .u8 (y1 : Int))).frozen? ⟨go', i0 + 2, none⟩ = false := frozen_of_row _ _ _ _ 43 hin2.oo
          have hin3 := hin2.put (by omega) (by omega) (i0 + 2) (.int .u8 (y2 : Int))
          have cs3 : ((((wr).setCell ⟨go', i0, none⟩ (.int .u8 (y0 : Int))).setCell ⟨go', i0 + 1, none⟩ (.int .u8 (y1 : Int))).setCell ⟨go', i0 + 2, none⟩ (.int .u8 (y2 : Int))).cell? ⟨w1.heap.size, k, none⟩ = some (.int .u32 (x : Int)) := by rw [cell_of_row _ _ k sa 64 (0, 0) hin3.os]; exact HXS.out
          have sz3 : ((((ys).setIfInBounds (i0) (.int .u8 (y0 : Int))).setIfInBounds (i0 + 1) (.int .u8 (y1 : Int))).setIfInBounds (i0 + 2) (.int .u8 (y2 : Int))).size = 32 := by rw [Array.size_setIfInBounds]; exact sz2
          obtain ⟨v3, st3⟩ := row_some (k := i0 + 3) hin3.oo (by omega)
          have fz3 : ((((wr).setCell ⟨go', i0, none⟩ (.int .u8 (y0 : Int))).setCell ⟨go', i0 + 1, none⟩ (.int .u8 (y1 : Int))).setCell ⟨go', i0 + 2, none⟩ (.int .u8 (y2 : Int))).frozen? ⟨go', i0 + 3, none⟩ = false := frozen_of_row _ _ _ _ 43 hin3.oo
          have hin4 := hin3.put (by omega) (by omega) (i0 + 3) (.int .u8 (y3 : Int))
          have HIN := hide hin4
          have HSZ : Hid ((((((ys).setIfInBounds (i0) (.int .u8 (y0 : Int))).setIfInBounds (i0 + 1) (.int .u8 (y1 : Int))).setIfInBounds (i0 + 2) (.int .u8 (y2 : Int))).setIfInBounds (i0 + 3) (.int .u8 (y3 : Int))).size = 32) := by show _ = _; rw [Array.size_setIfInBounds]; exact sz3
          have HTK : Hid ((((((ys).setIfInBounds (i0) (.int .u8 (y0 : Int))).setIfInBounds (i0 + 1) (.int .u8 (y1 : Int))).setIfInBounds (i0 + 2) (.int .u8 (y2 : Int))).setIfInBounds (i0 + 3) (.int .u8 (y3 : Int))).toList.take (4 * (k + 1)) = (bytesS ST (4 * (k + 1))).map byteV) := by
            show _ = _
            have t0 := take_succ_set (u := .int .u8 (y0 : Int)) (show i0 < ys.size by omega) hy2
            have t1 := take_succ_set (u := .int .u8 (y1 : Int)) (k := i0 + 1) (by rw [Array.size_setIfInBounds]; omega) t0
            have t2 := take_succ_set (u := .int .u8 (y2 : Int)) (k := i0 + 2) (by rw [Array.size_setIfInBounds, Array.size_setIfInBounds]; omega) t1
            have t3 := take_succ_set (u := .int .u8 (y3 : Int)) (k := i0 + 3) (by rw [Array.size_setIfInBounds, Array.size_setIfInBounds, Array.size_setIfInBounds]; omega) t2
            rw [hS.out, show 4 * (k + 1) = i0 + 3 + 1 by have := HE0.out; omega, t3]
            simp [byteV]
          clear hin hin1 hin2 hin3 hin4 sz0 sz1 sz2 sz3 hy1 hy2
          go_wp2
          go_roundw
          case rel => exact ⟨k + 1, by omega, by go_num, _, HIN.out, HSZ.out, HTK.out⟩
          case measure => simp [intOf]; omega
        · have hk8 : k = 8 := by omega
          subst hk8
          have hys : ys = ((shaL l).map byteV).toArray := by
            rw [List.take_of_length_le (by simp [hy1])] at hy2
            rw [HQE.out, ← hy2]
          obtain ⟨f1, f2, f3⟩ := sum_shape l
          rw [← hys] at f1 f2 f3
          have HE : Hid (Ending.returned (.agg ys) = .returned (.agg ((shaL l).map byteV).toArray)) := by show _ = _; rw [hys]
          have HRo := hide hin.oo
          have HRz := hide (heap_kept hin.ob RZ.out)
          have HBL : Hid (Below w.heap.size w wr) := RB.out.trans (hin.ob.mono RB.out.size)
          have HRS := hide (setRow_heap wr (w.heap.size + 1 + 1) zero32 ys 43 (0, 0) HRz.out)
          clear hin hy1 hy2 hys hltk hk HQE HLT HX HSU
          go_wp2_with (first
            | refine wpList_load_row rfl 43 (.tmp 11) rfl go' rfl 43 ys (0, 0) _ HRo.out Tryd.underlying43 rfl f1 ?_
            | refine wpList_store_row rfl 43 (.tmp 6) (.tmp 68) rfl (w.heap.size + 1 + 1) ys rfl rfl 43 zero32 HRz.out f1 f2 f3 ?_)
          exact bodyPost_ret (v := .agg ys) (results_cell_row rfl _ _ (w.heap.size + 1 + 1) 43 ys (0, 0) _ rfl HRS.out Tryd.underlying43 rfl f1) rfl ⟨HE.out, below_setRow HBL.out (by omega) _⟩

set_option maxRecDepth 100000 in
set_option maxHeartbeats 2000000 in
theorem refSum_any (v : Value) (l : List Nat) (w : World) (h : BSl w v l) (hr : l.length + 72 ≤ 140737488355328) (hB : Tab w 1 H0) (hR : Tab w 2 Ks) :
    Calls Tryd.prog 29 #[v] w fun e w' => e = .returned (.agg ((shaL l).map byteV).toArray) ∧ Below w.heap.size w w' := by
  have HV := hide h
  obtain ⟨h1, h2, h3⟩ := sum_shape l
  have HSZ := hide h1
  have HZS := hide h2
  have HON := hide h3
  have HBR := hide ((hB.below (below_alloc w (.cells zero32 43))).range)
  have HRR := hide ((hR.below (below_alloc w (.cells zero32 43))).range)
  have HZ := hide (Go.heap_alloc_new w (.cells zero32 43))
  clear h hB hR h1 h2 h3
  go_enter Tryd.func29, Tryd.ntmps29
  go_wp2_with (first
    | refine wpList_alloc_as rfl 43 rfl (.agg zero32) zero32 Tryd.zero32 rfl ?_
    | refine wpList_load_mid rfl 64 _ rfl 1 0 rfl (H0.map wordV) _ HBR.out Tryd.underlying64 rfl Tryd.size8w ?_
    | refine wpList_load_mid rfl 80 _ rfl 2 0 rfl (Ks.map wordV) _ HRR.out Tryd.underlying80 rfl Tryd.sizeW ?_)
  refine (sumWith_any v l _ (HV.out.below (below_alloc _ _)) hr).mono ?_
  rintro e w3 ⟨rfl, hb3⟩
  have HZ3 := hide (heap_kept hb3 HZ.out)
  have HB3 := hide ((below_alloc w (.cells zero32 43)).trans (hb3.mono (by simp)))
  have HRS := hide (setRow_heap w3 w.heap.size zero32 ((shaL l).map byteV).toArray 43 (0, 0) HZ3.out)
  generalize hoa : ((shaL l).map byteV).toArray = oa at *
  have HOA := hide hoa
  clear hb3 HZ hoa
  go_wp2_with (refine wpList_store_row rfl 43 _ _ rfl w.heap.size oa rfl rfl 43 zero32 HZ3.out HSZ.out HZS.out HON.out ?_)
  exact bodyPost_ret (v := .agg oa) (results_cell_row rfl _ _ w.heap.size 43 oa (0, 0) _ rfl HRS.out Tryd.underlying43 rfl HSZ.out) rfl ⟨by rw [HOA.out], below_setRow HB3.out (Nat.le_refl _) _⟩
end Go.Proofs.YtkjaaknlhmneoabDoor
namespace Go.Proofs.YtkjaaknlhmneoabDoor
open Go.RowKit Go.Lib
open Num
set_option linter.unusedVariables false
set_option linter.unusedSimpArgs false
set_option maxRecDepth 20000

theorem rseal_no (w : World) (s : Sup) (hw : s.Wf) (ho : s.ok = false) : Calls Tryd.prog 16 #[s.val] w fun e w' => e = .returned (.tuple #[.slice none 0 0, .int .i64 53]) ∧ Below w.heap.size w w' := by
  have H1 := hide fun x => fit_any x s hw
  rw [ho] at H1
  have HB := hide (Below.refl w.heap.size w)
  clear hw ho
  unfold Sup.val Sup.row at *
  go_enter Tryd.func16, Tryd.ntmps16
  go_wp2_with (go_at_call 27; refine (H1.out _).mono ?_; rintro e w1 ⟨rfl, hb1⟩; have HB1 := hide hb1; have hsz1 := HB1.out.size; clear hb1)
  go_ret2
  exact ⟨rfl, (HB.out.alloc (Nat.le_refl _) _).trans (HB1.out.mono (by simp))⟩
/-- the row that grows, beside the digest's box -/
structure AP (w wr : World) (db : Nat) (ys : Array Value) (v : Value) (L : List Nat) : Prop where
  own : Own wr w.heap.size v L
  row : wr.heap[db]? = some (.cells ys 43 (0, 0))
  bel : Below w.heap.size w wr
  ap : v.ownBlock ≠ some db
theorem AP.le {w wr : World} {db : Nat} {ys : Array Value} {v : Value} {L : List Nat} (h : AP w wr db ys v L) : w.heap.size ≤ wr.heap.size := h.bel.size
theorem AP.alloc {w wr : World} {db : Nat} {ys : Array Value} {v : Value} {L : List Nat} (h : AP w wr db ys v L) (o : Obj) : AP w (wr.alloc o) db ys v L :=
  ⟨h.own.grown rfl, (heap_alloc_old wr o (Array.getElem?_eq_some_iff.1 h.row).1).trans h.row, h.bel.alloc h.le _, h.ap⟩
theorem AP.grow {w wr w' : World} {db : Nat} {ys : Array Value} {v v' : Value} {L L' : List Nat} (h : AP w wr db ys v L) (ho : Own w' w.heap.size v' L') (hg : wr.grownBy w' v.ownBlock) (ha : v'.ownBlock = v.ownBlock ∨ v'.ownBlock = some wr.heap.size) : AP w w' db ys v' L' := by
  have hd := (Array.getElem?_eq_some_iff.1 h.row).1
  refine ⟨ho, (hg.block db hd fun e => h.ap e.symm).trans h.row, h.bel.grown hg h.le fun j hj => (h.own.1.lt j hj).1, ?_⟩
  rcases ha with e | e
  · rw [e]; exact h.ap
  · rw [e]; intro e2; injection e2 with e2; omega
theorem wpList_app3 {ops : Array Oper} {rest : List Oper} {o : Oper} {a : Act} {w wr : World} {Q : Exit → Act → World → Prop} (hgd : o.guard = none) (s x : Operand)
    (ho : o.op = .call { callee := .builtin .append, args := #[s, x], argTypes := #[28, 28] })
    (db : Nat) (ys : Array Value) (v vx : Value) (l0 : List Nat) (y : Nat) (hs : a.eval s = v) (hx : a.eval x = vx) (hown : AP w wr db ys v l0) (hb : BSl wr vx [y]) (hlen : l0.length + 1 ≤ 140737488355328)
    (h : ∀ v' w', AP w w' db ys v' (l0 ++ [y]) → wpList Tryd.prog ops Q rest (a.put o.dst v') w') : wpList Tryd.prog ops Q (o :: rest) a wr := by
  obtain ⟨i0, hi, hz0, hz1, hz2⟩ := info_parts Tryd.info5
  have hb' := hb
  obtain ⟨ad, cap, rfl, hl, hm, hn, hbb, hcc⟩ := hb'
  obtain ⟨b, off, rfl, hcell⟩ := hcc (by simp)
  refine wpList_append_own_at _ hgd s x 28 ho w.heap.size 5 i0 (.int .u8 0) 1 1 Tryd.underlying28 hi hz0 hz1 hz2 rfl (by decide) v l0.length _ hs hown.own.1 ⟨b, off, none⟩ 1 cap ([y].map byteV) hx (by simp) hb.news (byteV_oneCell _) (by unfold maxLen; omega) (by omega) hown.le ?_
  intro v' w1 hown' hg hiff hat
  exact h v' w1 (hown.grow ⟨by rw [List.length_append, List.map_append]; exact hown', fun z hz => (List.mem_append.1 hz).elim (hown.own.2 z) (hbb z)⟩ hg hat)
theorem cells10 {w : World} {g : Nat} {x0 x1 x2 x3 x4 x5 x6 x7 x8 x9 : Value} (h : ∀ j, w.cell? ⟨g, j, none⟩ = (#[x0, x1, x2, x3, x4, x5, x6, x7, x8, x9] : Array Value)[j]?) : w.cell? ⟨g, 0, none⟩ = some x0 ∧ w.cell? ⟨g, 1, none⟩ = some x1 ∧ w.cell? ⟨g, 2, none⟩ = some x2 ∧ w.cell? ⟨g, 3, none⟩ = some x3 ∧ w.cell? ⟨g, 4, none⟩ = some x4 ∧ w.cell? ⟨g, 5, none⟩ = some x5 ∧ w.cell? ⟨g, 6, none⟩ = some x6 ∧ w.cell? ⟨g, 7, none⟩ = some x7 ∧ w.cell? ⟨g, 8, none⟩ = some x8 ∧ w.cell? ⟨g, 9, none⟩ = some x9 := ⟨h 0, h 1, h 2, h 3, h 4, h 5, h 6, h 7, h 8, h 9⟩
set_option maxHeartbeats 4000000 in
theorem rseal_yes (w : World) (s : Sup) (hOk : s.Ok) (hB : Tab w 1 H0) (hR : Tab w 2 Ks) : Calls Tryd.prog 16 #[s.val] w fun e w' => ∃ v, e = .returned (.tuple #[v, .int .i64 0]) ∧ Own w' w.heap.size v s.enc ∧ Below w.heap.size w w' := by
  have H1 := hide fun x => fit_any x s hOk.wf
  rw [hOk.ok] at H1
  have HX := hide (Bx.start w s)
  have HTB := hide hB
  have HTR := hide hR
  obtain ⟨q, nz, g0, g1, g2, g3, f, b, k, mk, hs, hn1, hn2, hnt, hv, hr⟩ := hOk.parts
  obtain ⟨N, hN⟩ : ∃ N, N + 32 = nz := ⟨nz - 32, by omega⟩
  have HH := hide fun x => rhead_x x s hOk N (by omega) (by omega) (by omega)
  rw [hN] at HH
  have HHL : Hid (s.head.length = N) := hide (by have := Sup.enc_len hOk; rw [Sup.enc, List.length_append, shaL_len] at this; omega)
  have HC : Hid (∀ w1, Bx w w1 s → ∀ j, w1.cell? ⟨w.heap.size, j, none⟩ = (#[.int .u64 (q : Int), .int .i64 b, .int .i64 (nz : Int), .int .i64 k, .int .u64 (g0 : Int), .int .u64 (g1 : Int), .int .u64 (g2 : Int), .int .u64 (g3 : Int), .int .u32 (f : Int), .int .i64 mk] : Array Value)[j]?) := hide fun w1 h j => by rw [h.cell j, hr]
  have HSU : Hid (∀ w2 g base, Room w2 base g N s.head → Bx w w2 s → Calls Tryd.prog 29 #[.slice (some ⟨g, 0, none⟩) N N] w2 fun e w' => e = .returned (.agg ((shaL s.head).map byteV).toArray) ∧ Below w2.heap.size w2 w') := hide fun w2 g base hr hx => by
    have hb := hr.own.bsl
    unfold gsl at hb
    rw [HHL.out] at hb
    exact refSum_any _ s.head w2 hb (by rw [HHL.out]; omega) (HTB.out.below hx.below) (HTR.out.below hx.below)
  rw [hv] at H1 HH ⊢
  rw [hr] at HX
  obtain ⟨f1, f2, f3⟩ := sum_shape s.head
  obtain ⟨ys, hys⟩ : ∃ ys, ((shaL s.head).map byteV).toArray = ys := ⟨_, rfl⟩
  rw [hys] at HSU f1 f2 f3
  have HYS := hide hys
  clear hys
  clear hs hnt hv hr hOk hB hR
  go_enter Tryd.func16, Tryd.ntmps16
  go_wp2_with (first
    | (go_at_call 27; refine (H1.out _).mono ?_; rintro e w1 ⟨rfl, hb1⟩; have HB1 := hide (HX.out.below' hb1); obtain ⟨c0, c1, c2, c3, c4, c5, c6, c7, c8, c9⟩ := cells10 (HC.out _ HB1.out); have hsz1 := HB1.out.size; clear hb1)
    | (go_at_call 28; refine (HH.out _).mono ?_; rintro e w2 ⟨g, rfl, hr2, hb2⟩; have HR2 := hide hr2; have HB2 := hide (HB1.out.below' hb2); clear hr2 hb2; unfold gsl)
    | (go_at_call 29; refine (HSU.out _ _ _ HR2.out HB2.out).mono ?_; rintro e w3 ⟨rfl, hb3⟩; have HB3 := hide (HB2.out.below' hb3); have HR3 := hide (HR2.out.kept hb3); clear hb3 HR2 HB2 HB1)
    | (refine wpList_store_row rfl 43 (.tmp 6) (.tmp 17) rfl w3.heap.size ys rfl rfl 43 zero32 (Go.heap_alloc_new w3 _) f1 f2 f3 ?_; rw [World.setRow_alloc_new]))
  have HA : Hid (AP w (w3.alloc (.cells ys 43)) w3.heap.size ys (.slice (some ⟨g, 0, none⟩) N N) (s.head ++ (shaL s.head).take 0)) := hide (by
    rw [List.take_zero, List.append_nil]
    have hx := (HR3.out.mono (base' := w.heap.size) (by have := HB3.out.size; omega) (by have := HB3.out.size; omega)).own
    unfold gsl at hx
    refine ⟨?_, Go.heap_alloc_new _ _, HB3.out.below.alloc HB3.out.below.size _, ?_⟩
    · rw [HHL.out] at hx
      exact hx.grown rfl
    · rw [HHL.out] at hx
      intro e
      have := (hx.1.lt _ e).2
      omega)
  have HBY : Hid (∀ j, j < 32 → ys[j]? = some (.int .u8 ((shaL s.head).getD j 0 : Nat)) ∧ (shaL s.head).getD j 0 < 256 ∧ (s.head ++ (shaL s.head).take j) ++ [(shaL s.head).getD j 0] = s.head ++ (shaL s.head).take (j + 1) ∧ (s.head ++ (shaL s.head).take j).length + 1 ≤ 140737488355328) := hide fun j hj => by
    have hl := shaL_len s.head
    refine ⟨?_, ?_, ?_, ?_⟩
    · rw [← HYS.out, List.getElem?_toArray, map_byteV_getD (by omega)]
    · rw [List.getD_eq_getElem?_getD, List.getElem?_eq_getElem (by omega)]
      exact shaL_lt _ _ (List.getElem_mem _)
    · rw [List.append_assoc, List.take_succ_eq_append_getElem (by omega), List.getD_eq_getElem?_getD, List.getElem?_eq_getElem (by omega)]
      rfl
    · rw [List.length_append, HHL.out, List.length_take]; omega
  have HEN : Hid (s.head ++ (shaL s.head).take 32 = s.enc) := hide (by rw [List.take_of_length_le (by rw [shaL_len]; omega)]; rfl)
  generalize w3.alloc (.cells ys 43) = w4 at *
  generalize w3.heap.size = db at *
  clear HR3 HB3
  go_loopw [5, 7] (fun v i wr => ∃ j : Nat, j ≤ 32 ∧ i = .int .i64 j ∧ AP w wr db ys v (s.head ++ (shaL s.head).take j)) (fun _ i _ => 32 - (intOf i).toNat)
  case atStart => exact ⟨0, Nat.zero_le _, rfl, HA.out⟩
  case round =>
    clear HA
    obtain ⟨j, hj, rfl, hd⟩ := hrel
    have HD := hide hd
    clear hd
    by_cases hlt : j < 32
    · obtain ⟨b1, b2, b3, b4⟩ := HBY.out j hlt
      have cy : wr.cell? ⟨db, j, none⟩ = some (.int .u8 ((shaL s.head).getD j 0 : Nat)) := by rw [cell_of_row _ _ _ _ _ _ HD.out.row, b1]
      have HB3 := hide b3
      have HB4 := hide b4
      clear b1 b3 b4
      generalize (shaL s.head).getD j 0 = y at *
      go_wp2_with (at_builtin; refine wpList_app3 rfl (.tmp 22) (.tmp 26) rfl db ys _ _ _ y rfl rfl (HD.out.alloc _) (BSl.one y b2 _) HB4.out ?_; intro v' w' ha; have HA := hide ha; clear ha)
      go_roundw
      case rel =>
        refine ⟨j + 1, by omega, by go_num, ?_⟩
        rw [← HB3.out]
        exact HA.out
      case measure => simp [intOf]; omega
    · obtain rfl : j = 32 := by omega
      go_wp2_with fail
      go_ret2
      refine ⟨_, rfl, ?_, HD.out.bel⟩
      rw [← HEN.out]
      exact HD.out.own
end Go.Proofs.YtkjaaknlhmneoabDoor
namespace Go.Proofs.YtkjaaknlhmneoabDoor
open Go.RowKit Go.Lib
open Num
set_option linter.unusedVariables false
set_option linter.unusedSimpArgs false
set_option maxRecDepth 20000

/-- a row that grows: what else was stays -/
structure GR (w wr : World) (v0 v : Value) (L : List Nat) : Prop where
  own : Own wr 0 v L
  gr : w.grownBy wr v0.ownBlock
  at' : v.ownBlock = v0.ownBlock ∨ ∃ k, v.ownBlock = some k ∧ w.heap.size ≤ k
theorem GR.alloc {w wr : World} {v0 v : Value} {L : List Nat} (h : GR w wr v0 v L) (o : Obj) : GR w (wr.alloc o) v0 v L :=
  ⟨h.own.grown rfl, ⟨h.gr.os, h.gr.tape, h.gr.output, by have := h.gr.size; rw [World.size_alloc]; omega, fun k hk hne => (heap_alloc_old wr o (Nat.lt_of_lt_of_le hk h.gr.size)).trans (h.gr.block k hk hne)⟩, h.at'⟩
theorem GR.grow {w wr w' : World} {v0 v v' : Value} {L L' : List Nat} (h : GR w wr v0 v L) (ho : Own w' 0 v' L') (hg : wr.grownBy w' v.ownBlock) (ha : v'.ownBlock = v.ownBlock ∨ v'.ownBlock = some wr.heap.size) : GR w w' v0 v' L' := by
  have hs := h.gr.size
  refine ⟨ho, ⟨hg.os.trans h.gr.os, hg.tape.trans h.gr.tape, hg.output.trans h.gr.output, Nat.le_trans hs hg.size, fun k hk hne => (hg.block k (by omega) ?_).trans (h.gr.block k hk hne)⟩, ?_⟩
  · rcases h.at' with e | ⟨j, e, hj⟩
    · rw [e]; exact hne
    · rw [e]; intro e2; injection e2 with e2; omega
  · rcases ha with e | e
    · rw [e]; exact h.at'
    · exact .inr ⟨_, e, hs⟩
theorem wpList_app4 {ops : Array Oper} {rest : List Oper} {o : Oper} {a : Act} {w wr : World} {Q : Exit → Act → World → Prop} (hgd : o.guard = none) (s x : Operand)
    (ho : o.op = .call { callee := .builtin .append, args := #[s, x], argTypes := #[28, 28] })
    (v0 v vx : Value) (l0 : List Nat) (y : Nat) (hs : a.eval s = v) (hx : a.eval x = vx) (hown : GR w wr v0 v l0) (hb : BSl wr vx [y]) (hlen : l0.length + 1 ≤ 140737488355328)
    (h : ∀ v' w', GR w w' v0 v' (l0 ++ [y]) → wpList Tryd.prog ops Q rest (a.put o.dst v') w') : wpList Tryd.prog ops Q (o :: rest) a wr := by
  obtain ⟨i0, hi, hz0, hz1, hz2⟩ := info_parts Tryd.info5
  have hb' := hb
  obtain ⟨ad, cap, rfl, hl, hm, hn, hbb, hcc⟩ := hb'
  obtain ⟨b, off, rfl, hcell⟩ := hcc (by simp)
  refine wpList_append_own_at _ hgd s x 28 ho 0 5 i0 (.int .u8 0) 1 1 Tryd.underlying28 hi hz0 hz1 hz2 rfl (by decide) v l0.length _ hs hown.own.1 ⟨b, off, none⟩ 1 cap ([y].map byteV) hx (by simp) hb.news (byteV_oneCell _) (by unfold maxLen; omega) (by omega) (Nat.zero_le _) ?_
  intro v' w1 hown' hg hiff hat
  exact h v' w1 (hown.grow ⟨by rw [List.length_append, List.map_append]; exact hown', fun z hz => (List.mem_append.1 hz).elim (hown.own.2 z) (hbb z)⟩ hg hat)
set_option maxHeartbeats 4000000 in
theorem grown_any (w : World) (v : Value) (L : List Nat) (y : Nat) (hy : y < 256) (hL : L.length ≤ 100000) (h : Own w 0 v L) : Calls Tryd.prog 17 #[v, .int .u8 (y : Int)] w fun e w' => ∃ v', e = .returned v' ∧ GR w w' v v' (L ++ List.replicate 90 y) := by
  have HA : Hid (GR w w v v (L ++ List.replicate 0 y)) := hide (by
    rw [List.replicate_zero, List.append_nil]
    exact ⟨h, ⟨rfl, rfl, rfl, Nat.le_refl _, fun _ _ _ => rfl⟩, .inl rfl⟩)
  have HLL : Hid (∀ j, j < 90 → (L ++ List.replicate j y).length + 1 ≤ 140737488355328) := hide fun j hj => by rw [List.length_append, List.length_replicate]; omega
  have HLS : Hid (∀ j, (L ++ List.replicate j y) ++ [y] = L ++ List.replicate (j + 1) y) := hide fun j => by rw [List.append_assoc, ← List.replicate_succ']
  clear h hL
  go_enter Tryd.func17, Tryd.ntmps17
  go_wp2_with fail
  go_loopw [0, 5] (fun u i wr => ∃ j : Nat, j ≤ 90 ∧ i = .int .i64 j ∧ GR w wr v u (L ++ List.replicate j y)) (fun _ i _ => 90 - (intOf i).toNat)
  case atStart => exact ⟨0, Nat.zero_le _, rfl, HA.out⟩
  case round =>
    clear HA
    obtain ⟨j, hj, rfl, hd⟩ := hrel
    have HD := hide hd
    clear hd
    by_cases hlt : j < 90
    · have HB4 := hide (HLL.out j hlt)
      go_wp2_with (at_builtin; refine wpList_app4 rfl (.tmp 10) (.tmp 12) rfl v _ _ _ y rfl rfl (HD.out.alloc _) (BSl.one y hy _) HB4.out ?_; intro v' w' ha; have HA := hide ha; clear ha)
      go_roundw
      case rel =>
        refine ⟨j + 1, by omega, by go_num, ?_⟩
        rw [← HLS.out]
        exact HA.out
      case measure => simp [intOf]; omega
    · obtain rfl : j = 90 := by omega
      go_wp2_with fail
      go_ret
      exact ⟨_, rfl, HD.out⟩
end Go.Proofs.YtkjaaknlhmneoabDoor
namespace Go.Proofs.YtkjaaknlhmneoabDoor
open Go.RowKit Go.Lib
open Num
set_option linter.unusedVariables false
set_option linter.unusedSimpArgs false
set_option maxRecDepth 20000

/-- what Seal says of any superblock: the bytes, and the error's number -/
def Sup.slb (s : Sup) : List Nat := if s.ok = true then s.enc else []
def Sup.sle (s : Sup) : Int := if s.ok = true then 0 else 53
def SlP (w : World) (s : Sup) (e : Ending) (w' : World) : Prop := ∃ v, e = .returned (.tuple #[v, .int .i64 s.sle]) ∧ Own w' w.heap.size v s.slb ∧ Below w.heap.size w w'
theorem Own.nil (w : World) (base : Nat) : Own w base (.slice none 0 0) [] := ⟨⟨rfl, .inl ⟨rfl, rfl⟩⟩, by simp⟩
theorem seal_sl (w : World) (s : Sup) (hw : s.Wf) (hT : Tabs w) : Calls Tryd.prog 8 #[s.val] w fun e w' => SlP w s e w' := by
  cases ho : s.ok with
  | false =>
    refine (seal_no w s hw ho).mono ?_
    rintro e w' ⟨rfl, hb⟩
    exact ⟨_, by rw [Sup.sle, ho]; rfl, by rw [Sup.slb, ho]; exact Own.nil _ _, hb⟩
  | true =>
    refine (seal_yes w s hw ho hT).mono ?_
    rintro e w' ⟨g, rfl, hr, hb⟩
    have hl := Sup.enc_len ⟨ho, hw⟩
    have hx := hr.own
    unfold gsl at hx
    rw [hl] at hx
    exact ⟨_, by rw [Sup.sle, ho]; rfl, by rw [Sup.slb, ho]; exact hx, hb⟩
theorem rseal_sl (w : World) (s : Sup) (hw : s.Wf) (hB : Tab w 1 H0) (hR : Tab w 2 Ks) : Calls Tryd.prog 16 #[s.val] w fun e w' => SlP w s e w' := by
  cases ho : s.ok with
  | false =>
    refine (rseal_no w s hw ho).mono ?_
    rintro e w' ⟨rfl, hb⟩
    exact ⟨_, by rw [Sup.sle, ho]; rfl, by rw [Sup.slb, ho]; exact Own.nil _ _, hb⟩
  | true =>
    refine (rseal_yes w s ⟨ho, hw⟩ hB hR).mono ?_
    rintro e w' ⟨v, rfl, hr, hb⟩
    exact ⟨_, by rw [Sup.sle, ho]; rfl, by rw [Sup.slb, ho]; exact hr, hb⟩
/-- the next superblock -/
def Sup.next (s : Sup) : Sup := { s with seq := (s.seq + 1) % 18446744073709551616 }
theorem Sup.Wf.next {s : Sup} (h : s.Wf) : s.next.Wf := ⟨Nat.mod_lt _ (by decide), h.2⟩
end Go.Proofs.YtkjaaknlhmneoabDoor
namespace Go.Proofs.YtkjaaknlhmneoabDoor
open Go.RowKit Go.Lib
open Num
set_option linter.unusedVariables false
set_option linter.unusedSimpArgs false
set_option maxRecDepth 20000

/-- the world behind the boxes of s and of the next -/
def Twb (w : World) (s t : Sup) : World := (w.alloc (.cells s.row 27)).alloc (.cells t.row 27)
structure TB (w wr : World) (s t : Sup) : Prop where
  bel : Below (w.heap.size + 2) (Twb w s t) wr
theorem TB.start (w : World) (s t : Sup) : TB w (Twb w s t) s t := ⟨Below.refl _ _⟩
theorem TB.size {w wr : World} {s t : Sup} (h : TB w wr s t) : w.heap.size + 2 ≤ wr.heap.size := by have := h.bel.size; simp [Twb] at this; omega
theorem TB.trans {w wr w' : World} {s t : Sup} (h : TB w wr s t) (k : Below wr.heap.size wr w') : TB w w' s t := ⟨h.bel.trans (k.mono h.size)⟩
theorem TB.below {w wr : World} {s t : Sup} (h : TB w wr s t) : Below w.heap.size w wr := (((Below.refl _ _).alloc (Nat.le_refl _) _).alloc (by simp) _).trans (h.bel.mono (by omega))
theorem TB.one {w wr : World} {s t : Sup} (h : TB w wr s t) (j : Nat) : wr.cell? ⟨w.heap.size, j, none⟩ = s.row[j]? := by
  refine cell_of_row _ _ _ _ 27 (0, 0) ((h.bel.block _ (by omega)).trans ?_)
  exact heap_two' _ _ _
theorem TB.two {w wr : World} {s t : Sup} (h : TB w wr s t) (j : Nat) : wr.cell? ⟨w.heap.size + 1, j, none⟩ = t.row[j]? := by
  refine cell_of_row _ _ _ _ 27 (0, 0) ((h.bel.block _ (by omega)).trans ?_)
  exact heap_alloc2_new _ _ _
theorem Sup.next_q {q : Nat} : IntKind.u64.wrap ((q : Int) + 1) = (((q + 1) % 18446744073709551616 : Nat) : Int) := by rw [IntKind.wrap_u64]; omega
/-- five lists: what is done to the first leaves the others -/
structure SD (w wr : World) (B : Nat) (v1 v2 v3 v4 v5 : Value) (L T1 T2 : List Nat) : Prop where
  bel : Below w.heap.size w wr
  le : w.heap.size ≤ B
  o1 : Own wr w.heap.size v1 L
  lt : ∀ g, v1.ownBlock = some g → g < B
  o2 : Own wr B v2 T1
  o3 : Own wr B v3 T2
  o4 : Own wr B v4 T1
  o5 : Own wr B v5 T2
theorem Own.le {w : World} {b b' : Nat} {v : Value} {l : List Nat} (h : Own w b v l) (hb : b' ≤ b) : Own w b' v l := by
  refine ⟨⟨h.1.1, ?_⟩, h.2⟩
  rcases h.1.2 with e | ⟨g, cap, cur, e, h1, r⟩
  · exact .inl e
  · exact .inr ⟨g, cap, cur, e, Nat.le_trans hb h1, r⟩
theorem Own.keptIf {w w' : World} {base : Nat} {v : Value} {l : List Nat} (h : Own w base v l) (hk : ∀ g, v.ownBlock = some g → w'.heap[g]? = w.heap[g]?) : Own w' base v l := by
  refine ⟨⟨h.1.1, ?_⟩, h.2⟩
  rcases h.1.2 with e | ⟨g, cap, cur, rfl, h1, hg, r⟩
  · exact .inl e
  · exact .inr ⟨g, cap, cur, rfl, h1, (hk g rfl).trans hg, r⟩
theorem Own.at {w : World} {base : Nat} {v : Value} {l : List Nat} (h : Own w base v l) : ∀ g, v.ownBlock = some g → base ≤ g ∧ g < w.heap.size := World.ownsRow.lt h.1
section
variable {w wr y : World} {B : Nat} {v1 v2 v3 v4 v5 : Value} {L T1 T2 : List Nat}
theorem SD.below (h : SD w wr B v1 v2 v3 v4 v5 L T1 T2) (hb : Below wr.heap.size wr y) : SD w y B v1 v2 v3 v4 v5 L T1 T2 :=
  ⟨h.bel.trans (hb.mono h.bel.size), h.le, h.o1.kept hb, h.lt, h.o2.kept hb, h.o3.kept hb, h.o4.kept hb, h.o5.kept hb⟩
theorem SD.cell {g n c : Nat} (h : SD w wr B (.slice (some ⟨g, 0, none⟩) n c) v2 v3 v4 v5 L T1 T2) (hn : L.length = n) {j : Nat} (hj : j < n) : (∃ x : Int, wr.cell? ⟨g, j, none⟩ = some (.int .u8 x)) ∧ wr.frozen? ⟨g, j, none⟩ = false := by
  subst hn
  have h1 := h.o1.1
  refine ⟨?_, ?_⟩
  · have := h1.cellAt j (by simpa using hj)
    rw [this]
    simp [hj, byteV]
  · rcases h1.2 with ⟨e, _⟩ | ⟨g', cap, cur, e, _, hg, _⟩
    · cases e
    · simp only [Value.slice.injEq, Option.some.injEq, Addr.mk.injEq] at e
      obtain ⟨⟨rfl, -⟩, -⟩ := e
      simp [World.frozen?, hg]
theorem SD.set {g n c : Nat} (h : SD w wr B (.slice (some ⟨g, 0, none⟩) n c) v2 v3 v4 v5 L T1 T2) (hn : L.length = n) (j x : Nat) (hx : x < 256) : SD w (wr.setCell ⟨g, j, none⟩ (.int .u8 (x : Int))) B (.slice (some ⟨g, 0, none⟩) n c) v2 v3 v4 v5 (L.set j x) T1 T2 := by
  subst hn
  have hgB := h.lt g rfl
  have hgw := (h.o1.at g rfl).1
  have kp : ∀ b, b ≠ g → (wr.setCell ⟨g, j, none⟩ (.int .u8 (x : Int))).heap[b]? = wr.heap[b]? := fun b hb => Go.heap_setCell_other _ _ _ _ hb
  have ko : ∀ {v : Value} {l : List Nat}, Own wr B v l → Own (wr.setCell ⟨g, j, none⟩ (.int .u8 (x : Int))) B v l := fun ho => ho.keptIf fun b e => kp b (by have := (ho.at b e).1; omega)
  exact ⟨⟨h.bel.os, h.bel.tape, h.bel.output, by rw [World.size_setCell]; exact h.bel.size, fun b hb => (kp b (by omega)).trans (h.bel.block b hb)⟩, h.le, h.o1.stored j x hx, h.lt, ko h.o2, ko h.o3, ko h.o4, ko h.o5⟩
/-- the first has grown -/
structure SE (w wr : World) (B : Nat) (v2 v3 v4 v5 : Value) (T1 T2 : List Nat) : Prop where
  bel : Below w.heap.size w wr
  o2 : Own wr B v2 T1
  o3 : Own wr B v3 T2
  o4 : Own wr B v4 T1
  o5 : Own wr B v5 T2
theorem SE.below (h : SE w wr B v2 v3 v4 v5 T1 T2) (hb : Below wr.heap.size wr y) : SE w y B v2 v3 v4 v5 T1 T2 :=
  ⟨h.bel.trans (hb.mono h.bel.size), h.o2.kept hb, h.o3.kept hb, h.o4.kept hb, h.o5.kept hb⟩
theorem SD.grown {v' : Value} {L' : List Nat} (h : SD w wr B v1 v2 v3 v4 v5 L T1 T2) (hg : GR wr y v1 v' L') : SE w y B v2 v3 v4 v5 T1 T2 := by
  have ko : ∀ {v : Value} {l : List Nat}, Own wr B v l → Own y B v l := fun {v l} ho => ho.keptIf fun b e => hg.gr.block b (ho.at b e).2 (fun e2 => by have := (ho.at b e).1; have := h.lt b e2.symm; omega)
  exact ⟨⟨hg.gr.os.trans h.bel.os, hg.gr.tape.trans h.bel.tape, hg.gr.output.trans h.bel.output, Nat.le_trans h.bel.size hg.gr.size, fun b hb => (hg.gr.block b (Nat.lt_of_lt_of_le hb h.bel.size) (fun e => by have := (h.o1.at b e.symm).1; omega)).trans (h.bel.block b hb)⟩, ko h.o2, ko h.o3, ko h.o4, ko h.o5⟩
end
theorem rep_step (T : List Nat) (x : Nat) {j : Nat} (hj : j < T.length) : (List.replicate j x ++ T.drop j).set j x = List.replicate (j + 1) x ++ T.drop (j + 1) := by
  rw [List.set_append_right _ _ (by simp), List.length_replicate, Nat.sub_self, List.drop_eq_getElem_cons hj, List.set_cons_zero, List.replicate_succ', List.append_assoc]
  rfl
theorem slb_len (s : Sup) (hw : s.Wf) : s.slb.length ≤ 2000 := by
  unfold Sup.slb
  split
  · rename_i ho
    rw [Sup.enc_len ⟨ho, hw⟩]
    have hz : okSz s.size = true := by
      unfold Sup.ok at ho
      simp only [Bool.and_eq_true] at ho
      exact ho.1.1.1.2
    unfold okSz at hz
    simp at hz
    omega
  · simp
set_option maxHeartbeats 4000000 in
theorem seals_law (w : World) (s : Sup) (hw : s.Wf) (hT : Tabs w) (hB : Tab w 1 H0) (hR : Tab w 2 Ks) : Calls Tryd.prog 7 #[s.val] w fun e w' => e = .returned (.bool true) ∧ Below w.heap.size w w' := by
  have H1 := hide fun x hx => seal_sl x s hw hx
  have H2 := hide fun x hx => seal_sl x s hw hx
  have H3 := hide fun x hx => seal_sl x s.next hw.next hx
  have H4 := hide fun x hb hr => rseal_sl x s hw hb hr
  have H5 := hide fun x hb hr => rseal_sl x s.next hw.next hb hr
  have HT := hide hT
  have HTB := hide hB
  have HTR := hide hR
  have HX := hide (TB.start w s s.next)
  have HLN := hide (show s.slb.length ≤ 2000 from slb_len s hw)
  obtain ⟨T1, hT1⟩ : ∃ T, s.slb = T := ⟨_, rfl⟩
  obtain ⟨E1, hE1⟩ : ∃ E, s.sle = E := ⟨_, rfl⟩
  unfold SlP at *
  rw [hT1, hE1] at H1 H2 H4
  rw [hT1] at HLN
  obtain ⟨q, b, z, k, g0, g1, g2, g3, f, m⟩ := s
  obtain ⟨t, ht⟩ : ∃ t, t = Sup.next ⟨q, b, z, k, g0, g1, g2, g3, f, m⟩ := ⟨_, rfl⟩
  obtain ⟨Q, hQ⟩ : ∃ Q : Nat, (q + 1) % 18446744073709551616 = Q := ⟨_, rfl⟩
  have hQi : IntKind.u64.wrap ((q : Int) + 1) = (Q : Int) := by rw [Sup.next_q, hQ]
  rw [← ht] at H3 H5 HX
  have htv : t.row = #[.int .u64 (Q : Int), .int .i64 b, .int .i64 z, .int .i64 k, .int .u64 (g0 : Int), .int .u64 (g1 : Int), .int .u64 (g2 : Int), .int .u64 (g3 : Int), .int .u32 (f : Int), .int .i64 m] := by rw [ht, ← hQ]; rfl
  obtain ⟨T2, hT2⟩ : ∃ T, t.slb = T := ⟨_, rfl⟩
  obtain ⟨E2, hE2⟩ : ∃ E, t.sle = E := ⟨_, rfl⟩
  have HC1 : Hid (∀ w1, TB w w1 ⟨q, b, z, k, g0, g1, g2, g3, f, m⟩ t → ∀ j, w1.cell? ⟨w.heap.size, j, none⟩ = (#[.int .u64 (q : Int), .int .i64 b, .int .i64 z, .int .i64 k, .int .u64 (g0 : Int), .int .u64 (g1 : Int), .int .u64 (g2 : Int), .int .u64 (g3 : Int), .int .u32 (f : Int), .int .i64 m] : Array Value)[j]?) := hide fun w1 h j => h.one j
  have HC2 : Hid (∀ w1, TB w w1 ⟨q, b, z, k, g0, g1, g2, g3, f, m⟩ t → ∀ j, w1.cell? ⟨w.heap.size + 1, j, none⟩ = (#[.int .u64 (Q : Int), .int .i64 b, .int .i64 z, .int .i64 k, .int .u64 (g0 : Int), .int .u64 (g1 : Int), .int .u64 (g2 : Int), .int .u64 (g3 : Int), .int .u32 (f : Int), .int .i64 m] : Array Value)[j]?) := hide fun w1 h j => by rw [h.two j, htv]
  unfold Sup.val at *
  rw [htv] at H3 H5
  rw [hT2, hE2] at H3 H5
  unfold Twb at HX
  rw [htv] at HX
  unfold Sup.row at *
  dsimp only at *
  have HQ := hide hQi
  clear hT hB hR hw ht hQ htv hT1 hE1 hT2 hE2 hQi
  go_enter Tryd.func7, Tryd.ntmps7
  go_wp2_with (go_at_call 8; rw [HQ.out]; refine (H1.out _ (HT.out.below HX.out.below)).mono ?_; rintro e w1 ⟨v1, rfl, o1, hb1⟩; have HX1 := hide (HX.out.trans hb1); have HO1 := hide (Own.le o1 (b' := w.heap.size) HX.out.below.size); obtain ⟨c0, c1, c2, c3, c4, c5, c6, c7, c8, c9⟩ := cells10 (HC1.out _ HX1.out); have HX5S : Hid (w.heap.size ≤ w1.heap.size) := hide HX1.out.below.size; clear hb1 H1 HX o1)
  go_wp2_with (go_at_call 8; refine (H2.out _ (HT.out.below HX1.out.below)).mono ?_; rintro e w2 ⟨v2, rfl, o2, hb2⟩; have HX2 := hide (HX1.out.trans hb2); clear c0 c1 c2 c3 c4 c5 c6 c7 c8 c9; obtain ⟨c0, c1, c2, c3, c4, c5, c6, c7, c8, c9⟩ := cells10 (HC2.out _ HX2.out); have HLT : Hid (∀ g, v1.ownBlock = some g → g < w1.heap.size) := hide fun g e => (HO1.out.at g e).2; have HA2 := hide (HO1.out.kept hb2); have HO2 := hide o2; have hs2 := hb2.size; clear hb2 H2 HX1 o2 HO1)
  go_wp2_with (go_at_call 8; refine (H3.out _ (HT.out.below HX2.out.below)).mono ?_; rintro e w3 ⟨v3, rfl, o3, hb3⟩; have HX3 := hide (HX2.out.trans hb3); clear c0 c1 c2 c3 c4 c5 c6 c7 c8 c9; obtain ⟨c0, c1, c2, c3, c4, c5, c6, c7, c8, c9⟩ := cells10 (HC1.out _ HX3.out); have HA3 := hide (HA2.out.kept hb3); have HB3 := hide (HO2.out.kept hb3); have HO3 := hide (Own.le o3 (b' := w1.heap.size) hs2); have hs3 := Nat.le_trans hs2 hb3.size; clear hb3 H3 HX2 o3 HO2 HA2 hs2)
  go_wp2_with (go_at_call 16; refine (H4.out _ (HTB.out.below HX3.out.below) (HTR.out.below HX3.out.below)).mono ?_; rintro e w4 ⟨v4, rfl, o4, hb4⟩; have HX4 := hide (HX3.out.trans hb4); clear c0 c1 c2 c3 c4 c5 c6 c7 c8 c9; obtain ⟨c0, c1, c2, c3, c4, c5, c6, c7, c8, c9⟩ := cells10 (HC2.out _ HX4.out); have HA4 := hide (HA3.out.kept hb4); have HB4 := hide (HB3.out.kept hb4); have HC4 := hide (HO3.out.kept hb4); have HO4 := hide (Own.le o4 (b' := w1.heap.size) hs3); have hs4 := Nat.le_trans hs3 hb4.size; clear hb4 H4 HX3 o4 HO3 HA3 HB3 hs3)
  go_wp2_with (go_at_call 16; refine (H5.out _ (HTB.out.below HX4.out.below) (HTR.out.below HX4.out.below)).mono ?_; rintro e w5 ⟨v5, rfl, o5, hb5⟩; clear c0 c1 c2 c3 c4 c5 c6 c7 c8 c9; have HSD : Hid (SD w w5 w1.heap.size v1 v2 v3 v4 v5 T1 T1 T2) := hide ⟨HX4.out.below.trans (hb5.mono HX4.out.below.size), HX5S.out, HA4.out.kept hb5, HLT.out, HB4.out.kept hb5, HC4.out.kept hb5, HO4.out.kept hb5, Own.le o5 (b' := w1.heap.size) hs4⟩; clear hb5 H5 HX4 o5 HO4 HA4 HB4 HC4 hs4 HLT HX5S)
  clear HC1 HC2 HT HTB HTR HQ
  have HS1 := hide (same_eq _ _ _ T1 HSD.out.o1.bsl HSD.out.o4.bsl)
  obtain ⟨a1, p1, ev, l1, l2, -⟩ := HSD.out.o1.bsl
  subst ev
  unfold maxLen at l2
  go_wp2_with (first
    | (go_at_call 14; refine HS1.out.mono ?_; rintro e w6 ⟨rfl, q6⟩; have HD6 := hide (HSD.out.below q6); have HS2 := hide (same_eq _ _ _ T1 HD6.out.o2.bsl HD6.out.o4.bsl); clear q6 HSD HS1)
    | (go_at_call 14; refine HS2.out.mono ?_; rintro e w7 ⟨rfl, q7⟩; have HD7 := hide (HD6.out.below q7); have HS3 := hide (same_eq _ _ _ T2 HD7.out.o3.bsl HD7.out.o5.bsl); clear q7 HD6 HS2)
    | (go_at_call 14; refine HS3.out.mono ?_; rintro e w8 ⟨rfl, q8⟩; have HD8 := hide (HD7.out.below q8); clear q8 HD7 HS3))
  have HLE : Hid (∀ j, j ≤ T1.length → (List.replicate j 94 ++ T1.drop j).length = T1.length) := hide fun j hj => by simp; omega
  have HST : Hid (∀ j, j < T1.length → (List.replicate j 94 ++ T1.drop j).set j 94 = List.replicate (j + 1) 94 ++ T1.drop (j + 1)) := hide fun j hj => rep_step T1 94 hj
  have HD0 : Hid (SD w w8 w1.heap.size (.slice a1 T1.length p1) v2 v3 v4 v5 (List.replicate 0 94 ++ T1.drop 0) T1 T2) := hide (by simpa using HD8.out)
  have HDN : Hid (List.replicate T1.length 94 ++ T1.drop T1.length = List.replicate T1.length 94) := hide (by simp)
  have hnl := HLN.out
  clear HD8 HLN
  generalize w1.heap.size = B at *
  generalize T1.length = n at *
  go_loopw [14] (fun i wr => ∃ j : Nat, j ≤ n ∧ i = .int .i64 (j : Int) ∧ SD w wr B (.slice a1 n p1) v2 v3 v4 v5 (List.replicate j 94 ++ T1.drop j) T1 T2) (fun i _ => n - (intOf i).toNat)
  case atStart => exact ⟨0, Nat.zero_le _, rfl, HD0.out⟩
  case round =>
    clear HD0
    obtain ⟨j, hj, rfl, hd⟩ := hrel
    have HD := hide hd
    by_cases hlt : j < n
    · obtain ⟨g, cp, eg, -, -, -, -⟩ := hd.o1.shape (by rw [HLE.out j hj]; omega)
      simp only [Value.slice.injEq] at eg
      obtain ⟨rfl, -, rfl⟩ := eg
      obtain ⟨⟨x, c1⟩, c2⟩ := hd.cell (HLE.out j hj) hlt
      have HDS := hide (hd.set (HLE.out j hj) j 94 (by decide))
      rw [HST.out j hlt] at HDS
      clear hd
      go_wp2_with fail
      go_roundw
      case rel => exact ⟨j + 1, by omega, by go_num, HDS.out⟩
      case measure => simp [intOf]; omega
    · have ej : j = n := by omega
      subst ej
      rw [HDN.out] at HD
      have HGR := hide (grown_any wr _ _ 94 (by decide) (by simp; omega) (Own.le HD.out.o1 (b' := 0) (Nat.zero_le _)))
      rw [List.replicate_append_replicate] at HGR
      clear hd HLE HST HDN
      go_wp2_with (go_at_call 17; refine HGR.out.mono ?_; rintro e y ⟨v', rfl, hgr⟩; have HE := hide (HD.out.grown hgr); have HO := hide hgr.own; clear HGR HD hgr)
      obtain ⟨ag, pg, evg, g1', g2', -, -, hcg⟩ := HO.out.bsl
      rw [List.length_replicate] at evg g1' hcg
      subst evg
      have HCG : Hid (∀ i, i < j + 90 → ∃ b off, ag = some ⟨b, off, none⟩ ∧ y.cell? ⟨b, off + i, none⟩ = some (.int .u8 94)) := hide fun i hi => by
        obtain ⟨b, off, e, hc⟩ := hcg (by omega)
        refine ⟨b, off, e, ?_⟩
        have := hc i (by simpa using hi)
        rw [this]
        simp [List.getElem?_replicate, hi]
      clear hcg HO
      unfold maxLen at g2'
      go_loopw [16] (fun i wr => ∃ k : Nat, k ≤ j + 90 ∧ i = .int .i64 (k : Int) ∧ wr = y) (fun i _ => j + 90 - (intOf i).toNat)
      case atStart => exact ⟨0, Nat.zero_le _, rfl, rfl⟩
      case round =>
        obtain ⟨k, hk, rfl, rfl⟩ := hrel
        by_cases hlt2 : k < j + 90
        · obtain ⟨b, off, rfl, hc⟩ := HCG.out k hlt2
          go_wp2_with fail
          go_roundw
          case rel => exact ⟨k + 1, by omega, by go_num, by first | rfl | trivial⟩
          case measure => simp [intOf]; omega
        · have ek : k = j + 90 := by omega
          subst ek
          have HS2 := hide (same_eq _ _ _ T1 HE.out.o2.bsl HE.out.o4.bsl)
          go_wp2_with (first
            | (go_at_call 14; refine HS2.out.mono ?_; rintro e w7 ⟨rfl, q7⟩; have HD7 := hide (HE.out.below q7); have HS3 := hide (same_eq _ _ _ T2 HD7.out.o3.bsl HD7.out.o5.bsl); clear q7 HE HS2)
            | (go_at_call 14; refine HS3.out.mono ?_; rintro e w8 ⟨rfl, q8⟩; have HD8 := hide (HD7.out.below q8); clear q8 HD7 HS3))
          go_ret
          exact ⟨rfl, HD8.out.bel⟩
end Go.Proofs.YtkjaaknlhmneoabDoor
namespace Go.Proofs.YtkjaaknlhmneoabDoor
open Go.ChangeShapes Go.WideShapes Go.ChangeAt Go.RowKit
open Num
set_option linter.unusedVariables false

theorem own : ownKnob Tryd.prog.godebug = none := by kernel_rfl
theorem laidOut : laidOutB Tryd.prog = true := by kernel_rfl
theorem gH : Tryd.prog.globalNamed "replica/digest.firstState" = some 0 := by kernel_rfl
theorem gK : Tryd.prog.globalNamed "replica/digest.roundConstants" = some 3 := by kernel_rfl
theorem gHty : (Tryd.prog.globals[0]?).map (·.type) = some 65 := by kernel_rfl
theorem gKty : (Tryd.prog.globals[3]?).map (·.type) = some 80 := by kernel_rfl
theorem cellsS : Tryd.prog.cellsOf 65 = 8 := by kernel_rfl
theorem cellsW : Tryd.prog.cellsOf 80 = 64 := by kernel_rfl
theorem cells32 : Tryd.prog.cellsOf 25 = 1 := by kernel_rfl

def listed : List (String × DataW Unit) := [("replica/digest.firstState", Rows.laid_replica_digest_firstState), ("replica/digest.roundConstants", Rows.laid_replica_digest_roundConstants)]

theorem tab_of_is {W : World} {name : String} {g : Nat} {l : List Nat} (hg : Tryd.prog.globalNamed name = some g) (h : Lib.TabIs Tryd.prog W name .u32 (l.map fun n : Nat => (n : Int))) : Tab W g l := by
  intro i hi
  rw [h.cell hg i (by simpa using hi)]
  simp [List.getD, hi]

/-- what the rows' list gives: the two tables -/
theorem tabs_of_laid {W : World} (h : laidMetH Tryd.prog listed W) : Tabs W := by
  have h' : laidMet Tryd.prog [("replica/digest.firstState", Lib.tabData .u32 (H0.map fun n : Nat => (n : Int))), ("replica/digest.roundConstants", Lib.tabData .u32 (Ks.map fun n : Nat => (n : Int)))] W := h
  have h1 := Lib.tabIs_of_head gH gHty Tryd.underlying65 Tryd.underlying25 cells32 cellsS h'
  obtain ⟨ps, ⟨g', t', cs, fuel, p, q, hg', ht', hvar, hd, ⟨g2, t2, cs2, fuel2, p2, q2, hg2, ht2, hvar2, hd2, _⟩, _⟩, _⟩ := h'
  obtain rfl := Option.some.inj (gK.symm.trans hg2)
  obtain rfl := Option.some.inj (gKty.symm.trans ht2)
  have h2 : Lib.TabIs Tryd.prog W "replica/digest.roundConstants" .u32 (Ks.map fun n : Nat => (n : Int)) := by
    unfold Lib.TabIs
    rw [hvar2, ← Lib.cells_of_tab Tryd.underlying80 Tryd.underlying25 cells32 cellsW hd2]
  exact ⟨tab_of_is gH h1, tab_of_is gK h2⟩

def relay (cs : List Value) : Obj → Obj
  | .cells _ t frozen => .cells cs.toArray t frozen
  | o => o
/-- a world for the witness: the settled one, with the two tables in it -/
def laidIn (w : World) : World := { w with heap := (w.heap.modify 0 (relay (H0.map wordV))).modify 3 (relay (Ks.map wordV)) }
end Go.Proofs.YtkjaaknlhmneoabDoor
namespace Go.Proofs.YtkjaaknlhmneoabDoor
open Go.ChangeShapes Go.WideShapes Go.ChangeAt Go.RowKit
open Num
set_option linter.unusedVariables false

theorem gB : Tryd.prog.globalNamed "replica/replicaref01.begin" = some 1 := by kernel_rfl
theorem gR : Tryd.prog.globalNamed "replica/replicaref01.round" = some 2 := by kernel_rfl
theorem gBty : (Tryd.prog.globals[1]?).map (·.type) = some 64 := by kernel_rfl
theorem gRty : (Tryd.prog.globals[2]?).map (·.type) = some 80 := by kernel_rfl
theorem cells8 : Tryd.prog.cellsOf 64 = 8 := by kernel_rfl

def listed4 : List (String × DataW Unit) := [("replica/digest.firstState", Rows.laid_replica_digest_firstState), ("replica/digest.roundConstants", Rows.laid_replica_digest_roundConstants), ("replica/replicaref01.begin", Rows.laid_replica_replicaref01_begin), ("replica/replicaref01.round", Rows.laid_replica_replicaref01_round)]

/-- the program's two tables and the reference's two -/
structure Tabs4 (w : World) : Prop where
  t : Tabs w
  b : Tab w 1 H0
  r : Tab w 2 Ks
theorem Tabs4.below {w w' : World} (h : Tabs4 w) (hb : Below w.heap.size w w') : Tabs4 w' := ⟨h.t.below hb, h.b.below hb, h.r.below hb⟩

theorem tabs4_of_laid {W : World} (h : laidMetH Tryd.prog listed4 W) : Tabs4 W := by
  have h' : laidMet Tryd.prog [("replica/digest.firstState", Lib.tabData .u32 (H0.map fun n : Nat => (n : Int))), ("replica/digest.roundConstants", Lib.tabData .u32 (Ks.map fun n : Nat => (n : Int))), ("replica/replicaref01.begin", Lib.tabData .u32 (H0.map fun n : Nat => (n : Int))), ("replica/replicaref01.round", Lib.tabData .u32 (Ks.map fun n : Nat => (n : Int)))] W := h
  have h1 := Lib.tabIs_of_head gH gHty Tryd.underlying65 Tryd.underlying25 cells32 cellsS h'
  obtain ⟨ps, ⟨g', t', cs, fuel, p, q, hg', ht', hvar, hd, ⟨g2, t2, cs2, fuel2, p2, q2, hg2, ht2, hvar2, hd2, ⟨g3, t3, cs3, fuel3, p3, q3, hg3, ht3, hvar3, hd3, ⟨g4, t4, cs4, fuel4, p4, q4, hg4, ht4, hvar4, hd4, _⟩, _⟩, _⟩, _⟩, _⟩ := h'
  obtain rfl := Option.some.inj (gK.symm.trans hg2)
  obtain rfl := Option.some.inj (gKty.symm.trans ht2)
  obtain rfl := Option.some.inj (gB.symm.trans hg3)
  obtain rfl := Option.some.inj (gBty.symm.trans ht3)
  obtain rfl := Option.some.inj (gR.symm.trans hg4)
  obtain rfl := Option.some.inj (gRty.symm.trans ht4)
  have h2 : Lib.TabIs Tryd.prog W "replica/digest.roundConstants" .u32 (Ks.map fun n : Nat => (n : Int)) := by
    unfold Lib.TabIs
    rw [hvar2, ← Lib.cells_of_tab Tryd.underlying80 Tryd.underlying25 cells32 cellsW hd2]
  have h3 : Lib.TabIs Tryd.prog W "replica/replicaref01.begin" .u32 (H0.map fun n : Nat => (n : Int)) := by
    unfold Lib.TabIs
    rw [hvar3, ← Lib.cells_of_tab Tryd.underlying64 Tryd.underlying25 cells32 cells8 hd3]
  have h4 : Lib.TabIs Tryd.prog W "replica/replicaref01.round" .u32 (Ks.map fun n : Nat => (n : Int)) := by
    unfold Lib.TabIs
    rw [hvar4, ← Lib.cells_of_tab Tryd.underlying80 Tryd.underlying25 cells32 cellsW hd4]
  exact ⟨⟨tab_of_is gH h1, tab_of_is gK h2⟩, tab_of_is gB h3, tab_of_is gR h4⟩

/-- a world for the witness: the settled one, with the four tables in it -/
def laidIn4 (w : World) : World := { w with heap := (((w.heap.modify 0 (relay (H0.map wordV))).modify 3 (relay (Ks.map wordV))).modify 1 (relay (H0.map wordV))).modify 2 (relay (Ks.map wordV)) }
end Go.Proofs.YtkjaaknlhmneoabDoor
namespace Go.Proofs.YtkjaaknlhmneoabDoor
open Go.ChangeShapes Go.WideShapes Go.ChangeAt Go.RowKit
open Num
set_option linter.unusedVariables false

def IsRow (k : IntKind) (w : World) (a : Option Addr) (len cap : Nat) (zs : List Int) : Prop :=
  (a = none ∧ len = 0 ∧ cap = 0 ∧ zs = []) ∨
  ∃ x, a = some x ∧ len ≤ cap ∧ cap ≤ maxLen ∧ zs.length = cap ∧ (∀ i, i < zs.length → w.cell? (x.add i) = some (.int k (zs.getD i 0))) ∧ ∀ n ∈ zs, (Lit.int k n).wf = true

/-- what came in, as bytes -/
theorem bsl_of_row {w : World} {a : Option Addr} {len cap : Nat} {zs : List Int} (h : IsRow .u8 w a len cap zs) : ∃ l : List Nat, l.length = len ∧ BSl w (.slice a len cap) l := by
  rcases h with ⟨rfl, rfl, rfl, rfl⟩ | ⟨x, rfl, hl, hm, hz, hcell, hwz⟩
  · exact ⟨[], rfl, none, 0, rfl, Nat.le_refl _, by unfold maxLen; omega, fun _ => rfl, by simp, by simp⟩
  · have hlen : ((zs.take len).map Int.toNat).length = len := by simp; omega
    refine ⟨(zs.take len).map Int.toNat, hlen, _, cap, by rw [hlen], by omega, hm, by simp, ?_, ?_⟩
    · intro b hb
      obtain ⟨n, hn, rfl⟩ := List.mem_map.1 hb
      have := bounds_u8 (hwz n (List.mem_of_mem_take hn))
      omega
    · intro hp
      obtain ⟨b, off, rfl, hc⟩ := ints_at hcell (by omega)
      refine ⟨b, off, rfl, fun i hi => ?_⟩
      rw [hc i (by omega)]
      have hi' : i < zs.length := by omega
      have hb := bounds_u8 (hwz zs[i] (List.getElem_mem hi'))
      have hi2 : i < len := by omega
      have e2 : ((zs.take len).map Int.toNat).getD i 0 = zs[i].toNat := by
        simp [List.getD, hi', hi2]
      have e3 : zs.getD i 0 = zs[i] := by simp [List.getD, hi']
      rw [e2, e3, Int.toNat_of_nonneg hb.1]

/-- a list of bytes that came in: what it reads as, and how long it may be -/
theorem open_bytes {H : Type} {enc : TypeId × Value → H} {W : World} {base : Nat} {v : Value} {d : DataW H} {p : List MemPlace} {ts : List TypeId} {ds : List (DataW H)} (j : Nat) (hts : ts[j]? = some 28) (hds : ds[j]? = some d)
    (hsz : (DataW.weightsEach Tryd.prog ts ds).all (· ≤ reachBytes) = true) (hok : Value.okWide Tryd.prog W .any base 28 v) (h1 : DataW.Trod enc Tryd.prog W 0 (fun _ => true) true 28 v d p) : ∃ l : List Nat, BSl W v l ∧ l.length ≤ 140737488351232 := by
  obtain ⟨a1, len1, cap1, rfl⟩ := okWide_slice Tryd.underlying28 hok
  obtain ⟨z1, w1, hr1⟩ : ∃ zs, IsRow .u8 W a1 len1 cap1 zs ∧ len1 ≤ 140737488351232 := by
    obtain ⟨fuel, hf⟩ := h1
    rcases open_ints Tryd.underlying28 Tryd.underlying5 (by kernel_rfl) hf with ⟨hcs, _⟩ | ⟨x, l, c, zs, hcs, _, hl, hm, hz, hx, hcell, hwz⟩
    · simp [Value.cells] at hcs
      obtain ⟨rfl, rfl, rfl⟩ := hcs
      exact ⟨[], .inl ⟨rfl, rfl, rfl, rfl⟩, by omega⟩
    · simp [Value.cells] at hcs
      obtain ⟨rfl, rfl, rfl⟩ := hcs
      simp only [Prod.mk.injEq] at hx
      obtain ⟨rfl, hp⟩ := hx
      have hw := sized_slice hsz (j := j) (t := 28) (e := 5) hts hds Tryd.underlying28
      rw [show Tryd.prog.bytesOf 5 = 1 from by kernel_rfl] at hw
      simp only [lits, List.length_map, List.length_take, List.length_drop, reachBytes] at hw
      simp only [if_true] at hz
      exact ⟨zs, .inr ⟨_, rfl, hl, hm, hz, hcell, hwz⟩, by omega⟩
  obtain ⟨l, hll, hb⟩ := bsl_of_row w1
  exact ⟨l, hb, by omega⟩
theorem trod_place_lt {H : Type} {enc : TypeId × Value → H} {W : World} {t : TypeId} {v : Value} {d : DataW H} {p : List MemPlace} (h1 : DataW.Trod enc Tryd.prog W 0 (fun _ => true) true t v d p) : ∀ x ∈ p, x.block < W.heap.size := by
  obtain ⟨m, hm⟩ := h1; exact DataW.trod_lt m _ _ _ hm
/-- it reads on as it did -/
theorem bytes_again {H : Type} {enc : TypeId × Value → H} {W W' : World} {v : Value} {d : DataW H} {p : List MemPlace} (h1 : DataW.Trod enc Tryd.prog W 0 (fun _ => true) true 28 v d p) (bel : Below W.heap.size W W') :
    DataW.Trod enc Tryd.prog W' 0 (fun b => decide (b < W.heap.size)) true 28 v d p := Below.trod laidOut (by kernel_rfl) (of_decide_eq_true (by kernel_rfl)) h1 bel (trod_place_lt h1)
end Go.Proofs.YtkjaaknlhmneoabDoor
namespace Go.Proofs.YtkjaaknlhmneoabDoor
open Go.ChangeShapes Go.WideShapes Go.ChangeAt Go.RowKit
open Num
set_option linter.unusedVariables false
set_option maxRecDepth 20000

theorem cellsSuper : Tryd.prog.cellsOf 27 = 10 := by kernel_rfl
theorem cellsGens : Tryd.prog.cellsOf 24 = 4 := by kernel_rfl
theorem cellsI : Tryd.prog.cellsOf 3 = 1 := by kernel_rfl
theorem cellsU : Tryd.prog.cellsOf 22 = 1 := by kernel_rfl
theorem cellsV : Tryd.prog.cellsOf 25 = 1 := by kernel_rfl
theorem super_again {H : Type} {enc : TypeId × Value → H} {W W' : World} {v : Value} {d : DataW H} {p : List MemPlace} (h1 : DataW.Trod enc Tryd.prog W 0 (fun _ => true) true 27 v d p) (bel : Below W.heap.size W W') :
    DataW.Trod enc Tryd.prog W' 0 (fun b => decide (b < W.heap.size)) true 27 v d p := Below.trod laidOut (by kernel_rfl) (of_decide_eq_true (by kernel_rfl)) h1 bel (trod_place_lt h1)
theorem open_super {H : Type} {enc : TypeId × Value → H} {W : World} {base : Nat} {v : Value} {d : DataW H} {p : List MemPlace} (hok : Value.okWide Tryd.prog W .any base 27 v) (h1 : DataW.Trod enc Tryd.prog W 0 (fun _ => true) true 27 v d p) :
    ∃ s : Sup, v = s.val ∧ s.Wf := by
  obtain ⟨cs, rfl, hcs⟩ := okWide_struct Tryd.underlying27 hok
  rw [cellsSuper] at hcs
  obtain ⟨fuel, hf⟩ := h1
  obtain ⟨l⟩ := cs
  match l, hcs with
  | [v0, v1, v2, v3, v4, v5, v6, v7, v8, v9], _ =>
    obtain ⟨xs, k, hk, hxy, _, hxl, hfd⟩ := DataW.trod_struct Tryd.underlying27 hf
    match xs, hxl with
    | [y0, y1, y2, y3, y4, y5, y6], _ =>
      have g0 := hfd 0 _ rfl
      have g1 := hfd 1 _ rfl
      have g2 := hfd 2 _ rfl
      have g3 := hfd 3 _ rfl
      have g4 := hfd 4 _ rfl
      have g5 := hfd 5 _ rfl
      have g6 := hfd 6 _ rfl
      simp [cellsI, cellsU, cellsV, cellsGens, Value.cells] at g0 g1 g2 g3 g4 g5 g6
      obtain ⟨xs2, k2, hk2, hxy2, _, hxl2, hfd2⟩ := DataW.trod_struct Tryd.underlying24 g4
      match xs2, hxl2 with
      | [u0, u1, u2, u3], _ =>
        have m0 := hfd2 0 _ rfl
        have m1 := hfd2 1 _ rfl
        have m2 := hfd2 2 _ rfl
        have m3 := hfd2 3 _ rfl
        simp [cellsU] at m0 m1 m2 m3
        obtain ⟨a0, e0, _, f0⟩ := DataW.trod_int Tryd.underlying22 g0
        obtain ⟨a1, e1, _, f1⟩ := DataW.trod_int Tryd.underlying3 g1
        obtain ⟨a2, e2, _, f2⟩ := DataW.trod_int Tryd.underlying3 g2
        obtain ⟨a3, e3, _, f3⟩ := DataW.trod_int Tryd.underlying3 g3
        obtain ⟨b0, p0, _, q0⟩ := DataW.trod_int Tryd.underlying22 m0
        obtain ⟨b1, p1, _, q1⟩ := DataW.trod_int Tryd.underlying22 m1
        obtain ⟨b2, p2, _, q2⟩ := DataW.trod_int Tryd.underlying22 m2
        obtain ⟨b3, p3, _, q3⟩ := DataW.trod_int Tryd.underlying22 m3
        obtain ⟨a5, e5, _, f5⟩ := DataW.trod_int Tryd.underlying25 g5
        obtain ⟨a6, e6, _, f6⟩ := DataW.trod_int Tryd.underlying3 g6
        simp at e0 e1 e2 e3 p0 p1 p2 p3 e5 e6
        subst e0 e1 e2 e3 p0 p1 p2 p3 e5 e6
        have f0 := bounds_u64 f0
        have f1 := bounds_i64 f1
        have f2 := bounds_i64 f2
        have f3 := bounds_i64 f3
        have q0 := bounds_u64 q0
        have q1 := bounds_u64 q1
        have q2 := bounds_u64 q2
        have q3 := bounds_u64 q3
        have f5 := bounds_u32 f5
        have f6 := bounds_i64 f6
        refine ⟨⟨a0.toNat, a1, a2, a3, b0.toNat, b1.toNat, b2.toNat, b3.toNat, a5.toNat, a6⟩, ?_, ?_⟩
        · simp only [Sup.val, Sup.row]
          rw [Int.toNat_of_nonneg f0.1, Int.toNat_of_nonneg q0.1, Int.toNat_of_nonneg q1.1, Int.toNat_of_nonneg q2.1, Int.toNat_of_nonneg q3.1, Int.toNat_of_nonneg f5.1]
        · unfold Sup.Wf
          dsimp only
          omega
end Go.Proofs.YtkjaaknlhmneoabDoor
