import Derived.Test.YtcjilmafdpnfeaaDoorWPbPM0
import Derived.Deep.DeepAppendWide
import Derived.Test.YtcjilmafdpnfeaaDoorWLaw0
import Derived.Test.YtcjilmafdpnfeaaDoorWLaid
namespace Go.Proofs.YtcjilmafdpnfeaaDoor
open Go.RowKit
open Num
set_option linter.unusedVariables false
set_option linter.unusedSimpArgs false
set_option maxRecDepth 20000

theorem row_setN (c : Int) (p : PV) (v : Value) (i x : Nat) (hi : i < 5) : ((.int .i64 c :: p.row v : List Value).toArray.setIfInBounds (1 + i) (.int .u32 (x : Int))) = (.int .i64 c :: (p.set i x).row v : List Value).toArray := by
  rw [List.setIfInBounds_toArray, row_eq, row_eq]
  rcases (show i = 0 ∨ i = 1 ∨ i = 2 ∨ i = 3 ∨ i = 4 by omega) with rfl | rfl | rfl | rfl | rfl <;> rfl
theorem wrap_u32 {x : Nat} (h : x < 4294967296) : IntKind.u32.wrap (x : Int) = (x : Int) := by
  simp [IntKind.wrap, IntKind.bits, IntKind.signed]; omega
set_option maxHeartbeats 2000000 in
theorem rlay_any (w : World) (c : Int) (p : PV) (da : Option Addr) (dn dc i x : Nat) (hp : p.Ok) (hi : i < 5) (hx : x < 4294967296) :
    Calls Tryd.prog 28 #[pkV c p (.slice da dn dc), .int .i64 ((2 ^ i : Nat) : Int), .int .i64 (x : Int)] w fun e y => e = .returned (pkV c (p.set i x) (.slice da dn dc)) ∧ Below w.heap.size w y := by
  have hwx := wrap_u32 hx
  have hxi : x < 9223372036854775807 := by omega
  have HS := row_setN c p (.slice da dn dc) i x hi
  have PC1 := hide (pc_of c hp.n (.slice da dn dc) rfl)
  have PC2 := hide (pc_of c (hp.set i x hx).n (.slice da dn dc) rfl)
  have HC : ((.int .i64 c :: p.row (.slice da dn dc) : List Value).toArray)[1 + i]? = some (.int .u32 (p.get i : Int)) := by
    rw [List.getElem?_toArray, row_eq]
    rcases (show i = 0 ∨ i = 1 ∨ i = 2 ∨ i = 3 ∨ i = 4 by omega) with rfl | rfl | rfl | rfl | rfl <;> rfl
  unfold pkV
  generalize (.int .i64 c :: p.row (.slice da dn dc) : List Value).toArray = R1 at *
  generalize (.int .i64 c :: (p.set i x).row (.slice da dn dc) : List Value).toArray = R2 at *
  generalize (p.get i : Int) = pg at *
  have hb1 := (Below.refl w.heap.size w).alloc (Nat.le_refl _) (.cells R2 30)
  have HB2 := hide (hb1.alloc hb1.size (.cells zPk 30))
  have s1 : (w.alloc (.cells R2 30)).heap.size = w.heap.size + 1 := by simp
  have HL : Hid (((w.alloc (.cells R2 30)).alloc (.cells zPk 30)).heap[w.heap.size]? = some (.cells R2 30 (0, 0))) := hide (((Below.refl _ (w.alloc (.cells R2 30))).alloc (Nat.le_refl _) (.cells zPk 30)).block _ (by simp) |>.trans (Go.heap_alloc_new w _))
  have HN := hide (Go.heap_alloc_new (w.alloc (.cells R2 30)) (.cells zPk 30))
  rw [s1] at HN
  clear hb1 s1
  rcases (show i = 0 ∨ i = 1 ∨ i = 2 ∨ i = 3 ∨ i = 4 by omega) with rfl | rfl | rfl | rfl | rfl
  all_goals
    (simp only [Nat.reduceAdd] at HS HC
     go_enter Tryd.func28, Tryd.ntmps28
     go_wp2_with (first
       | (refine wpList_load_row rfl 30 (.tmp 3) rfl w.heap.size (by first | rfl | simp [Act.eval, Act.put]) 30 R2 (0, 0) _ HL.out Tryd.underlying30 rfl PC2.out.i ?_)
       | (refine wpList_store_row rfl 30 (.tmp 6) (.tmp 33) rfl (w.heap.size + 1) R2 (by first | rfl | simp [Act.eval, Act.put]) (by first | rfl | simp [Act.eval, Act.put]) 30 zPk HN.out PC2.out.i PC2.out.z PC2.out.o ?_))
     have hb : Below w.heap.size w ((((w.alloc (.cells R2 30)).alloc (.cells zPk 30))).setRow (w.heap.size + 1) R2) := by
       have h2 := HB2.out
       refine ⟨h2.os, h2.tape, h2.output, by simp [World.setRow]; omega, fun j hj => ?_⟩
       rw [setRow_other _ _ _ _ (by omega)]; exact h2.block j hj
     exact bodyPost_ret (results_row (p := 6) rfl _ _ (w.heap.size + 1) 30 R2 (0, 0) _ (by kernel_rfl) (setRow_heap _ _ zPk _ 30 _ HN.out) Tryd.underlying30 rfl PC2.out.i) rfl ⟨rfl, hb⟩)
end Go.Proofs.YtcjilmafdpnfeaaDoor
namespace Go.Proofs.YtcjilmafdpnfeaaDoor
open Go.RowKit
set_option linter.unusedVariables false
set_option linter.unusedSimpArgs false
set_option maxRecDepth 20000

theorem SpP.of {w x : World} {l : List (Nat × Nat)} {e : Ending} {y : World} (h : SpP x l e y) (hb : Below w.heap.size w x) : SpP w l e y := by
  obtain ⟨v, h1, h2, h3⟩ := h
  exact ⟨v, h1, h2, hb.trans (h3.mono hb.size)⟩
theorem SpI.below {w x : World} {v : Value} {l : List (Nat × Nat)} (h : SpI w v l) (hb : Below w.heap.size w x) : SpI x v l := by
  obtain ⟨b, off, cap, h1, h2, h3, h4, h5⟩ := h
  exact ⟨b, off, cap, h1, h2, h3, h4, fun i hi => ⟨(hb.cell (p := ⟨b, off + 2 * i, none⟩) (World.block_lt_of_cell? w _ (h5 i hi).1)).trans (h5 i hi).1, (hb.cell (p := ⟨b, off + 2 * i + 1, none⟩) (World.block_lt_of_cell? w _ (h5 i hi).2)).trans (h5 i hi).2⟩⟩

set_option maxHeartbeats 2000000 in
theorem numbers_0 (w : World) (c : Nat) (c0 : Int) (p : PV) (da : Option Addr) (dn dc : Nat) (hp : p.Ok) : Calls Tryd.prog 27 #[.int .i64 (c : Int), .int .i64 1, pkV c0 p (.slice da dn dc)] w fun e w' => SpP w (nmsL c 0 p.a p.b) e w' := by
  have x1 : Below w.heap.size w (w.alloc (.cells (.int .i64 c0 :: p.row (.slice da dn dc)).toArray 30)) := (Below.refl w.heap.size w).alloc (Nat.le_refl _) _
  have x2 := x1.alloc x1.size (.cells #[.int .i64 0, .int .i64 4294967295] 93)
  have HA := hide (spp1 x1 0 4294967295 (by omega) (by omega) _ _ rfl rfl)
  have HB := hide x2
  clear x1 x2
  unfold pkV
  generalize (.int .i64 c0 :: p.row (.slice da dn dc)) = LS at *
  by_cases h1 : c = 1
  · subst h1
    rw [show nmsL 1 0 p.a p.b = [(0, 4294967295)] from rfl]
    go_enter Tryd.func27, Tryd.ntmps27
    go_wp2
    go_ret
    first | exact HA.out | simpa using HA.out
  · rw [show nmsL c 0 p.a p.b = [(1, 2147483647)] by unfold nmsL; simp [h1]]
    have b1 : ((c : Int) == 1) = false := by simp only [beq_eq_false_iff_ne]; omega
    go_enter Tryd.func27, Tryd.ntmps27
    go_wp2
    go_ret
    exact spp1 HB.out 1 2147483647 (by omega) (by omega) _ _ (by first | rfl | simp) (by first | rfl | simp)

set_option maxHeartbeats 2000000 in
theorem numbers_1 (w : World) (c : Nat) (c0 : Int) (p : PV) (da : Option Addr) (dn dc : Nat) (hp : p.Ok) : Calls Tryd.prog 27 #[.int .i64 (c : Int), .int .i64 2, pkV c0 p (.slice da dn dc)] w fun e w' => SpP w (nmsL c 1 p.a p.b) e w' := by
  have x1 : Below w.heap.size w (w.alloc (.cells (.int .i64 c0 :: p.row (.slice da dn dc)).toArray 30)) := (Below.refl w.heap.size w).alloc (Nat.le_refl _) _
  have x2 := x1.alloc x1.size (.cells #[.int .i64 0, .int .i64 4294967295] 93)
  have HA := hide (spp1 x1 0 4294967295 (by omega) (by omega) _ _ rfl rfl)
  have HB := hide x2
  clear x1 x2
  unfold pkV
  generalize (.int .i64 c0 :: p.row (.slice da dn dc)) = LS at *
  by_cases h4 : c = 4
  · subst h4
    rw [show nmsL 4 1 p.a p.b = [(1, 4096)] from rfl]
    go_enter Tryd.func27, Tryd.ntmps27
    go_wp2
    go_ret
    exact spp1 HB.out 1 4096 (by omega) (by omega) _ _ (by first | rfl | simp) (by first | rfl | simp)
  by_cases h7 : c = 7
  · subst h7
    rw [show nmsL 7 1 p.a p.b = [(0, 63)] from rfl]
    go_enter Tryd.func27, Tryd.ntmps27
    go_wp2
    go_ret
    exact spp1 HB.out 0 63 (by omega) (by omega) _ _ (by first | rfl | simp) (by first | rfl | simp)
  · rw [show nmsL c 1 p.a p.b = [(0, 4095)] by unfold nmsL; simp [h4, h7]]
    have b4 : ((c : Int) == 4) = false := by simp only [beq_eq_false_iff_ne]; omega
    have b7 : ((c : Int) == 7) = false := by simp only [beq_eq_false_iff_ne]; omega
    go_enter Tryd.func27, Tryd.ntmps27
    go_wp2
    go_ret
    exact spp1 HB.out 0 4095 (by omega) (by omega) _ _ (by first | rfl | simp) (by first | rfl | simp)

set_option maxHeartbeats 2000000 in
theorem numbers_2 (w : World) (c : Nat) (c0 : Int) (p : PV) (da : Option Addr) (dn dc : Nat) (hp : p.Ok) : Calls Tryd.prog 27 #[.int .i64 (c : Int), .int .i64 4, pkV c0 p (.slice da dn dc)] w fun e w' => SpP w (nmsL c 2 p.a p.b) e w' := by
  have x1 : Below w.heap.size w (w.alloc (.cells (.int .i64 c0 :: p.row (.slice da dn dc)).toArray 30)) := (Below.refl w.heap.size w).alloc (Nat.le_refl _) _
  have x2 := x1.alloc x1.size (.cells #[.int .i64 0, .int .i64 4294967295] 93)
  have HA := hide (spp1 x1 0 4294967295 (by omega) (by omega) _ _ rfl rfl)
  have HB := hide x2
  clear x1 x2
  unfold pkV
  generalize (.int .i64 c0 :: p.row (.slice da dn dc)) = LS at *
  rw [show nmsL c 2 p.a p.b = [(1, 4294967295)] from rfl]
  go_enter Tryd.func27, Tryd.ntmps27
  go_wp2
  go_ret
  exact spp1 HB.out 1 4294967295 (by omega) (by omega) _ _ (by first | rfl | simp) (by first | rfl | simp)

set_option maxHeartbeats 2000000 in
theorem numbers_3 (w : World) (c : Nat) (c0 : Int) (p : PV) (da : Option Addr) (dn dc : Nat) (hp : p.Ok) (h64 : c = 7 → p.b ≤ 64) : Calls Tryd.prog 27 #[.int .i64 (c : Int), .int .i64 8, pkV c0 p (.slice da dn dc)] w fun e w' => SpP w (nmsL c 3 p.a p.b) e w' := by
  have x1 : Below w.heap.size w (w.alloc (.cells (.int .i64 c0 :: p.row (.slice da dn dc)).toArray 30)) := (Below.refl w.heap.size w).alloc (Nat.le_refl _) _
  have x2 := x1.alloc x1.size (.cells #[.int .i64 0, .int .i64 4294967295] 93)
  have HA := hide (spp1 x1 0 4294967295 (by omega) (by omega) _ _ rfl rfl)
  have HB := hide x2
  have R0 := Go.heap_alloc_new w (.cells (.int .i64 c0 :: p.row (.slice da dn dc)).toArray 30)
  have R1 := hide (((((Below.refl _ (w.alloc (.cells (.int .i64 c0 :: p.row (.slice da dn dc)).toArray 30))).alloc (Nat.le_refl _) (.cells #[.int .i64 0, .int .i64 4294967295] 93)).block _ (Array.getElem?_eq_some_iff.1 R0).1).trans R0))
  have PC0 := hide (pc_of c0 hp.n (.slice da dn dc) rfl)
  have HC := hide fun y => counts_any y c c0 p (.slice da dn dc) hp h64
  rw [show nmsL c 3 p.a p.b = cntL c p.a p.b from rfl]
  generalize cntL c p.a p.b = L at *
  unfold pkV at HC
  clear R0
  clear x1 x2
  unfold pkV
  generalize (.int .i64 c0 :: p.row (.slice da dn dc)) = LS at *
  go_enter Tryd.func27, Tryd.ntmps27
  go_wp2_with (first
    | (refine wpList_load_row rfl 30 _ rfl w.heap.size (by first | rfl | simp [Act.eval, Act.put]) 30 LS.toArray (0, 0) _ R1.out Tryd.underlying30 rfl PC0.out.i ?_)
    | (go_at_call 33; refine (HC.out _).mono ?_; rintro e' y h; have HY := hide (h.of HB.out); clear h; obtain ⟨v', rfl, hv1, hv2⟩ := id HY.out; have HV := hide hv1; have HVB := hide hv2; clear hv1 hv2))
  go_ret
  exact HY.out

set_option maxHeartbeats 2000000 in
theorem numbers_4 (w : World) (c : Nat) (c0 : Int) (p : PV) (da : Option Addr) (dn dc : Nat) (hp : p.Ok) : Calls Tryd.prog 27 #[.int .i64 (c : Int), .int .i64 16, pkV c0 p (.slice da dn dc)] w fun e w' => SpP w (nmsL c 4 p.a p.b) e w' := by
  have x1 : Below w.heap.size w (w.alloc (.cells (.int .i64 c0 :: p.row (.slice da dn dc)).toArray 30)) := (Below.refl w.heap.size w).alloc (Nat.le_refl _) _
  have x2 := x1.alloc x1.size (.cells #[.int .i64 0, .int .i64 4294967295] 93)
  have HA := hide (spp1 x1 0 4294967295 (by omega) (by omega) _ _ rfl rfl)
  have HB := hide x2
  have HC := hide fun y => flags_any y c
  rw [show nmsL c 4 p.a p.b = flgL c from rfl]
  generalize flgL c = L at *
  clear x1 x2
  unfold pkV
  generalize (.int .i64 c0 :: p.row (.slice da dn dc)) = LS at *
  go_enter Tryd.func27, Tryd.ntmps27
  go_wp2_with (go_at_call 34; refine (HC.out _).mono ?_; rintro e' y h; have HY := hide (h.of HB.out); clear h; obtain ⟨v', rfl, hv1, hv2⟩ := id HY.out; have HV := hide hv1; have HVB := hide hv2; clear hv1 hv2)
  go_ret
  exact HY.out

/-- what a number may be -/
theorem numbers_any (w : World) (c i : Nat) (c0 : Int) (p : PV) (da : Option Addr) (dn dc : Nat) (hp : p.Ok) (hi : i < 5) (h64 : i = 3 → c = 7 → p.b ≤ 64) : Calls Tryd.prog 27 #[.int .i64 (c : Int), .int .i64 ((2 ^ i : Nat) : Int), pkV c0 p (.slice da dn dc)] w fun e w' => SpP w (nmsL c i p.a p.b) e w' := by
  rcases (show i = 0 ∨ i = 1 ∨ i = 2 ∨ i = 3 ∨ i = 4 by omega) with rfl | rfl | rfl | rfl | rfl
  · exact numbers_0 w c c0 p da dn dc hp
  · exact numbers_1 w c c0 p da dn dc hp
  · exact numbers_2 w c c0 p da dn dc hp
  · exact numbers_3 w c c0 p da dn dc hp (h64 rfl)
  · exact numbers_4 w c c0 p da dn dc hp

end Go.Proofs.YtcjilmafdpnfeaaDoor
namespace Go.Proofs.YtcjilmafdpnfeaaDoor
open Go.RowKit
open Num
set_option linter.unusedVariables false
set_option linter.unusedSimpArgs false
set_option maxRecDepth 20000

theorem spi_ne {w : World} {rb b off cap at' : Nat} {l : List Nat} {v : Value} {L : List (Nat × Nat)} (h : QR w rb b off cap l at') (hs : SpI w v L) (hL : 0 < L.length) : v.ownBlock ≠ some rb := by
  obtain ⟨b2, off2, cap2, rfl, _, _, _, h4⟩ := hs
  obtain ⟨c0, c1⟩ := h4 0 hL
  intro e
  simp only [Value.ownBlock, Option.some.injEq] at e
  subst e
  rw [cell_of_row _ _ _ _ _ _ h.row] at c0 c1
  match off2 with
  | 0 => simp at c0
  | 1 => simp at c1
  | n + 2 => simp at c0
theorem nmsL_pos (c i a b : Nat) : 0 < (nmsL c i a b).length := by
  unfold nmsL cntL flgL
  repeat' split
  all_goals simp
theorem lenL_pos (c e : Nat) : 0 < (lenL c e).length := by
  unfold lenL
  repeat' split
  all_goals simp
theorem sumQ_any (l : List Nat) (L : List (Nat × Nat)) (s0 : List Nat) (a n : Nat) : (sumF l L s0 a true n).2 = (a, true) := by
  have h := sumQ_stuck (l := l) (L := L) (s0 := s0) (at0 := a) (st0 := true) (k := 0) (a := a) rfl n
  rwa [Nat.zero_add] at h
section
variable {l : List Nat} {c a : Nat} {s : PV × Nat × Bool}
theorem dStep_stop (h : s.2 = (a, true)) (i : Nat) : (dStep l c s i).2 = (a, true) := by
  unfold dStep
  split
  · show (rdS l _ 4 s.2.1 s.2.2).2 = _
    rw [h, rdS_true]
  · exact h
theorem dG_stop (h : s.2 = (a, true)) : (dG l c s).2 = (a, true) := by
  unfold dG
  split
  · rw [h]
    simp [fieldF, rdS_true]
  · exact h
theorem dS_stop (h : s.2 = (a, true)) : (dS l c s).2 = (a, true) := by
  obtain ⟨p, q⟩ := s
  simp only at h
  subst h
  unfold dS
  have key := sumQ_any l (zL c p.e) p.s a 32
  simp only
  generalize sumF l (zL c p.e) p.s a true 32 = F at *
  split
  · exact key
  · rfl
theorem dD_stop (h : s.2 = (a, true)) : (dD l c s).2 = (a, true) := by
  unfold dD dLn
  split
  · show (tkR l _ _ _).2 = _
    rw [h, rdS_true]
    rfl
  · exact h
end
theorem dNms_stop {l : List Nat} {c k a : Nat} (h : (dNms l c k).2 = (a, true)) (j : Nat) : (dNms l c (k + j)).2 = (a, true) := by
  induction j with
  | zero => exact h
  | succ j ih => rw [show k + (j + 1) = (k + j) + 1 from rfl, dNms_succ]; exact dStep_stop ih _
theorem rest_stop {l : List Nat} {c k a : Nat} (h : (dNms l c k).2 = (a, true)) (hk : k ≤ 5) : (dRest l c).2 = (a, true) := by
  have h5 := dNms_stop h (5 - k)
  rw [show k + (5 - k) = 5 by omega] at h5
  exact dD_stop (dS_stop (dG_stop h5))
theorem step_yes {l : List Nat} {c k a : Nat} {p : PV} (h : dNms l c k = (p, a, false)) (hh : hasB c (2 ^ k) = true) : dNms l c (k + 1) = (p.set k (rdN l (nmsL c k p.a p.b) 4 0 a).1, (rdN l (nmsL c k p.a p.b) 4 0 a).2) := by
  rw [dNms_succ, h]
  unfold dStep
  rw [if_pos hh, rdS_false]
theorem step_non {l : List Nat} {c k a : Nat} {p : PV} (h : dNms l c k = (p, a, false)) (hh : hasB c (2 ^ k) = false) : dNms l c (k + 1) = (p, a, false) := by
  rw [dNms_succ, h]
  exact step_no k hh
theorem set_b {p : PV} {i x : Nat} (h : 2 ≤ i) : (p.set i x).b = p.b := by
  unfold PV.set
  match i, h with
  | 2, _ => rfl
  | 3, _ => rfl
  | 4, _ => rfl
  | n + 5, _ => rfl
theorem dStep_b {l : List Nat} {c i : Nat} {s : PV × Nat × Bool} (h : 2 ≤ i) : (dStep l c s i).1.b = s.1.b := by
  unfold dStep
  split
  · exact set_b h
  · rfl
theorem dNms_b (l : List Nat) (j : Nat) : (dNms l 7 (2 + j)).1.b ≤ 64 := by
  induction j with
  | zero =>
    rw [show 2 + 0 = 1 + 1 from rfl, dNms_succ]
    unfold dStep
    rw [if_pos (by decide)]
    exact Nat.le_trans (rdS_one (lo := 0) (hi := 63) (by decide)) (by decide)
  | succ j ih => rw [show 2 + (j + 1) = (2 + j) + 1 from rfl, dNms_succ, dStep_b (by omega)]; exact ih
theorem dNms_s (l : List Nat) (c k : Nat) : (dNms l c k).1.s = PV.zero.s ∧ (dNms l c k).1.dl = [] := by
  induction k with
  | zero => exact ⟨rfl, rfl⟩
  | succ k ih =>
    rw [dNms_succ]
    unfold dStep
    split
    · refine ⟨?_, ?_⟩
      · show ((dNms l c k).1.set k _).s = _
        rw [← ih.1]
        unfold PV.set
        split <;> rfl
      · show ((dNms l c k).1.set k _).dl = _
        rw [PV.set_dl]; exact ih.2
    · exact ih
/-- the document's reading of fields: its boxes (w: where it began) -/
structure RSt (w x : World) (rb b off cap : Nat) (l : List Nat) (c : Nat) (p : PV) (v : Value) (a : Nat) : Prop where
  q : QR x rb b off cap l a
  r6 : x.heap[w.heap.size + 1]? = some (.cells (.int .i64 (c : Int) :: p.row v).toArray 30 (0, 0))
  r4 : x.heap[w.heap.size]? = some (.cells zPk 30 (0, 0))
  o : Oth rb w x
  ok : p.Ok
  ale : a ≤ l.length
  rl : rb < w.heap.size
  bl : b < w.heap.size
section
variable {w x y : World} {rb b off cap c a a' : Nat} {l : List Nat} {p : PV} {v : Value}
theorem RSt.oth (h : RSt w x rb b off cap l c p v a) (hq : QR y rb b off cap l a') (ho : Oth rb x y) (ha : a' ≤ l.length) : RSt w y rb b off cap l c p v a' :=
  ⟨hq, (ho.block _ (Array.getElem?_eq_some_iff.1 h.r6).1 (by have := h.rl; omega)).trans h.r6, (ho.block _ (Array.getElem?_eq_some_iff.1 h.r4).1 (by have := h.rl; omega)).trans h.r4, h.o.trans ho, h.ok, ha, h.rl, h.bl⟩
theorem RSt.below (h : RSt w x rb b off cap l c p v a) (hb : Below x.heap.size x y) : RSt w y rb b off cap l c p v a := h.oth (h.q.below hb) ((Oth.refl rb x).below hb) h.ale
/-- the packet's box turns, and it alone -/
theorem RSt.turn {p' : PV} {v' : Value} (h : RSt w x rb b off cap l c p v a) (hr : y.heap[w.heap.size + 1]? = some (.cells (.int .i64 (c : Int) :: p'.row v').toArray 30 (0, 0))) (hk : ∀ j, j ≠ w.heap.size + 1 → y.heap[j]? = x.heap[j]?) (ho : Oth rb w y) (hp : p'.Ok) : RSt w y rb b off cap l c p' v' a :=
  ⟨h.q.same (hk _ (by have := h.rl; omega)) (hk _ (by have := h.bl; omega)), hr, (hk _ (by omega)).trans h.r4, ho, hp, h.ale, h.rl, h.bl⟩
theorem RSt.row {p' : PV} {v' : Value} (h : RSt w x rb b off cap l c p v a) (hp : p'.Ok) : RSt w (x.setRow (w.heap.size + 1) (.int .i64 (c : Int) :: p'.row v').toArray) rb b off cap l c p' v' a :=
  h.turn (setRow_heap _ _ _ _ 30 _ h.r6) (fun j hj => setRow_other _ _ _ _ hj) (h.o.rowNew _ _ (by omega)) hp
end
theorem heap_setCells_row {b : Nat} {t : TypeId} : ∀ (vs : List Value) (o : Nat) (w : World) (A B C : List Value), A.length = o → B.length = vs.length → w.heap[b]? = some (.cells (A ++ B ++ C).toArray t (0, 0)) → (w.setCells b o vs).heap[b]? = some (.cells (A ++ vs ++ C).toArray t (0, 0))
  | [], o, w, A, B, C, _, hB, h => by
    obtain rfl : B = [] := List.eq_nil_of_length_eq_zero hB
    exact h
  | u :: vs, o, w, A, B, C, hA, hB, h => by
    obtain ⟨u0, B', rfl⟩ : ∃ u0 B', B = u0 :: B' := by
      cases B with
      | nil => simp at hB
      | cons u0 B' => exact ⟨u0, B', rfl⟩
    have h1 := Go.heap_setCell_same w b o _ t u h
    rw [List.setIfInBounds_toArray, List.append_assoc, List.set_append_right _ _ (by omega), hA, Nat.sub_self] at h1
    have h2 := heap_setCells_row (t := t) vs (o + 1) (w.setCell ⟨b, o, none⟩ u) (A ++ [u]) B' C (by simp [hA]) (by simpa using hB) (by
      rw [h1]; simp)
    show ((w.setCell ⟨b, o, none⟩ u).setCells b (o + 1) vs).heap[b]? = _
    rw [h2]
    simp
theorem qrow_sum (c : Int) (p : PV) (v : Value) (s : List Nat) : (.int .i64 c :: ({ p with s := s } : PV).row v : List Value) = [.int .i64 c, .int .u32 (p.a : Int), .int .u32 (p.b : Int), .int .u32 (p.c : Int), .int .u32 (p.d : Int), .int .u32 (p.e : Int), .int .u64 (p.g0 : Int), .int .u64 (p.g1 : Int), .int .u64 (p.g2 : Int), .int .u64 (p.g3 : Int)] ++ u8L s ++ [v] := rfl
/-- '[]byte{}' and bytes behind it, where operations may come in any order -/
theorem step_appQ {w : World} {ops : Array Oper} {o : Oper} {a : Act} {K : Act → World → Prop} {Q : Exit → Act → World → Prop} {E : Prop} (hgd : o.guard = none) (s x : Operand)
    (hop : o.op = .call { callee := .builtin .append, args := #[s, x], argTypes := #[22, 22] })
    (base : Nat) (v vx : Value) (l0 l : List Nat) (hs : a.eval s = v) (hx : a.eval x = vx) (hown : Own w base v l0) (hb : BSl w vx l) (hl0 : 0 < l.length) (hlen : l0.length + l.length ≤ 140737488355328) (hbase : base ≤ w.heap.size)
    (h : ∀ v' w', Own w' base v' (l0 ++ l) → Below base w w' → (∀ g, v.ownBlock ≠ some g → g < w.heap.size → w'.heap[g]? = w.heap[g]?) → K (a.put o.dst v') w') :
    if Region.wanted o (yielded ops a.tmps) = true then Oper.wp Tryd.prog o a w K Q else E := by
  have hw : Region.wanted o (yielded ops a.tmps) = true := by simp [Region.wanted, hgd]
  rw [if_pos hw]
  obtain ⟨i0, hi, hz0, hz1, hz2⟩ := info_parts Tryd.info5
  obtain ⟨ad, cap, rfl, hl, hm, hn, hbb, _⟩ := id hb
  cases ad with
  | none => have := hn rfl; omega
  | some ad =>
    obtain ⟨v', w', hr, h2, hg, -⟩ := run_append_own_wide (P := Tryd.prog) w base 22 o.type 5 i0 (.int .u8 0) 1 1 Tryd.underlying22 hi hz0 hz1 hz2 rfl (by decide) v l0.length _ hown.1 ad l.length cap (l.map byteV) (by simp) hb.news (byteV_oneCell l) (by unfold maxLen; omega) (by omega) hbase
    obtain ⟨_, _, _, _, hk⟩ := id hg
    unfold Oper.wp execOp
    simp only [hop, resolve, invoke, builtin, Sem.run_bind, Sem.run_pure, Result.andThen_ok, List.map_toArray, List.map_cons, List.map_nil, hs, hx, hr]
    exact h v' w' ⟨by rw [List.length_append, List.map_append]; exact h2, fun y hy => (List.mem_append.1 hy).elim (hown.2 y) (hbb y)⟩ ((Below.refl _ _).grown hg hbase fun j hj => (hown.1.lt j hj).1) fun g hne hlt => hk g hlt fun e => hne e.symm
theorem ids_ok {l : List Nat} {p : PV} {a : Nat} {st : Bool} (h : p.Ok) (hb : ∀ x ∈ l, x < 256) : (fieldF l p a st .ids).1.Ok := by
  obtain ⟨h1, h2, h3, h4, h5, h6, h7, h8, h9, h10, h11⟩ := h
  exact ⟨h1, h2, h3, h4, h5, rdS_lt hb, rdS_lt hb, rdS_lt hb, rdS_lt hb, h10, h11⟩
theorem ids_le {l : List Nat} {p : PV} {a : Nat} {st : Bool} (h : a ≤ l.length) : (fieldF l p a st .ids).2.1 ≤ l.length := (rdS_le (rdS_le (rdS_le (rdS_le h).2).2).2).2
theorem ids_row (c : Int) (p q : PV) (v : Value) (hq : q = { p with g0 := q.g0, g1 := q.g1, g2 := q.g2, g3 := q.g3 }) : ((((.int .i64 c :: p.row v : List Value).toArray.setIfInBounds 6 (.int .u64 (q.g0 : Int))).setIfInBounds 7 (.int .u64 (q.g1 : Int))).setIfInBounds 8 (.int .u64 (q.g2 : Int))).setIfInBounds 9 (.int .u64 (q.g3 : Int)) = (.int .i64 c :: q.row v : List Value).toArray := by
  rw [List.setIfInBounds_toArray, List.setIfInBounds_toArray, List.setIfInBounds_toArray, List.setIfInBounds_toArray, hq]
  rfl
theorem RSt.gens {w x : World} {rb b off cap c a : Nat} {l : List Nat} {p : PV} {v : Value} (h : RSt w x rb b off cap l c p v a) {q : PV} (hq : q = { p with g0 := q.g0, g1 := q.g1, g2 := q.g2, g3 := q.g3 }) (hok : q.Ok) :
    RSt w ((((x.setCell ⟨w.heap.size + 1, 6, none⟩ (.int .u64 (q.g0 : Int))).setCell ⟨w.heap.size + 1, 7, none⟩ (.int .u64 (q.g1 : Int))).setCell ⟨w.heap.size + 1, 8, none⟩ (.int .u64 (q.g2 : Int))).setCell ⟨w.heap.size + 1, 9, none⟩ (.int .u64 (q.g3 : Int))) rb b off cap l c q v a := by
  have k1 := Go.heap_setCell_same x (w.heap.size + 1) 6 _ 30 (.int .u64 (q.g0 : Int)) h.r6
  have k2 := Go.heap_setCell_same _ (w.heap.size + 1) 7 _ 30 (.int .u64 (q.g1 : Int)) k1
  have k3 := Go.heap_setCell_same _ (w.heap.size + 1) 8 _ 30 (.int .u64 (q.g2 : Int)) k2
  have k4 := Go.heap_setCell_same _ (w.heap.size + 1) 9 _ 30 (.int .u64 (q.g3 : Int)) k3
  rw [ids_row (c : Int) p q v hq] at k4
  refine h.turn k4 (fun j hj => ?_) ((((h.o.setNew _ _ _ (by omega)).setNew _ _ _ (by omega)).setNew _ _ _ (by omega)).setNew _ _ _ (by omega)) hok
  rw [Go.heap_setCell_other _ _ _ _ hj, Go.heap_setCell_other _ _ _ _ hj, Go.heap_setCell_other _ _ _ _ hj, Go.heap_setCell_other _ _ _ _ hj]
theorem RSt.there {w x : World} {rb b off cap c a : Nat} {l : List Nat} {p : PV} {v : Value} (h : RSt w x rb b off cap l c p v a) : x.there (w.heap.size + 1) 10 32 := fun j hj => by
  refine ⟨?_, frozen_of_row _ _ _ _ _ h.r6⟩
  rw [cell_of_row _ _ _ _ _ _ h.r6, Option.isSome_iff_ne_none, ne_eq, Array.getElem?_eq_none_iff]
  have : (.int .i64 (c : Int) :: p.row v : List Value).toArray.size = 43 := by rw [List.size_toArray, List.length_cons, row_len h.ok.n]
  omega
theorem oth_setCells {rb : Nat} {w : World} {g : Nat} (hg : w.heap.size ≤ g) : ∀ (vs : List Value) (o : Nat) (x : World), Oth rb w x → Oth rb w (x.setCells g o vs)
  | [], _, _, h => h
  | v :: r, o, x, h => oth_setCells hg r (o + 1) _ (h.setNew g o v hg)
theorem other_setCells {g j : Nat} (hj : j ≠ g) : ∀ (vs : List Value) (o : Nat) (x : World), (x.setCells g o vs).heap[j]? = x.heap[j]?
  | [], _, _ => rfl
  | v :: r, o, x => (other_setCells hj r (o + 1) _).trans (Go.heap_setCell_other _ _ _ _ hj)
theorem RSt.sum {w x : World} {rb b off cap c a : Nat} {l : List Nat} {p : PV} {v : Value} (h : RSt w x rb b off cap l c p v a) (s : List Nat) (hs : s.length = 32) (hsb : ∀ y ∈ s, y < 256) :
    RSt w (x.setCells (w.heap.size + 1) 10 (u8L s)) rb b off cap l c { p with s := s } v a := by
  have h6 := h.r6
  have e : (.int .i64 (c : Int) :: p.row v : List Value) = [.int .i64 (c : Int), .int .u32 (p.a : Int), .int .u32 (p.b : Int), .int .u32 (p.c : Int), .int .u32 (p.d : Int), .int .u32 (p.e : Int), .int .u64 (p.g0 : Int), .int .u64 (p.g1 : Int), .int .u64 (p.g2 : Int), .int .u64 (p.g3 : Int)] ++ u8L p.s ++ [v] := rfl
  rw [e] at h6
  have k := heap_setCells_row (t := 30) (u8L s) 10 x _ (u8L p.s) [v] rfl (by rw [u8L_len, u8L_len, hs, h.ok.n]) h6
  obtain ⟨h1, h2, h3, h4, h5, h6', h7, h8, h9, h10, h11⟩ := h.ok
  refine h.turn ?_ (fun j hj => other_setCells hj _ _ _) (oth_setCells (by omega) _ _ _ h.o) ⟨h1, h2, h3, h4, h5, h6', h7, h8, h9, hs, hsb⟩
  rw [k]
  rfl
theorem sumF_le {l : List Nat} {L : List (Nat × Nat)} {s0 : List Nat} {a : Nat} {st : Bool} (h : a ≤ l.length) (k : Nat) : (sumF l L s0 a st k).2.1 ≤ l.length := by
  induction k with
  | zero => exact h
  | succ k ih => exact (rdS_le ih).2
theorem row_dl (c : Int) (p : PV) (v v' : Value) (d : List Nat) (hs : p.s.length = 32) : (.int .i64 c :: p.row v : List Value).toArray.setIfInBounds 42 v' = (.int .i64 c :: ({ p with dl := d } : PV).row v' : List Value).toArray := by
  rw [List.setIfInBounds_toArray]
  have e : (.int .i64 c :: p.row v : List Value) = ([.int .i64 c, .int .u32 (p.a : Int), .int .u32 (p.b : Int), .int .u32 (p.c : Int), .int .u32 (p.d : Int), .int .u32 (p.e : Int), .int .u64 (p.g0 : Int), .int .u64 (p.g1 : Int), .int .u64 (p.g2 : Int), .int .u64 (p.g3 : Int)] ++ u8L p.s) ++ [v] := rfl
  rw [e, List.set_append_right _ _ (by simp [u8L_len, hs])]
  simp [u8L_len, hs]
  rfl
theorem RSt.data {w x : World} {rb b off cap c a : Nat} {l : List Nat} {p : PV} {v : Value} (h : RSt w x rb b off cap l c p v a) (v' : Value) (d : List Nat) : RSt w (x.setCell ⟨w.heap.size + 1, 42, none⟩ v') rb b off cap l c { p with dl := d } v' a := by
  have k := Go.heap_setCell_same x (w.heap.size + 1) 42 _ 30 v' h.r6
  rw [row_dl (c : Int) p v v' d h.ok.n] at k
  obtain ⟨h1, h2, h3, h4, h5, h6, h7, h8, h9, h10, h11⟩ := h.ok
  exact h.turn k (fun j hj => Go.heap_setCell_other _ _ _ _ hj) (h.o.setNew _ _ _ (by omega)) ⟨h1, h2, h3, h4, h5, h6, h7, h8, h9, h10, h11⟩
theorem QR.part {w : World} {rb b off cap at' : Nat} {l : List Nat} (h : QR w rb b off cap l at') {a n : Nat} (hn : a + n ≤ l.length) : BSl w (.slice (some ⟨b, off + a, none⟩) n (cap - a)) (sg l a n) := by
  have h1 := h.h1
  have h2 := h.h2
  have hb : BSl w (.slice (some ⟨b, off, none⟩) l.length cap) l := ⟨_, cap, rfl, h1, h2, by simp, h.hb, fun _ => ⟨b, off, rfl, h.dat⟩⟩
  exact hb.seg a n hn
theorem own_made (y : World) (m : Nat) : Own ((y.drewN m).alloc (.cells #[] 5)) y.heap.size (.slice (some ⟨y.heap.size, 0, none⟩) 0 0) [] := ⟨World.ownsRow_made (y.drewN m) #[] 0 (Nat.le_refl _) (by unfold maxLen; omega) rfl, by simp⟩
theorem cell_alloc' {w : World} {a : Addr} {x : Value} (o : Obj) (h : w.cell? a = some x) : (w.alloc o).cell? a = some x := (World.cell?_of_block (Below.heap_alloc _ _ _ (World.block_lt_of_cell? w _ h))).trans h
theorem row_42 {w x : World} {rb b off cap c a : Nat} {l : List Nat} {p : PV} {v : Value} (h : RSt w x rb b off cap l c p v a) : x.cell? ⟨w.heap.size + 1, 42, none⟩ = some v := by
  rw [cell_of_row _ _ _ _ _ _ h.r6, List.getElem?_toArray, List.getElem?_cons_succ, row_eq, List.getElem?_append_right (by simp [u8L_len, h.ok.n])]
  simp [u8L_len, h.ok.n]
theorem part_facts {a n len cap : Nat} (h1 : ¬ len - a < n) (h2 : a ≤ len) (h3 : len ≤ cap) (h4 : cap ≤ 2 ^ 63 - 1) (h5 : n ≠ 0) :
    (a : Int) + (n : Int) ≤ (cap : Int) ∧ (a : Int) ≤ (a : Int) + (n : Int) ∧ ¬ cap = a ∧ IntKind.i64.wrap ((a : Int) + (n : Int)) = (a : Int) + (n : Int) ∧ (0 : Int) ≤ (a : Int) ∧ (0 : Int) ≤ (a : Int) + (n : Int) ∧ ((a : Int) + (n : Int)).toNat = a + n ∧ a + n - a = n ∧ a + n ≤ len := by
  refine ⟨by omega, by omega, by omega, ?_, by omega, by omega, by omega, by omega, by omega⟩
  simp [IntKind.wrap, IntKind.bits, IntKind.signed]; omega
theorem own_slQ {w : World} {base n : Nat} {v : Value} {l : List Nat} (h : Own w base v l) (hn : l.length = n) : ∃ a c, v = .slice a n c := by
  subst hn
  rcases h.1.2 with ⟨rfl, h0⟩ | ⟨g, cap, cur, rfl, h1, hg, r⟩
  · exact ⟨none, 0, by rw [h0]⟩
  · exact ⟨_, cap, rfl⟩
end Go.Proofs.YtcjilmafdpnfeaaDoor
namespace Go.Proofs.YtcjilmafdpnfeaaDoor
open Go.RowKit
open Num
set_option linter.unusedVariables false
set_option linter.unusedSimpArgs false
set_option maxRecDepth 20000

theorem meets_cmd {x : Nat} : meets [(1, 25)] x x = decide (1 ≤ x ∧ x ≤ 25) := by
  simp [meets]
theorem dec_bad {l : List Nat} (h0 : 0 < l.length) (h : ¬ (1 ≤ l.getD 0 0 ∧ l.getD 0 0 ≤ 25)) : dErr l = 74 ∧ dAt l = 0 ∧ dC l = 0 ∧ dPv l = PV.zero := by
  have e : rdS l [(1, 25)] 1 0 false = (0, 0, true) := by
    rw [rd1 h0, if_neg]
    rw [meets_cmd]
    simpa using h
  have ed : dAll l = (PV.zero, 0, true) := by
    unfold dAll dCmd
    rw [e]
    rfl
  have er : dErr l = 74 := by
    unfold dErr why
    rw [ed]
    simp only [if_true]
    rw [if_neg (by omega)]
  have en : ¬ dErr l = 0 := by rw [er]; decide
  refine ⟨er, ?_, ?_, ?_⟩
  · unfold dAt; rw [if_neg en, ed]
  · unfold dC; rw [if_neg en]
  · unfold dPv; rw [if_neg en]
theorem dec_rest {l : List Nat} {c : Nat} (h0 : 0 < l.length) (hc : l.getD 0 0 = c) (h1 : 1 ≤ c) (h2 : c ≤ 25) : dAll l = dRest l c ∧ dCmd l = c := by
  have e : rdS l [(1, 25)] 1 0 false = (c, 1, false) := by
    rw [rd1 h0, hc, if_pos]
    rw [meets_cmd]
    simp [h1, h2]
  have e2 : dCmd l = c := by unfold dCmd; rw [e]
  refine ⟨?_, e2⟩
  unfold dAll
  rw [e2, e, rest_eq l c h1 h2]
theorem why_nil : dErr [] = 71 ∧ dAt [] = 0 ∧ dC [] = 0 := by decide
theorem dPv_nilQ : dPv [] = PV.zero := by unfold dPv; rw [if_neg (by decide)]
section
variable {l : List Nat} {c a : Nat} {s : PV × Nat × Bool}
theorem dStep_ge (h : a ≤ s.2.1 ∧ s.2.1 ≤ l.length) (i : Nat) : a ≤ (dStep l c s i).2.1 ∧ (dStep l c s i).2.1 ≤ l.length := by
  unfold dStep
  split
  · have := rdS_le (l := l) (L := nmsL c i s.1.a s.1.b) (k := 4) (stuck := s.2.2) h.2
    exact ⟨Nat.le_trans h.1 this.1, this.2⟩
  · exact h
theorem dG_ge (h : a ≤ s.2.1 ∧ s.2.1 ≤ l.length) : a ≤ (dG l c s).2.1 ∧ (dG l c s).2.1 ≤ l.length := by
  unfold dG
  split
  · have h1 := rdS_le (l := l) (L := [(0, 18446744073709551615)]) (k := 8) (stuck := s.2.2) h.2
    have h2 := rdS_le (l := l) (L := [(0, 18446744073709551615)]) (k := 8) (stuck := (rdS l [(0, 18446744073709551615)] 8 s.2.1 s.2.2).2.2) h1.2
    have h3 := rdS_le (l := l) (L := [(0, 18446744073709551615)]) (k := 8) (stuck := (rdS l [(0, 18446744073709551615)] 8 (rdS l [(0, 18446744073709551615)] 8 s.2.1 s.2.2).2.1 (rdS l [(0, 18446744073709551615)] 8 s.2.1 s.2.2).2.2).2.2) h2.2
    have h4 := rdS_le (l := l) (L := [(0, 18446744073709551615)]) (k := 8) (stuck := (rdS l [(0, 18446744073709551615)] 8 (rdS l [(0, 18446744073709551615)] 8 (rdS l [(0, 18446744073709551615)] 8 s.2.1 s.2.2).2.1 (rdS l [(0, 18446744073709551615)] 8 s.2.1 s.2.2).2.2).2.1 (rdS l [(0, 18446744073709551615)] 8 (rdS l [(0, 18446744073709551615)] 8 s.2.1 s.2.2).2.1 (rdS l [(0, 18446744073709551615)] 8 s.2.1 s.2.2).2.2).2.2).2.2) h3.2
    exact ⟨Nat.le_trans h.1 (Nat.le_trans h1.1 (Nat.le_trans h2.1 (Nat.le_trans h3.1 h4.1))), h4.2⟩
  · exact h
theorem sumF_ge {L : List (Nat × Nat)} {s0 : List Nat} {a0 : Nat} {st : Bool} (h : a ≤ a0 ∧ a0 ≤ l.length) (k : Nat) : a ≤ (sumF l L s0 a0 st k).2.1 ∧ (sumF l L s0 a0 st k).2.1 ≤ l.length := by
  induction k with
  | zero => exact h
  | succ k ih =>
    have := rdS_le (l := l) (L := L) (k := 1) (stuck := (sumF l L s0 a0 st k).2.2) ih.2
    exact ⟨Nat.le_trans ih.1 this.1, this.2⟩
theorem dS_ge (h : a ≤ s.2.1 ∧ s.2.1 ≤ l.length) : a ≤ (dS l c s).2.1 ∧ (dS l c s).2.1 ≤ l.length := by
  have key := sumF_ge (L := zL c s.1.e) (s0 := s.1.s) (st := s.2.2) h 32
  unfold dS
  generalize sumF l (zL c s.1.e) s.1.s s.2.1 s.2.2 32 = F at *
  split
  · exact key
  · exact h
theorem tkR_ge {a0 n : Nat} {st : Bool} (h : a ≤ a0 ∧ a0 ≤ l.length) : a ≤ (tkR l a0 st n).2.1 ∧ (tkR l a0 st n).2.1 ≤ l.length := by
  unfold tkR
  split
  · exact h
  · split
    · exact ⟨Nat.le_trans h.1 h.2, Nat.le_refl _⟩
    · refine ⟨Nat.le_trans h.1 (Nat.le_add_right _ _), ?_⟩
      show a0 + n ≤ l.length
      omega
theorem dD_ge (h : a ≤ s.2.1 ∧ s.2.1 ≤ l.length) : a ≤ (dD l c s).2.1 ∧ (dD l c s).2.1 ≤ l.length := by
  unfold dD dLn
  split
  · have := rdS_le (l := l) (L := lenL c s.1.e) (k := 2) (stuck := s.2.2) h.2
    exact tkR_ge ⟨Nat.le_trans h.1 this.1, this.2⟩
  · exact h
end
theorem dNms_ge {l : List Nat} (h : 1 ≤ l.length) (c k : Nat) : 1 ≤ (dNms l c k).2.1 ∧ (dNms l c k).2.1 ≤ l.length := by
  induction k with
  | zero => exact ⟨Nat.le_refl _, h⟩
  | succ k ih => rw [dNms_succ]; exact dStep_ge ih k
theorem rest_ge {l : List Nat} (h : 1 ≤ l.length) (c : Nat) : 1 ≤ (dRest l c).2.1 ∧ (dRest l c).2.1 ≤ l.length := dD_ge (dS_ge (dG_ge (dNms_ge h c 5)))
theorem bel_row {w y : World} (h : Below w.heap.size w y) (g : Nat) (cs : Array Value) (hg : w.heap.size ≤ g) : Below w.heap.size w (y.setRow g cs) := by
  refine ⟨h.os, h.tape, h.output, by simp [World.setRow]; exact h.size, fun j hj => ?_⟩
  rw [setRow_other _ _ _ _ (by omega)]; exact h.block j hj
theorem oth_bel {w x y : World} {rb : Nat} (h : Below w.heap.size w x) (ho : Oth rb x y) (hr : w.heap.size ≤ rb) : Below w.heap.size w y :=
  ⟨ho.os.trans h.os, ho.tape.trans h.tape, ho.output.trans h.output, Nat.le_trans h.size ho.size, fun j hj => (ho.block j (Nat.lt_of_lt_of_le hj h.size) (by omega)).trans (h.block j hj)⟩
set_option maxHeartbeats 4000000 in
theorem rdec_nil (w : World) (a : Option Addr) (cap : Nat) : Calls Tryd.prog 7 #[.slice a 0 cap] w fun e y => DecO w [] e y := by
  have hb := (Below.refl w.heap.size w).alloc (Nat.le_refl _) (.cells zPk 30)
  have HB := hide hb
  clear hb
  go_enter Tryd.func7, Tryd.ntmps7
  go_wp2_with (refine wpList_store_row rfl 30 (.tmp 2) (.tmp 12) rfl w.heap.size zPk (by first | rfl | simp [Act.eval, Act.put]) (by first | rfl | simp [Act.eval, Act.put]) 30 zPk (Go.heap_alloc_new w _) infoK rfl (by kernel_rfl) ?_)
  refine bodyPost_ret (results_row_tmp2 (p := 2) (u := 3) (v := 4) rfl _ _ w.heap.size 30 zPk (0, 0) _ (by kernel_rfl) (setRow_heap _ _ zPk _ 30 _ (Go.heap_alloc_new w _)) Tryd.underlying30 rfl infoK) rfl ⟨.slice none 0 0, ?_, ?_, bel_row HB.out _ _ (Nat.le_refl _)⟩
  · rw [why_nil.1, why_nil.2.1, why_nil.2.2, dPv_nilQ]; rfl
  · rw [dPv_nilQ]; exact ⟨World.ownsRow_nil _ _ _ _, by simp [PV.zero]⟩
set_option maxHeartbeats 4000000 in
theorem rdec_bad (w : World) (b off cap : Nat) (l : List Nat) (h : BSl w (.slice (some ⟨b, off, none⟩) l.length cap) l) (h0 : 0 < l.length) (hx : ¬ (1 ≤ l.getD 0 0 ∧ l.getD 0 0 ≤ 25)) : Calls Tryd.prog 7 #[.slice (some ⟨b, off, none⟩) l.length cap] w fun e y => DecO w l e y := by
  have HD := hide (dec_bad h0 hx)
  have hb := (Below.refl w.heap.size w).alloc (Nat.le_refl _) (.cells #[.int .i64 0, .int .u32 0, .int .u32 0, .int .u32 0, .int .u32 0, .int .u32 0, .int .u64 0, .int .u64 0, .int .u64 0, .int .u64 0, .int .u8 0, .int .u8 0, .int .u8 0, .int .u8 0, .int .u8 0, .int .u8 0, .int .u8 0, .int .u8 0, .int .u8 0, .int .u8 0, .int .u8 0, .int .u8 0, .int .u8 0, .int .u8 0, .int .u8 0, .int .u8 0, .int .u8 0, .int .u8 0, .int .u8 0, .int .u8 0, .int .u8 0, .int .u8 0, .int .u8 0, .int .u8 0, .int .u8 0, .int .u8 0, .int .u8 0, .int .u8 0, .int .u8 0, .int .u8 0, .int .u8 0, .int .u8 0, .slice none 0 0] 30)
  obtain ⟨_, _, e, h1, h2, _, hby, hc⟩ := h.below hb
  simp only [Value.slice.injEq] at e
  obtain ⟨rfl, -, rfl⟩ := e
  obtain ⟨b', off', e, hc⟩ := hc h0
  simp only [Option.some.injEq, Addr.mk.injEq] at e
  obtain ⟨rfl, rfl, -⟩ := e
  have c0 := hc 0 h0
  rw [Nat.add_zero] at c0
  have hx8 : l.getD 0 0 < 256 := hby _ (by simp [List.getD, h0])
  unfold maxLen at h2
  have HB := hide hb
  have hnz : ¬ l.length = 0 := by omega
  have hnz2 : ((l.length : Int) == 0) = false := by simp only [beq_eq_false_iff_ne]; omega
  have i0 : (0 : Int) < (l.length : Int) := by omega
  clear h hb hc hby
  generalize l.getD 0 0 = x at *
  by_cases hx1 : x < 1
  · obtain rfl : x = 0 := by omega
    go_enter Tryd.func7, Tryd.ntmps7
    go_wp2_with (refine wpList_store_row rfl 30 (.tmp 2) (.tmp 23) rfl w.heap.size zPk (by first | rfl | simp [Act.eval, Act.put]) (by first | rfl | simp [Act.eval, Act.put]) 30 zPk (Go.heap_alloc_new w _) infoK rfl (by kernel_rfl) ?_)
    refine bodyPost_ret (results_row_tmp2 (p := 2) (u := 3) (v := 4) rfl _ _ w.heap.size 30 zPk (0, 0) _ (by kernel_rfl) (setRow_heap _ _ zPk _ 30 _ (Go.heap_alloc_new w _)) Tryd.underlying30 rfl infoK) rfl ⟨.slice none 0 0, ?_, ?_, bel_row HB.out _ _ (Nat.le_refl _)⟩
    · rw [HD.out.1, HD.out.2.1, HD.out.2.2.1, HD.out.2.2.2]; rfl
    · rw [HD.out.2.2.2]; exact ⟨World.ownsRow_nil _ _ _ _, by simp [PV.zero]⟩
  · have i1 : ¬ (x : Int) < 1 := by omega
    have i2 : (25 : Int) < (x : Int) := by omega
    go_enter Tryd.func7, Tryd.ntmps7
    go_wp2_with (refine wpList_store_row rfl 30 (.tmp 2) (.tmp 23) rfl w.heap.size zPk (by first | rfl | simp [Act.eval, Act.put]) (by first | rfl | simp [Act.eval, Act.put]) 30 zPk (Go.heap_alloc_new w _) infoK rfl (by kernel_rfl) ?_)
    refine bodyPost_ret (results_row_tmp2 (p := 2) (u := 3) (v := 4) rfl _ _ w.heap.size 30 zPk (0, 0) _ (by kernel_rfl) (setRow_heap _ _ zPk _ 30 _ (Go.heap_alloc_new w _)) Tryd.underlying30 rfl infoK) rfl ⟨.slice none 0 0, ?_, ?_, bel_row HB.out _ _ (Nat.le_refl _)⟩
    · rw [HD.out.1, HD.out.2.1, HD.out.2.2.1, HD.out.2.2.2]; rfl
    · rw [HD.out.2.2.2]; exact ⟨World.ownsRow_nil _ _ _ _, by simp [PV.zero]⟩
end Go.Proofs.YtcjilmafdpnfeaaDoor
namespace Go.Proofs.YtcjilmafdpnfeaaDoor
open Go.RowKit
open Num
set_option linter.unusedVariables false
set_option linter.unusedSimpArgs false
set_option maxRecDepth 20000

theorem CTab.ne {w : World} {rb b off cap at' : Nat} {l : List Nat} (h : QR w rb b off cap l at') (hT : CTab w) : 2 ≠ rb := fun e => by
  have h1 := hT 25 (by decide)
  rw [e, cell_of_row _ _ _ _ _ _ h.row] at h1
  simp at h1
theorem FTab.ne {w : World} {rb b off cap at' : Nat} {l : List Nat} (h : QR w rb b off cap l at') (hT : FTab w) : 1 ≠ rb := fun e => by
  have h1 := hT 4 (by decide)
  rw [e, cell_of_row _ _ _ _ _ _ h.row] at h1
  simp at h1
theorem CTab.oth {w y : World} {rb : Nat} (hT : CTab w) (ho : Oth rb w y) (hne : 2 ≠ rb) : CTab y := fun n hn => (World.cell?_of_block (ho.block _ (World.block_lt_of_cell? w _ (hT n hn)) hne)).trans (hT n hn)
theorem FTab.oth {w y : World} {rb : Nat} (hT : FTab w) (ho : Oth rb w y) (hne : 1 ≠ rb) : FTab y := fun n hn => (World.cell?_of_block (ho.block _ (World.block_lt_of_cell? w _ (hT n hn)) hne)).trans (hT n hn)
theorem gens_alone : ∀ c, c < 26 → hasB c 32 = true → hasB c 64 = false ∧ hasB c 128 = false := by decide
theorem sum_alone : ∀ c, c < 26 → hasB c 64 = true → hasB c 128 = false := by decide
/-- what the document's reading of the fields says -/
def RestP (w : World) (rb b off cap : Nat) (l : List Nat) (c : Nat) (e : Ending) (y : World) : Prop :=
  ∃ (q : PV) (da : Option Addr) (dn dc : Nat), e = .returned (.tuple #[pkV c q (.slice da dn dc), .bool (!(dRest l c).2.2)]) ∧ q.s.length = 32 ∧ ((dRest l c).2.2 = false → q = (dRest l c).1 ∧ Own y w.heap.size (.slice da dn dc) q.dl) ∧ QR y rb b off cap l (dRest l c).2.1 ∧ Oth rb w y
/-- it ends: the packet goes out -/
theorem RSt.out {w x : World} {rb b off cap c a : Nat} {l : List Nat} {p : PV} {da : Option Addr} {dn dc : Nat} (h : RSt w x rb b off cap l c p (.slice da dn dc) a) :
    QR (x.setRow w.heap.size (.int .i64 (c : Int) :: p.row (.slice da dn dc) : List Value).toArray) rb b off cap l a ∧ Oth rb w (x.setRow w.heap.size (.int .i64 (c : Int) :: p.row (.slice da dn dc) : List Value).toArray) ∧ (x.setRow w.heap.size (.int .i64 (c : Int) :: p.row (.slice da dn dc) : List Value).toArray).heap[w.heap.size]? = some (.cells (.int .i64 (c : Int) :: p.row (.slice da dn dc) : List Value).toArray 30 (0, 0)) :=
  ⟨h.q.same (setRow_other _ _ _ _ (by have := h.rl; omega)) (setRow_other _ _ _ _ (by have := h.bl; omega)), h.o.rowNew _ _ (Nat.le_refl _), setRow_heap _ _ _ _ 30 _ h.r4⟩
set_option maxHeartbeats 8000000 in
theorem rest_any (w : World) (rb b off cap c : Nat) (l : List Nat) (h : QR w rb b off cap l 1) (h1 : 1 ≤ c) (h2 : c ≤ 25) (hl : 1 ≤ l.length) (hCT : CTab w) (hFT : FTab w) :
    Calls Tryd.prog 17 #[.pointer (some ⟨rb, 0, none⟩), .int .i64 (c : Int)] w (RestP w rb b off cap l c) := by
  unfold RestP
  have hcn := hCT.ne h
  have hfn := hFT.ne h
  have HTB := hide fun y (ho : Oth rb w y) => (⟨hCT.oth ho hcn, hFT.oth ho hfn⟩ : CTab y ∧ FTab y)
  have hrl := (Array.getElem?_eq_some_iff.1 h.row).1
  have hbl := World.block_lt_of_cell? w _ (h.dat 0 hl)
  simp only at hbl
  obtain ⟨w2, hw2⟩ : ∃ w2, w2 = (w.alloc (.cells #[.int .i64 0, .int .u32 0, .int .u32 0, .int .u32 0, .int .u32 0, .int .u32 0, .int .u64 0, .int .u64 0, .int .u64 0, .int .u64 0, .int .u8 0, .int .u8 0, .int .u8 0, .int .u8 0, .int .u8 0, .int .u8 0, .int .u8 0, .int .u8 0, .int .u8 0, .int .u8 0, .int .u8 0, .int .u8 0, .int .u8 0, .int .u8 0, .int .u8 0, .int .u8 0, .int .u8 0, .int .u8 0, .int .u8 0, .int .u8 0, .int .u8 0, .int .u8 0, .int .u8 0, .int .u8 0, .int .u8 0, .int .u8 0, .int .u8 0, .int .u8 0, .int .u8 0, .int .u8 0, .int .u8 0, .int .u8 0, .slice none 0 0] 30)).alloc (.cells #[.int .i64 (c : Int), .int .u32 0, .int .u32 0, .int .u32 0, .int .u32 0, .int .u32 0, .int .u64 0, .int .u64 0, .int .u64 0, .int .u64 0, .int .u8 0, .int .u8 0, .int .u8 0, .int .u8 0, .int .u8 0, .int .u8 0, .int .u8 0, .int .u8 0, .int .u8 0, .int .u8 0, .int .u8 0, .int .u8 0, .int .u8 0, .int .u8 0, .int .u8 0, .int .u8 0, .int .u8 0, .int .u8 0, .int .u8 0, .int .u8 0, .int .u8 0, .int .u8 0, .int .u8 0, .int .u8 0, .int .u8 0, .int .u8 0, .int .u8 0, .int .u8 0, .int .u8 0, .int .u8 0, .int .u8 0, .int .u8 0, .slice none 0 0] 30) := ⟨_, rfl⟩
  have hz := (Below.refl w.heap.size w).alloc (Nat.le_refl _) (.cells #[.int .i64 0, .int .u32 0, .int .u32 0, .int .u32 0, .int .u32 0, .int .u32 0, .int .u64 0, .int .u64 0, .int .u64 0, .int .u64 0, .int .u8 0, .int .u8 0, .int .u8 0, .int .u8 0, .int .u8 0, .int .u8 0, .int .u8 0, .int .u8 0, .int .u8 0, .int .u8 0, .int .u8 0, .int .u8 0, .int .u8 0, .int .u8 0, .int .u8 0, .int .u8 0, .int .u8 0, .int .u8 0, .int .u8 0, .int .u8 0, .int .u8 0, .int .u8 0, .int .u8 0, .int .u8 0, .int .u8 0, .int .u8 0, .int .u8 0, .int .u8 0, .int .u8 0, .int .u8 0, .int .u8 0, .int .u8 0, .slice none 0 0] 30)
  have hz2 := hz.alloc hz.size (.cells #[.int .i64 (c : Int), .int .u32 0, .int .u32 0, .int .u32 0, .int .u32 0, .int .u32 0, .int .u64 0, .int .u64 0, .int .u64 0, .int .u64 0, .int .u8 0, .int .u8 0, .int .u8 0, .int .u8 0, .int .u8 0, .int .u8 0, .int .u8 0, .int .u8 0, .int .u8 0, .int .u8 0, .int .u8 0, .int .u8 0, .int .u8 0, .int .u8 0, .int .u8 0, .int .u8 0, .int .u8 0, .int .u8 0, .int .u8 0, .int .u8 0, .int .u8 0, .int .u8 0, .int .u8 0, .int .u8 0, .int .u8 0, .int .u8 0, .int .u8 0, .int .u8 0, .int .u8 0, .int .u8 0, .int .u8 0, .int .u8 0, .slice none 0 0] 30)
  have R0 : Hid (RSt w w2 rb b off cap l c PV.zero (.slice none 0 0) 1) := hide (by
    rw [hw2]
    have e := Go.heap_alloc_new (w.alloc (.cells #[.int .i64 0, .int .u32 0, .int .u32 0, .int .u32 0, .int .u32 0, .int .u32 0, .int .u64 0, .int .u64 0, .int .u64 0, .int .u64 0, .int .u8 0, .int .u8 0, .int .u8 0, .int .u8 0, .int .u8 0, .int .u8 0, .int .u8 0, .int .u8 0, .int .u8 0, .int .u8 0, .int .u8 0, .int .u8 0, .int .u8 0, .int .u8 0, .int .u8 0, .int .u8 0, .int .u8 0, .int .u8 0, .int .u8 0, .int .u8 0, .int .u8 0, .int .u8 0, .int .u8 0, .int .u8 0, .int .u8 0, .int .u8 0, .int .u8 0, .int .u8 0, .int .u8 0, .int .u8 0, .int .u8 0, .int .u8 0, .slice none 0 0] 30)) (.cells #[.int .i64 (c : Int), .int .u32 0, .int .u32 0, .int .u32 0, .int .u32 0, .int .u32 0, .int .u64 0, .int .u64 0, .int .u64 0, .int .u64 0, .int .u8 0, .int .u8 0, .int .u8 0, .int .u8 0, .int .u8 0, .int .u8 0, .int .u8 0, .int .u8 0, .int .u8 0, .int .u8 0, .int .u8 0, .int .u8 0, .int .u8 0, .int .u8 0, .int .u8 0, .int .u8 0, .int .u8 0, .int .u8 0, .int .u8 0, .int .u8 0, .int .u8 0, .int .u8 0, .int .u8 0, .int .u8 0, .int .u8 0, .int .u8 0, .int .u8 0, .int .u8 0, .int .u8 0, .int .u8 0, .int .u8 0, .int .u8 0, .slice none 0 0] 30)
    rw [show (w.alloc (.cells #[.int .i64 0, .int .u32 0, .int .u32 0, .int .u32 0, .int .u32 0, .int .u32 0, .int .u64 0, .int .u64 0, .int .u64 0, .int .u64 0, .int .u8 0, .int .u8 0, .int .u8 0, .int .u8 0, .int .u8 0, .int .u8 0, .int .u8 0, .int .u8 0, .int .u8 0, .int .u8 0, .int .u8 0, .int .u8 0, .int .u8 0, .int .u8 0, .int .u8 0, .int .u8 0, .int .u8 0, .int .u8 0, .int .u8 0, .int .u8 0, .int .u8 0, .int .u8 0, .int .u8 0, .int .u8 0, .int .u8 0, .int .u8 0, .int .u8 0, .int .u8 0, .int .u8 0, .int .u8 0, .int .u8 0, .int .u8 0, .slice none 0 0] 30)).heap.size = w.heap.size + 1 by simp] at e
    exact ⟨h.below hz2, e, ((Below.refl _ (w.alloc (.cells #[.int .i64 0, .int .u32 0, .int .u32 0, .int .u32 0, .int .u32 0, .int .u32 0, .int .u64 0, .int .u64 0, .int .u64 0, .int .u64 0, .int .u8 0, .int .u8 0, .int .u8 0, .int .u8 0, .int .u8 0, .int .u8 0, .int .u8 0, .int .u8 0, .int .u8 0, .int .u8 0, .int .u8 0, .int .u8 0, .int .u8 0, .int .u8 0, .int .u8 0, .int .u8 0, .int .u8 0, .int .u8 0, .int .u8 0, .int .u8 0, .int .u8 0, .int .u8 0, .int .u8 0, .int .u8 0, .int .u8 0, .int .u8 0, .int .u8 0, .int .u8 0, .int .u8 0, .int .u8 0, .int .u8 0, .int .u8 0, .slice none 0 0] 30))).alloc (Nat.le_refl _) (.cells #[.int .i64 (c : Int), .int .u32 0, .int .u32 0, .int .u32 0, .int .u32 0, .int .u32 0, .int .u64 0, .int .u64 0, .int .u64 0, .int .u64 0, .int .u8 0, .int .u8 0, .int .u8 0, .int .u8 0, .int .u8 0, .int .u8 0, .int .u8 0, .int .u8 0, .int .u8 0, .int .u8 0, .int .u8 0, .int .u8 0, .int .u8 0, .int .u8 0, .int .u8 0, .int .u8 0, .int .u8 0, .int .u8 0, .int .u8 0, .int .u8 0, .int .u8 0, .int .u8 0, .int .u8 0, .int .u8 0, .int .u8 0, .int .u8 0, .int .u8 0, .int .u8 0, .int .u8 0, .int .u8 0, .int .u8 0, .int .u8 0, .slice none 0 0] 30)).block _ (by simp) |>.trans (Go.heap_alloc_new w _), (Oth.refl rb w).below hz2, PV.zero_ok, hl, hrl, hbl⟩)
  have PCZ : Hid (PC #[.int .i64 (c : Int), .int .u32 0, .int .u32 0, .int .u32 0, .int .u32 0, .int .u32 0, .int .u64 0, .int .u64 0, .int .u64 0, .int .u64 0, .int .u8 0, .int .u8 0, .int .u8 0, .int .u8 0, .int .u8 0, .int .u8 0, .int .u8 0, .int .u8 0, .int .u8 0, .int .u8 0, .int .u8 0, .int .u8 0, .int .u8 0, .int .u8 0, .int .u8 0, .int .u8 0, .int .u8 0, .int .u8 0, .int .u8 0, .int .u8 0, .int .u8 0, .int .u8 0, .int .u8 0, .int .u8 0, .int .u8 0, .int .u8 0, .int .u8 0, .int .u8 0, .int .u8 0, .int .u8 0, .int .u8 0, .int .u8 0, .slice none 0 0]) := hide (pc_of (c : Int) PV.zero_ok.n (.slice none 0 0) rfl)
  have AZ : Hid (((w.alloc (.cells #[.int .i64 0, .int .u32 0, .int .u32 0, .int .u32 0, .int .u32 0, .int .u32 0, .int .u64 0, .int .u64 0, .int .u64 0, .int .u64 0, .int .u8 0, .int .u8 0, .int .u8 0, .int .u8 0, .int .u8 0, .int .u8 0, .int .u8 0, .int .u8 0, .int .u8 0, .int .u8 0, .int .u8 0, .int .u8 0, .int .u8 0, .int .u8 0, .int .u8 0, .int .u8 0, .int .u8 0, .int .u8 0, .int .u8 0, .int .u8 0, .int .u8 0, .int .u8 0, .int .u8 0, .int .u8 0, .int .u8 0, .int .u8 0, .int .u8 0, .int .u8 0, .int .u8 0, .int .u8 0, .int .u8 0, .int .u8 0, .slice none 0 0] 30)).alloc (.cells #[.int .i64 0, .int .u32 0, .int .u32 0, .int .u32 0, .int .u32 0, .int .u32 0, .int .u64 0, .int .u64 0, .int .u64 0, .int .u64 0, .int .u8 0, .int .u8 0, .int .u8 0, .int .u8 0, .int .u8 0, .int .u8 0, .int .u8 0, .int .u8 0, .int .u8 0, .int .u8 0, .int .u8 0, .int .u8 0, .int .u8 0, .int .u8 0, .int .u8 0, .int .u8 0, .int .u8 0, .int .u8 0, .int .u8 0, .int .u8 0, .int .u8 0, .int .u8 0, .int .u8 0, .int .u8 0, .int .u8 0, .int .u8 0, .int .u8 0, .int .u8 0, .int .u8 0, .int .u8 0, .int .u8 0, .int .u8 0, .slice none 0 0] 30)).heap[w.heap.size + 1]? = some (.cells #[.int .i64 0, .int .u32 0, .int .u32 0, .int .u32 0, .int .u32 0, .int .u32 0, .int .u64 0, .int .u64 0, .int .u64 0, .int .u64 0, .int .u8 0, .int .u8 0, .int .u8 0, .int .u8 0, .int .u8 0, .int .u8 0, .int .u8 0, .int .u8 0, .int .u8 0, .int .u8 0, .int .u8 0, .int .u8 0, .int .u8 0, .int .u8 0, .int .u8 0, .int .u8 0, .int .u8 0, .int .u8 0, .int .u8 0, .int .u8 0, .int .u8 0, .int .u8 0, .int .u8 0, .int .u8 0, .int .u8 0, .int .u8 0, .int .u8 0, .int .u8 0, .int .u8 0, .int .u8 0, .int .u8 0, .int .u8 0, .slice none 0 0] 30 (0, 0))) := hide (by
    have e := Go.heap_alloc_new (w.alloc (.cells #[.int .i64 0, .int .u32 0, .int .u32 0, .int .u32 0, .int .u32 0, .int .u32 0, .int .u64 0, .int .u64 0, .int .u64 0, .int .u64 0, .int .u8 0, .int .u8 0, .int .u8 0, .int .u8 0, .int .u8 0, .int .u8 0, .int .u8 0, .int .u8 0, .int .u8 0, .int .u8 0, .int .u8 0, .int .u8 0, .int .u8 0, .int .u8 0, .int .u8 0, .int .u8 0, .int .u8 0, .int .u8 0, .int .u8 0, .int .u8 0, .int .u8 0, .int .u8 0, .int .u8 0, .int .u8 0, .int .u8 0, .int .u8 0, .int .u8 0, .int .u8 0, .int .u8 0, .int .u8 0, .int .u8 0, .int .u8 0, .slice none 0 0] 30)) (.cells #[.int .i64 0, .int .u32 0, .int .u32 0, .int .u32 0, .int .u32 0, .int .u32 0, .int .u64 0, .int .u64 0, .int .u64 0, .int .u64 0, .int .u8 0, .int .u8 0, .int .u8 0, .int .u8 0, .int .u8 0, .int .u8 0, .int .u8 0, .int .u8 0, .int .u8 0, .int .u8 0, .int .u8 0, .int .u8 0, .int .u8 0, .int .u8 0, .int .u8 0, .int .u8 0, .int .u8 0, .int .u8 0, .int .u8 0, .int .u8 0, .int .u8 0, .int .u8 0, .int .u8 0, .int .u8 0, .int .u8 0, .int .u8 0, .int .u8 0, .int .u8 0, .int .u8 0, .int .u8 0, .int .u8 0, .int .u8 0, .slice none 0 0] 30)
    rwa [show (w.alloc (.cells #[.int .i64 0, .int .u32 0, .int .u32 0, .int .u32 0, .int .u32 0, .int .u32 0, .int .u64 0, .int .u64 0, .int .u64 0, .int .u64 0, .int .u8 0, .int .u8 0, .int .u8 0, .int .u8 0, .int .u8 0, .int .u8 0, .int .u8 0, .int .u8 0, .int .u8 0, .int .u8 0, .int .u8 0, .int .u8 0, .int .u8 0, .int .u8 0, .int .u8 0, .int .u8 0, .int .u8 0, .int .u8 0, .int .u8 0, .int .u8 0, .int .u8 0, .int .u8 0, .int .u8 0, .int .u8 0, .int .u8 0, .int .u8 0, .int .u8 0, .int .u8 0, .int .u8 0, .int .u8 0, .int .u8 0, .int .u8 0, .slice none 0 0] 30)).heap.size = w.heap.size + 1 by simp] at e)
  have HHA : Hid (∀ (y : World) (f : Nat) (bb : Bool), Oth rb w y → 1 ≤ f → f ≤ 128 → hasB c f = bb → Calls Tryd.prog 25 #[.int .i64 (c : Int), .int .i64 (f : Int)] y fun e y' => e = .returned (.bool bb) ∧ Below y.heap.size y y') := hide fun y f bb ho hf1 hf2 hb => by rw [← hb]; exact has_any y c f (HTB.out y ho).1 h2 hf1 hf2
  have HBY := hide h.hb
  have HHL := hide hl
  have HC2 := hide h2
  have HLC := hide h.h1
  have HCM := hide h.h2
  clear h hCT hFT hcn hfn hz hz2
  go_enter Tryd.func17, Tryd.ntmps17
  go_wp2_with (refine wpList_store_row rfl 30 (.tmp 6) (.tmp 15) rfl (w.heap.size + 1) #[.int .i64 (c : Int), .int .u32 0, .int .u32 0, .int .u32 0, .int .u32 0, .int .u32 0, .int .u64 0, .int .u64 0, .int .u64 0, .int .u64 0, .int .u8 0, .int .u8 0, .int .u8 0, .int .u8 0, .int .u8 0, .int .u8 0, .int .u8 0, .int .u8 0, .int .u8 0, .int .u8 0, .int .u8 0, .int .u8 0, .int .u8 0, .int .u8 0, .int .u8 0, .int .u8 0, .int .u8 0, .int .u8 0, .int .u8 0, .int .u8 0, .int .u8 0, .int .u8 0, .int .u8 0, .int .u8 0, .int .u8 0, .int .u8 0, .int .u8 0, .int .u8 0, .int .u8 0, .int .u8 0, .int .u8 0, .int .u8 0, .slice none 0 0] (by first | rfl | simp [Act.eval, Act.put]) (by first | rfl | simp [Act.eval, Act.put]) 30 #[.int .i64 0, .int .u32 0, .int .u32 0, .int .u32 0, .int .u32 0, .int .u32 0, .int .u64 0, .int .u64 0, .int .u64 0, .int .u64 0, .int .u8 0, .int .u8 0, .int .u8 0, .int .u8 0, .int .u8 0, .int .u8 0, .int .u8 0, .int .u8 0, .int .u8 0, .int .u8 0, .int .u8 0, .int .u8 0, .int .u8 0, .int .u8 0, .int .u8 0, .int .u8 0, .int .u8 0, .int .u8 0, .int .u8 0, .int .u8 0, .int .u8 0, .int .u8 0, .int .u8 0, .int .u8 0, .int .u8 0, .int .u8 0, .int .u8 0, .int .u8 0, .int .u8 0, .int .u8 0, .int .u8 0, .int .u8 0, .slice none 0 0] AZ.out PCZ.out.i PCZ.out.z PCZ.out.o ?_; rw [show (w.heap.size + 1) = (w.alloc (.cells #[.int .i64 0, .int .u32 0, .int .u32 0, .int .u32 0, .int .u32 0, .int .u32 0, .int .u64 0, .int .u64 0, .int .u64 0, .int .u64 0, .int .u8 0, .int .u8 0, .int .u8 0, .int .u8 0, .int .u8 0, .int .u8 0, .int .u8 0, .int .u8 0, .int .u8 0, .int .u8 0, .int .u8 0, .int .u8 0, .int .u8 0, .int .u8 0, .int .u8 0, .int .u8 0, .int .u8 0, .int .u8 0, .int .u8 0, .int .u8 0, .int .u8 0, .int .u8 0, .int .u8 0, .int .u8 0, .int .u8 0, .int .u8 0, .int .u8 0, .int .u8 0, .int .u8 0, .int .u8 0, .int .u8 0, .int .u8 0, .slice none 0 0] 30)).heap.size by simp]; rw [World.setRow_alloc_new])
  rw [← hw2]
  clear hw2
  go_loopw [7] (fun i wr => ∃ (k : Nat) (p : PV) (a : Nat), k ≤ 5 ∧ i = .int .i64 (k : Int) ∧ Hid (dNms l c k = (p, a, false)) ∧ RSt w wr rb b off cap l c p (.slice none 0 0) a) (fun i _ => 5 - (intOf i).toNat)
  case atStart => exact ⟨0, PV.zero, 1, by omega, rfl, hide rfl, R0.out⟩
  case round =>
    clear R0
    obtain ⟨k, p, a, hk, rfl, hdn, hst⟩ := hrel
    have HR := hide hst
    have HDN := hide hdn.out
    have PCR := hide (pc_of (c : Int) hst.ok.n (.slice none 0 0) rfl)
    by_cases hlt : k < 5
    · have hF7 := HTB.out wr hst.o
      have f0 := hF7.2 k hlt
      have HS1 := hide fun (hh : hasB c (2 ^ k) = true) => step_yes hdn.out hh
      have HS2 := hide fun (hh : hasB c (2 ^ k) = false) => step_non hdn.out hh
      have h1k : 1 ≤ 2 ^ k := Nat.one_le_two_pow
      have h2k : 2 ^ k ≤ 128 := Nat.le_trans (Nat.pow_le_pow_right (by decide) (show k ≤ 7 by omega)) (by decide)
      have HNU := hide fun y => numbers_any y c k (c : Int) p none 0 0 hst.ok hlt (fun h3 h7 => by
        subst h3 h7
        have := dNms_b l 1
        rw [show 2 + 1 = 3 from rfl, hdn.out] at this
        exact this)
      have HLY := hide fun y x hx => rlay_any y (c : Int) p none 0 0 k x hst.ok hlt hx
      have HLP := hide (nmsL_pos c k p.a p.b)
      have HQN : Hid (∀ y sv, QR y rb b off cap l a → SpI y sv (nmsL c k p.a p.b) → Calls Tryd.prog 26 #[.pointer (some ⟨rb, 0, none⟩), .int .i64 4, sv] y fun e y' => e = .returned (.tuple #[.int .i64 ((rdN l (nmsL c k p.a p.b) 4 0 a).1 : Nat), .bool (!(rdN l (nmsL c k p.a p.b) 4 0 a).2.2)]) ∧ QR y' rb b off cap l (rdN l (nmsL c k p.a p.b) 4 0 a).2.1 ∧ Oth rb y y') := hide fun y sv hq hs => qnumber_any y rb b off cap a 4 l _ sv hq hs (spi_ne hq hs HLP.out) (by decide) hst.ale
      have HLE : Hid ((rdN l (nmsL c k p.a p.b) 4 0 a).2.1 ≤ l.length) := hide (by have := (rdS_le (l := l) (L := nmsL c k p.a p.b) (k := 4) (stuck := false) hst.ale).2; rwa [rdS_false] at this)
      have HLT : Hid ((rdN l (nmsL c k p.a p.b) 4 0 a).1 < 4294967296) := hide (by have := rdS_lt (l := l) (L := nmsL c k p.a p.b) (k := 4) (at' := a) (stuck := false) HBY.out; rwa [rdS_false] at this)
      obtain ⟨r, hr⟩ : ∃ r, r = rdN l (nmsL c k p.a p.b) 4 0 a := ⟨_, rfl⟩
      rw [← hr] at HQN HS1 HLE HLT
      have HH := hide fun y bb ho hb => HHA.out y (2 ^ k) bb ho h1k h2k hb
      obtain ⟨x, a2, st⟩ := r
      simp only at HQN HS1 HLE HLT
      obtain ⟨F, hF⟩ : ∃ F, F = 2 ^ k := ⟨_, rfl⟩
      rw [← hF] at HNU HLY HH f0 HS1 HS2
      unfold SpP at HNU
      unfold pkV at HNU HLY
      generalize hRL : (.int .i64 (c : Int) :: p.row (.slice none 0 0) : List Value).toArray = RL at *
      have HRL := hide hRL
      have HR6 : Hid (∀ y q, RSt w y rb b off cap l c p (.slice none 0 0) q → y.heap[w.heap.size + 1]? = some (.cells RL 30 (0, 0))) := hide fun y q hy => by rw [hy.r6, ← HRL.out]
      clear hF7 hr h1k h2k hF hRL hdn hst
      cases hh : hasB c F with
      | false =>
        have HS := hide (HS2.out hh)
        have HH1 := hide (HH.out wr false HR.out.o hh)
        clear HS1 HS2 HNU HLY HQN hh HH HLE HLT
        go_wp2_with (go_at_call 25; refine HH1.out.mono ?_; rintro e' y1 ⟨rfl, hb1⟩; have HR1 := hide (HR.out.below hb1); clear hb1 HR HH1)
        go_roundw
        case rel => exact ⟨k + 1, p, a, by omega, by go_num, HS, HR1.out⟩
        case measure => simp [intOf]; omega
      | true =>
        have HS := hide (HS1.out hh)
        have HH1 := hide (HH.out wr true HR.out.o hh)
        clear HS1 HS2 hh HH
        cases st with
        | true =>
          have HFN : Hid ((dRest l c).2 = (a2, true)) := hide (rest_stop (k := k + 1) (by rw [HS.out]) (by omega))
          clear HS HLY
          go_wp2_with (first
            | (go_at_call 25; refine HH1.out.mono ?_; rintro e' y1 ⟨rfl, hb1⟩; have HR1 := hide (HR.out.below hb1); clear hb1 HR HH1)
            | (refine wpList_load_row rfl 30 (.tmp 6) rfl (w.heap.size + 1) (by first | rfl | simp [Act.eval, Act.put]) 30 RL (0, 0) _ (HR6.out _ _ HR1.out) Tryd.underlying30 rfl PCR.out.i ?_)
            | (go_at_call 27; refine (HNU.out _).mono ?_; rintro e' y2 ⟨sv, rfl, hs2, hb2⟩; have HR2 := hide (HR1.out.below hb2); have HQ2 := hide (HQN.out y2 sv HR2.out.q hs2); clear hs2 hb2 HR1 HNU HQN)
            | (go_at_call 26; refine HQ2.out.mono ?_; rintro e' y3 ⟨rfl, hq3, ho3⟩; have HR3 := hide (HR2.out.oth hq3 ho3 HLE.out); clear hq3 ho3 HQ2 HR2)
            | (refine wpList_load_row rfl 30 (.tmp 6) rfl (w.heap.size + 1) (by first | rfl | simp [Act.eval, Act.put]) 30 RL (0, 0) _ (HR6.out _ _ HR3.out) Tryd.underlying30 rfl PCR.out.i ?_)
            | (refine wpList_store_row rfl 30 (.tmp 4) (.tmp 37) rfl w.heap.size RL (by first | rfl | simp [Act.eval, Act.put]) (by first | rfl | simp [Act.eval, Act.put]) 30 zPk HR3.out.r4 PCR.out.i PCR.out.z PCR.out.o ?_))
          have hout := HR3.out.out
          rw [HRL.out] at hout
          refine bodyPost_ret (results_row_tmpQ (p := 4) (u := 5) rfl _ _ w.heap.size 30 RL (0, 0) _ rfl hout.2.2 Tryd.underlying30 rfl PCR.out.i) rfl ⟨p, none, 0, 0, ?_, HR3.out.ok.n, ?_, ?_, hout.2.1⟩
          · rw [HFN.out, ← HRL.out]; rfl
          · intro hh; rw [HFN.out] at hh; cases hh
          · rw [HFN.out]; exact hout.1
        | false =>
          have HX2 := hide (pc_of (c : Int) (HR.out.ok.set k x HLT.out).n (.slice none 0 0) rfl)
          have HOK := hide (HR.out.ok.set k x HLT.out)
          have HL2 := hide fun y => HLY.out y x HLT.out
          have HRW := hide fun y q (hy : RSt w y rb b off cap l c p (.slice none 0 0) q) => hy.row (p' := p.set k x) (v' := .slice none 0 0) HOK.out
          generalize hRN : (.int .i64 (c : Int) :: (p.set k x).row (.slice none 0 0) : List Value).toArray = RN at *
          clear HLY hRN
          go_wp2_with (first
            | (go_at_call 25; refine HH1.out.mono ?_; rintro e' y1 ⟨rfl, hb1⟩; have HR1 := hide (HR.out.below hb1); clear hb1 HR HH1)
            | (refine wpList_load_row rfl 30 (.tmp 6) rfl (w.heap.size + 1) (by first | rfl | simp [Act.eval, Act.put]) 30 RL (0, 0) _ (HR6.out _ _ HR1.out) Tryd.underlying30 rfl PCR.out.i ?_)
            | (go_at_call 27; refine (HNU.out _).mono ?_; rintro e' y2 ⟨sv, rfl, hs2, hb2⟩; have HR2 := hide (HR1.out.below hb2); have HQ2 := hide (HQN.out y2 sv HR2.out.q hs2); clear hs2 hb2 HR1 HNU HQN)
            | (go_at_call 26; refine HQ2.out.mono ?_; rintro e' y3 ⟨rfl, hq3, ho3⟩; have HR3 := hide (HR2.out.oth hq3 ho3 HLE.out); clear hq3 ho3 HQ2 HR2)
            | (refine wpList_load_row rfl 30 (.tmp 6) rfl (w.heap.size + 1) (by first | rfl | simp [Act.eval, Act.put]) 30 RL (0, 0) _ (HR6.out _ _ HR3.out) Tryd.underlying30 rfl PCR.out.i ?_)
            | (go_at_call 28; refine (HL2.out _).mono ?_; rintro e' y4 ⟨rfl, hb4⟩; have HR4 := hide (HR3.out.below hb4); clear hb4 HR3)
            | (refine wpList_store_row rfl 30 (.tmp 6) (.tmp 41) rfl (w.heap.size + 1) RN (by first | rfl | simp [Act.eval, Act.put]) (by first | rfl | simp [Act.eval, Act.put]) 30 RL (HR6.out _ _ HR4.out) HX2.out.i (PCR.out.z.symm.trans HX2.out.z) HX2.out.o ?_))
          go_roundw
          case rel => exact ⟨k + 1, p.set k x, a2, by omega, by go_num, HS, HRW.out _ _ HR4.out⟩
          case measure => simp [intOf]; omega
    · obtain rfl : k = 5 := by omega
      clear hdn hst
      have H5 := hide (show dRest l c = dD l c (dS l c (dG l c (p, a, false))) by unfold dRest; rw [HDN.out])
      obtain ⟨hps, hpd⟩ := dNms_s l c 5
      rw [HDN.out] at hps hpd
      simp only at hps hpd
      cases hG : hasB c 32 with
      | true =>
        obtain ⟨hS, hD⟩ := gens_alone c (by omega) hG
        have HG := hide hG
        have HS := hide hS
        have HD := hide hD
        have H6 : Hid (dRest l c = fieldF l p a false .ids) := hide (by rw [H5.out, g_yes hG, s_no hS, d_no hD])
        have HGN := hide fun y (hy : QR y rb b off cap l a) => qgens_any y rb b off cap a l p hy HR.out.ale HHL.out
        have HIL := hide (ids_le (l := l) (p := p) (st := false) HR.out.ale)
        have HIO := hide (ids_ok (l := l) (a := a) (st := false) HR.out.ok HBY.out)
        have HIE : Hid ((fieldF l p a false .ids).1 = { p with g0 := (fieldF l p a false .ids).1.g0, g1 := (fieldF l p a false .ids).1.g1, g2 := (fieldF l p a false .ids).1.g2, g3 := (fieldF l p a false .ids).1.g3 }) := hide rfl
        rw [← H6.out] at HGN HIL HIO HIE
        have HPS : Hid ((dRest l c).1.dl = []) := hide (by rw [HIE.out]; exact hpd)
        clear H5 hps hpd hG hS hD H6
        generalize hF : dRest l c = FI at *
        have HFN := hide hF
        obtain ⟨q, a2, st⟩ := FI
        simp only at HGN HIL HIO HIE HPS
        have PCQ := hide (pc_of (c : Int) HIO.out.n (.slice none 0 0) rfl)
        generalize hRL : (.int .i64 (c : Int) :: q.row (.slice none 0 0) : List Value).toArray = RL at *
        have HRL := hide hRL
        have HR6 : Hid (∀ y z, RSt w y rb b off cap l c q (.slice none 0 0) z → y.heap[w.heap.size + 1]? = some (.cells RL 30 (0, 0))) := hide fun y z hy => by rw [hy.r6, ← HRL.out]
        clear hF hRL
        cases st with
        | true =>
          go_wp2_with (first
            | (go_at_call 25; refine (HHA.out _ 32 true HR.out.o (by decide) (by decide) HG.out).mono ?_; rintro e' y1 ⟨rfl, hb⟩; have HR1 := hide (HR.out.below hb); clear hb HR)
            | (go_at_call 29; refine (HGN.out _ HR1.out.q).mono ?_; rintro e' y2 ⟨q9, rfl, rfl, hq2, ho2⟩; have HR2 := hide (HR1.out.oth hq2 ho2 HIL.out); obtain ⟨_, _, _, _, _, _, k6, k7, k8, k9⟩ := (⟨HR2.out.r6, HR2.out.ok⟩ : KM y2 (w.heap.size + 1) (c : Int) p (.slice none 0 0)).cells; have z6 := fun i => frozen_of_row y2 (w.heap.size + 1) i _ _ HR2.out.r6; have z60 := z6 6; have z70 := z6 7; have z80 := z6 8; have z90 := z6 9; have HR3 := hide (HR2.out.gens HIE.out HIO.out); clear z6 hq2 ho2 HR1 HGN)
            | (refine wpList_load_row rfl 30 (.tmp 6) rfl (w.heap.size + 1) (by first | rfl | simp [Act.eval, Act.put]) 30 RL (0, 0) _ (HR6.out _ _ HR3.out) Tryd.underlying30 rfl PCQ.out.i ?_)
            | (refine wpList_store_row rfl 30 (.tmp 4) (.tmp 75) rfl w.heap.size RL (by first | rfl | simp [Act.eval, Act.put]) (by first | rfl | simp [Act.eval, Act.put]) 30 zPk HR3.out.r4 PCQ.out.i PCQ.out.z PCQ.out.o ?_))
          have hout := HR3.out.out
          rw [HRL.out] at hout
          refine bodyPost_ret (results_row_tmpQ (p := 4) (u := 5) rfl _ _ w.heap.size 30 RL (0, 0) _ rfl hout.2.2 Tryd.underlying30 rfl PCQ.out.i) rfl ⟨q9, none, 0, 0, ?_, HR3.out.ok.n, ?_, ?_, hout.2.1⟩
          · rw [HFN.out, ← HRL.out]; rfl
          · intro hh; rw [HFN.out] at hh; cases hh
          · rw [HFN.out]; exact hout.1
        | false =>
          go_wp2_with (first
            | (go_at_call 25; refine (HHA.out _ 32 true HR.out.o (by decide) (by decide) HG.out).mono ?_; rintro e' y1 ⟨rfl, hb⟩; have HR1 := hide (HR.out.below hb); clear hb HR)
            | (go_at_call 29; refine (HGN.out _ HR1.out.q).mono ?_; rintro e' y2 ⟨q9, rfl, rfl, hq2, ho2⟩; have HR2 := hide (HR1.out.oth hq2 ho2 HIL.out); obtain ⟨_, _, _, _, _, _, k6, k7, k8, k9⟩ := (⟨HR2.out.r6, HR2.out.ok⟩ : KM y2 (w.heap.size + 1) (c : Int) p (.slice none 0 0)).cells; have z6 := fun i => frozen_of_row y2 (w.heap.size + 1) i _ _ HR2.out.r6; have z60 := z6 6; have z70 := z6 7; have z80 := z6 8; have z90 := z6 9; have HR3 := hide (HR2.out.gens HIE.out HIO.out); clear z6 hq2 ho2 HR1 HGN)
            | (go_at_call 25; refine (HHA.out _ 64 false HR3.out.o (by decide) (by decide) HS.out).mono ?_; rintro e' y4 ⟨rfl, hb⟩; have HR4 := hide (HR3.out.below hb); clear hb HR3)
            | (go_at_call 25; refine (HHA.out _ 128 false HR4.out.o (by decide) (by decide) HD.out).mono ?_; rintro e' y5 ⟨rfl, hb⟩; have HR5 := hide (HR4.out.below hb); clear hb HR4)
            | (refine wpList_load_row rfl 30 (.tmp 6) rfl (w.heap.size + 1) (by first | rfl | simp [Act.eval, Act.put]) 30 RL (0, 0) _ (HR6.out _ _ HR5.out) Tryd.underlying30 rfl PCQ.out.i ?_)
            | (refine wpList_store_row rfl 30 (.tmp 4) (.tmp 75) rfl w.heap.size RL (by first | rfl | simp [Act.eval, Act.put]) (by first | rfl | simp [Act.eval, Act.put]) 30 zPk HR5.out.r4 PCQ.out.i PCQ.out.z PCQ.out.o ?_))
          have hout := HR5.out.out
          rw [HRL.out] at hout
          refine bodyPost_ret (results_row_tmpQ (p := 4) (u := 5) rfl _ _ w.heap.size 30 RL (0, 0) _ rfl hout.2.2 Tryd.underlying30 rfl PCQ.out.i) rfl ⟨q9, none, 0, 0, ?_, HR5.out.ok.n, ?_, ?_, hout.2.1⟩
          · rw [HFN.out, ← HRL.out]; rfl
          · intro hh; exact ⟨by rw [HFN.out], by rw [HPS.out]; exact ⟨World.ownsRow_nil _ _ _ _, by simp⟩⟩
          · rw [HFN.out]; exact hout.1
      | false =>
        cases hS : hasB c 64 with
        | true =>
          have hD := sum_alone c (by omega) hS
          have HGf := hide hG
          have HS := hide hS
          have HD := hide hD
          have H6 : Hid (dRest l c = ({ p with s := (sumF l (zL c p.e) p.s a false 32).1 }, (sumF l (zL c p.e) p.s a false 32).2)) := hide (by
            rw [H5.out, g_no hG, d_no hD]
            unfold dS
            rw [if_pos hS])
          have HSL : Hid ((sumF l (zL c p.e) p.s a false 32).2.1 ≤ l.length) := hide (sumF_le HR.out.ale 32)
          have HSU : Hid (∀ y, QR y rb b off cap l a → Calls Tryd.prog 30 #[.pointer (some ⟨rb, 0, none⟩), .bool (decide (c = 15) && decide (p.e = 1))] y (SumP y rb b off cap l (sumF l (zL c p.e) p.s a false 32))) := hide fun y hy => by
            rw [hps]
            by_cases hz : c = 15 ∧ p.e = 1
            · rw [show zL c p.e = [(0, 0)] by unfold zL; rw [if_pos hz], show (decide (c = 15) && decide (p.e = 1)) = true by simp [hz]]
              exact qsum_t y rb b off cap a l hy HR.out.ale HHL.out
            · rw [show zL c p.e = [(0, 255)] by unfold zL; rw [if_neg hz], show (decide (c = 15) && decide (p.e = 1)) = false by simpa using hz]
              exact qsum_f y rb b off cap a l hy HR.out.ale HHL.out
          unfold SumP at HSU
          have HPD := hide hpd
          clear H5 hps hpd hG hS hD
          generalize hF : sumF l (zL c p.e) p.s a false 32 = FS at *
          obtain ⟨s9, a2, st⟩ := FS
          simp only at HSU HSL H6
          have HK5 := hide fun y z (hy : RSt w y rb b off cap l c p (.slice none 0 0) z) => (⟨hy.r6, hy.ok⟩ : KM y (w.heap.size + 1) (c : Int) p (.slice none 0 0)).cells.2.2.2.2.2.1
          obtain ⟨pe, hpe⟩ : ∃ pe, p.e = pe := ⟨_, rfl⟩
          rw [hpe] at HSU HK5
          clear hF hpe
          obtain ⟨zb, hzb⟩ : ∃ zb, (decide (c = 15) && decide (pe = 1)) = zb := ⟨_, rfl⟩
          rw [hzb] at HSU
          by_cases hc15 : c = 15
          · have b1 : ((c : Int) == 15) = true := by simp only [beq_iff_eq]; omega
            by_cases he1 : pe = 1
            · have b2 : ((pe : Int) == 1) = true := by simp only [beq_iff_eq]; omega
              obtain rfl : zb = true := by rw [← hzb]; simp [hc15, he1]
              clear hc15 he1 hzb
              cases st with
              | true =>
                go_wp2_with (first
                  | (go_at_call 25; refine (HHA.out _ 32 false HR.out.o (by decide) (by decide) HGf.out).mono ?_; rintro e' y1 ⟨rfl, hb⟩; have HR1 := hide (HR.out.below hb); clear hb HR)
                  | (go_at_call 25; refine (HHA.out _ 64 true HR1.out.o (by decide) (by decide) HS.out).mono ?_; rintro e' y2 ⟨rfl, hb⟩; have HR2 := hide (HR1.out.below hb); have k5 := HK5.out _ _ HR2.out; clear hb HR1)
                  | (go_at_call 30; refine (HSU.out _ HR2.out.q).mono ?_; rintro e' y3 ⟨cs, hc1, hc2, rfl, hc4, hq3, ho3⟩; have HR3 := hide (HR2.out.oth hq3 ho3 HSL.out); have HR4 := hide (HR3.out.sum cs hc1 hc2); have HC1 := hide hc1; have HC4 := hide hc4; have HTH : Hid (y3.there (w.heap.size + 1) 10 (u8L cs).toArray.size) := hide (by rw [show (u8L cs).toArray.size = 32 by rw [List.size_toArray, u8L_len, hc1]]; exact HR3.out.there); have HIS := hide (infoU cs hc1); have PCN := hide (pc_of (c : Int) (p := { p with s := cs }) hc1 (.slice none 0 0) rfl); have HR46 := hide HR4.out.r6; generalize hRL : (.int .i64 (c : Int) :: ({ p with s := cs } : PV).row (.slice none 0 0) : List Value).toArray = RL at *; have HRL := hide hRL; clear k5 hRL hc1 hc2 hc4 hq3 ho3 HR2 HSU)
                  | (refine wpList_store_mid rfl 28 (.tmp 67) (.tmp 65) rfl (w.heap.size + 1) 10 (u8L cs).toArray (by first | rfl | simp [Act.eval, Act.put]) (by first | rfl | simp [Act.eval, Act.put]) HTH.out HIS.out (u8L_all cs) ?_; rw [List.toList_toArray])
                  | (refine wpList_load_row rfl 30 (.tmp 6) rfl (w.heap.size + 1) (by first | rfl | simp [Act.eval, Act.put]) 30 RL (0, 0) _ HR46.out Tryd.underlying30 rfl PCN.out.i ?_)
                  | (refine wpList_store_row rfl 30 (.tmp 4) (.tmp 75) rfl w.heap.size RL (by first | rfl | simp [Act.eval, Act.put]) (by first | rfl | simp [Act.eval, Act.put]) 30 zPk HR4.out.r4 PCN.out.i PCN.out.z PCN.out.o ?_))
                have hout := HR4.out.out
                rw [HRL.out] at hout
                refine bodyPost_ret (results_row_tmpQ (p := 4) (u := 5) rfl _ _ w.heap.size 30 RL (0, 0) _ rfl hout.2.2 Tryd.underlying30 rfl PCN.out.i) rfl ⟨{ p with s := cs }, none, 0, 0, ?_, HR4.out.ok.n, ?_, ?_, hout.2.1⟩
                · rw [H6.out, ← HRL.out]; rfl
                · intro hh; rw [H6.out] at hh; cases hh
                · rw [H6.out]; exact hout.1
              | false =>
                go_wp2_with (first
                  | (go_at_call 25; refine (HHA.out _ 32 false HR.out.o (by decide) (by decide) HGf.out).mono ?_; rintro e' y1 ⟨rfl, hb⟩; have HR1 := hide (HR.out.below hb); clear hb HR)
                  | (go_at_call 25; refine (HHA.out _ 64 true HR1.out.o (by decide) (by decide) HS.out).mono ?_; rintro e' y2 ⟨rfl, hb⟩; have HR2 := hide (HR1.out.below hb); have k5 := HK5.out _ _ HR2.out; clear hb HR1)
                  | (go_at_call 30; refine (HSU.out _ HR2.out.q).mono ?_; rintro e' y3 ⟨cs, hc1, hc2, rfl, hc4, hq3, ho3⟩; have HR3 := hide (HR2.out.oth hq3 ho3 HSL.out); have HR4 := hide (HR3.out.sum cs hc1 hc2); have HC1 := hide hc1; have HC4 := hide hc4; have HTH : Hid (y3.there (w.heap.size + 1) 10 (u8L cs).toArray.size) := hide (by rw [show (u8L cs).toArray.size = 32 by rw [List.size_toArray, u8L_len, hc1]]; exact HR3.out.there); have HIS := hide (infoU cs hc1); have PCN := hide (pc_of (c : Int) (p := { p with s := cs }) hc1 (.slice none 0 0) rfl); have HR46 := hide HR4.out.r6; generalize hRL : (.int .i64 (c : Int) :: ({ p with s := cs } : PV).row (.slice none 0 0) : List Value).toArray = RL at *; have HRL := hide hRL; clear k5 hRL hc1 hc2 hc4 hq3 ho3 HR2 HSU)
                  | (refine wpList_store_mid rfl 28 (.tmp 67) (.tmp 65) rfl (w.heap.size + 1) 10 (u8L cs).toArray (by first | rfl | simp [Act.eval, Act.put]) (by first | rfl | simp [Act.eval, Act.put]) HTH.out HIS.out (u8L_all cs) ?_; rw [List.toList_toArray])
                  | (go_at_call 25; refine (HHA.out _ 128 false HR4.out.o (by decide) (by decide) HD.out).mono ?_; rintro e' y5 ⟨rfl, hb⟩; have HR5 := hide (HR4.out.below hb); have HR56 : Hid (y5.heap[w.heap.size + 1]? = some (.cells RL 30 (0, 0))) := hide ((hb.block _ (Array.getElem?_eq_some_iff.1 HR46.out).1).trans HR46.out); clear hb)
                  | (refine wpList_load_row rfl 30 (.tmp 6) rfl (w.heap.size + 1) (by first | rfl | simp [Act.eval, Act.put]) 30 RL (0, 0) _ HR56.out Tryd.underlying30 rfl PCN.out.i ?_)
                  | (refine wpList_store_row rfl 30 (.tmp 4) (.tmp 75) rfl w.heap.size RL (by first | rfl | simp [Act.eval, Act.put]) (by first | rfl | simp [Act.eval, Act.put]) 30 zPk HR5.out.r4 PCN.out.i PCN.out.z PCN.out.o ?_))
                have hout := HR5.out.out
                rw [HRL.out] at hout
                refine bodyPost_ret (results_row_tmpQ (p := 4) (u := 5) rfl _ _ w.heap.size 30 RL (0, 0) _ rfl hout.2.2 Tryd.underlying30 rfl PCN.out.i) rfl ⟨{ p with s := cs }, none, 0, 0, ?_, HR5.out.ok.n, ?_, ?_, hout.2.1⟩
                · rw [H6.out, ← HRL.out]; rfl
                · intro hh; exact ⟨by rw [H6.out]; exact congrArg (fun z => ({ p with s := z } : PV)) (by first | exact HC4.out rfl | exact HC4.out | exact HC4.out trivial), by show Own _ _ _ p.dl; rw [HPD.out]; exact ⟨World.ownsRow_nil _ _ _ _, by simp⟩⟩
                · rw [H6.out]; exact hout.1
            · have b2 : ((pe : Int) == 1) = false := by simp only [beq_eq_false_iff_ne]; omega
              obtain rfl : zb = false := by rw [← hzb]; simp [he1]
              clear hc15 he1 hzb
              cases st with
              | true =>
                go_wp2_with (first
                  | (go_at_call 25; refine (HHA.out _ 32 false HR.out.o (by decide) (by decide) HGf.out).mono ?_; rintro e' y1 ⟨rfl, hb⟩; have HR1 := hide (HR.out.below hb); clear hb HR)
                  | (go_at_call 25; refine (HHA.out _ 64 true HR1.out.o (by decide) (by decide) HS.out).mono ?_; rintro e' y2 ⟨rfl, hb⟩; have HR2 := hide (HR1.out.below hb); have k5 := HK5.out _ _ HR2.out; clear hb HR1)
                  | (go_at_call 30; refine (HSU.out _ HR2.out.q).mono ?_; rintro e' y3 ⟨cs, hc1, hc2, rfl, hc4, hq3, ho3⟩; have HR3 := hide (HR2.out.oth hq3 ho3 HSL.out); have HR4 := hide (HR3.out.sum cs hc1 hc2); have HC1 := hide hc1; have HC4 := hide hc4; have HTH : Hid (y3.there (w.heap.size + 1) 10 (u8L cs).toArray.size) := hide (by rw [show (u8L cs).toArray.size = 32 by rw [List.size_toArray, u8L_len, hc1]]; exact HR3.out.there); have HIS := hide (infoU cs hc1); have PCN := hide (pc_of (c : Int) (p := { p with s := cs }) hc1 (.slice none 0 0) rfl); have HR46 := hide HR4.out.r6; generalize hRL : (.int .i64 (c : Int) :: ({ p with s := cs } : PV).row (.slice none 0 0) : List Value).toArray = RL at *; have HRL := hide hRL; clear k5 hRL hc1 hc2 hc4 hq3 ho3 HR2 HSU)
                  | (refine wpList_store_mid rfl 28 (.tmp 67) (.tmp 65) rfl (w.heap.size + 1) 10 (u8L cs).toArray (by first | rfl | simp [Act.eval, Act.put]) (by first | rfl | simp [Act.eval, Act.put]) HTH.out HIS.out (u8L_all cs) ?_; rw [List.toList_toArray])
                  | (refine wpList_load_row rfl 30 (.tmp 6) rfl (w.heap.size + 1) (by first | rfl | simp [Act.eval, Act.put]) 30 RL (0, 0) _ HR46.out Tryd.underlying30 rfl PCN.out.i ?_)
                  | (refine wpList_store_row rfl 30 (.tmp 4) (.tmp 75) rfl w.heap.size RL (by first | rfl | simp [Act.eval, Act.put]) (by first | rfl | simp [Act.eval, Act.put]) 30 zPk HR4.out.r4 PCN.out.i PCN.out.z PCN.out.o ?_))
                have hout := HR4.out.out
                rw [HRL.out] at hout
                refine bodyPost_ret (results_row_tmpQ (p := 4) (u := 5) rfl _ _ w.heap.size 30 RL (0, 0) _ rfl hout.2.2 Tryd.underlying30 rfl PCN.out.i) rfl ⟨{ p with s := cs }, none, 0, 0, ?_, HR4.out.ok.n, ?_, ?_, hout.2.1⟩
                · rw [H6.out, ← HRL.out]; rfl
                · intro hh; rw [H6.out] at hh; cases hh
                · rw [H6.out]; exact hout.1
              | false =>
                go_wp2_with (first
                  | (go_at_call 25; refine (HHA.out _ 32 false HR.out.o (by decide) (by decide) HGf.out).mono ?_; rintro e' y1 ⟨rfl, hb⟩; have HR1 := hide (HR.out.below hb); clear hb HR)
                  | (go_at_call 25; refine (HHA.out _ 64 true HR1.out.o (by decide) (by decide) HS.out).mono ?_; rintro e' y2 ⟨rfl, hb⟩; have HR2 := hide (HR1.out.below hb); have k5 := HK5.out _ _ HR2.out; clear hb HR1)
                  | (go_at_call 30; refine (HSU.out _ HR2.out.q).mono ?_; rintro e' y3 ⟨cs, hc1, hc2, rfl, hc4, hq3, ho3⟩; have HR3 := hide (HR2.out.oth hq3 ho3 HSL.out); have HR4 := hide (HR3.out.sum cs hc1 hc2); have HC1 := hide hc1; have HC4 := hide hc4; have HTH : Hid (y3.there (w.heap.size + 1) 10 (u8L cs).toArray.size) := hide (by rw [show (u8L cs).toArray.size = 32 by rw [List.size_toArray, u8L_len, hc1]]; exact HR3.out.there); have HIS := hide (infoU cs hc1); have PCN := hide (pc_of (c : Int) (p := { p with s := cs }) hc1 (.slice none 0 0) rfl); have HR46 := hide HR4.out.r6; generalize hRL : (.int .i64 (c : Int) :: ({ p with s := cs } : PV).row (.slice none 0 0) : List Value).toArray = RL at *; have HRL := hide hRL; clear k5 hRL hc1 hc2 hc4 hq3 ho3 HR2 HSU)
                  | (refine wpList_store_mid rfl 28 (.tmp 67) (.tmp 65) rfl (w.heap.size + 1) 10 (u8L cs).toArray (by first | rfl | simp [Act.eval, Act.put]) (by first | rfl | simp [Act.eval, Act.put]) HTH.out HIS.out (u8L_all cs) ?_; rw [List.toList_toArray])
                  | (go_at_call 25; refine (HHA.out _ 128 false HR4.out.o (by decide) (by decide) HD.out).mono ?_; rintro e' y5 ⟨rfl, hb⟩; have HR5 := hide (HR4.out.below hb); have HR56 : Hid (y5.heap[w.heap.size + 1]? = some (.cells RL 30 (0, 0))) := hide ((hb.block _ (Array.getElem?_eq_some_iff.1 HR46.out).1).trans HR46.out); clear hb)
                  | (refine wpList_load_row rfl 30 (.tmp 6) rfl (w.heap.size + 1) (by first | rfl | simp [Act.eval, Act.put]) 30 RL (0, 0) _ HR56.out Tryd.underlying30 rfl PCN.out.i ?_)
                  | (refine wpList_store_row rfl 30 (.tmp 4) (.tmp 75) rfl w.heap.size RL (by first | rfl | simp [Act.eval, Act.put]) (by first | rfl | simp [Act.eval, Act.put]) 30 zPk HR5.out.r4 PCN.out.i PCN.out.z PCN.out.o ?_))
                have hout := HR5.out.out
                rw [HRL.out] at hout
                refine bodyPost_ret (results_row_tmpQ (p := 4) (u := 5) rfl _ _ w.heap.size 30 RL (0, 0) _ rfl hout.2.2 Tryd.underlying30 rfl PCN.out.i) rfl ⟨{ p with s := cs }, none, 0, 0, ?_, HR5.out.ok.n, ?_, ?_, hout.2.1⟩
                · rw [H6.out, ← HRL.out]; rfl
                · intro hh; exact ⟨by rw [H6.out]; exact congrArg (fun z => ({ p with s := z } : PV)) (by first | exact HC4.out rfl | exact HC4.out | exact HC4.out trivial), by show Own _ _ _ p.dl; rw [HPD.out]; exact ⟨World.ownsRow_nil _ _ _ _, by simp⟩⟩
                · rw [H6.out]; exact hout.1
          · have b1 : ((c : Int) == 15) = false := by simp only [beq_eq_false_iff_ne]; omega
            obtain rfl : zb = false := by rw [← hzb]; simp [hc15]
            clear hc15 hzb
            cases st with
            | true =>
              go_wp2_with (first
                | (go_at_call 25; refine (HHA.out _ 32 false HR.out.o (by decide) (by decide) HGf.out).mono ?_; rintro e' y1 ⟨rfl, hb⟩; have HR1 := hide (HR.out.below hb); clear hb HR)
                | (go_at_call 25; refine (HHA.out _ 64 true HR1.out.o (by decide) (by decide) HS.out).mono ?_; rintro e' y2 ⟨rfl, hb⟩; have HR2 := hide (HR1.out.below hb); have k5 := HK5.out _ _ HR2.out; clear hb HR1)
                | (go_at_call 30; refine (HSU.out _ HR2.out.q).mono ?_; rintro e' y3 ⟨cs, hc1, hc2, rfl, hc4, hq3, ho3⟩; have HR3 := hide (HR2.out.oth hq3 ho3 HSL.out); have HR4 := hide (HR3.out.sum cs hc1 hc2); have HC1 := hide hc1; have HC4 := hide hc4; have HTH : Hid (y3.there (w.heap.size + 1) 10 (u8L cs).toArray.size) := hide (by rw [show (u8L cs).toArray.size = 32 by rw [List.size_toArray, u8L_len, hc1]]; exact HR3.out.there); have HIS := hide (infoU cs hc1); have PCN := hide (pc_of (c : Int) (p := { p with s := cs }) hc1 (.slice none 0 0) rfl); have HR46 := hide HR4.out.r6; generalize hRL : (.int .i64 (c : Int) :: ({ p with s := cs } : PV).row (.slice none 0 0) : List Value).toArray = RL at *; have HRL := hide hRL; clear k5 hRL hc1 hc2 hc4 hq3 ho3 HR2 HSU)
                | (refine wpList_store_mid rfl 28 (.tmp 67) (.tmp 65) rfl (w.heap.size + 1) 10 (u8L cs).toArray (by first | rfl | simp [Act.eval, Act.put]) (by first | rfl | simp [Act.eval, Act.put]) HTH.out HIS.out (u8L_all cs) ?_; rw [List.toList_toArray])
                | (refine wpList_load_row rfl 30 (.tmp 6) rfl (w.heap.size + 1) (by first | rfl | simp [Act.eval, Act.put]) 30 RL (0, 0) _ HR46.out Tryd.underlying30 rfl PCN.out.i ?_)
                | (refine wpList_store_row rfl 30 (.tmp 4) (.tmp 75) rfl w.heap.size RL (by first | rfl | simp [Act.eval, Act.put]) (by first | rfl | simp [Act.eval, Act.put]) 30 zPk HR4.out.r4 PCN.out.i PCN.out.z PCN.out.o ?_))
              have hout := HR4.out.out
              rw [HRL.out] at hout
              refine bodyPost_ret (results_row_tmpQ (p := 4) (u := 5) rfl _ _ w.heap.size 30 RL (0, 0) _ rfl hout.2.2 Tryd.underlying30 rfl PCN.out.i) rfl ⟨{ p with s := cs }, none, 0, 0, ?_, HR4.out.ok.n, ?_, ?_, hout.2.1⟩
              · rw [H6.out, ← HRL.out]; rfl
              · intro hh; rw [H6.out] at hh; cases hh
              · rw [H6.out]; exact hout.1
            | false =>
              go_wp2_with (first
                | (go_at_call 25; refine (HHA.out _ 32 false HR.out.o (by decide) (by decide) HGf.out).mono ?_; rintro e' y1 ⟨rfl, hb⟩; have HR1 := hide (HR.out.below hb); clear hb HR)
                | (go_at_call 25; refine (HHA.out _ 64 true HR1.out.o (by decide) (by decide) HS.out).mono ?_; rintro e' y2 ⟨rfl, hb⟩; have HR2 := hide (HR1.out.below hb); have k5 := HK5.out _ _ HR2.out; clear hb HR1)
                | (go_at_call 30; refine (HSU.out _ HR2.out.q).mono ?_; rintro e' y3 ⟨cs, hc1, hc2, rfl, hc4, hq3, ho3⟩; have HR3 := hide (HR2.out.oth hq3 ho3 HSL.out); have HR4 := hide (HR3.out.sum cs hc1 hc2); have HC1 := hide hc1; have HC4 := hide hc4; have HTH : Hid (y3.there (w.heap.size + 1) 10 (u8L cs).toArray.size) := hide (by rw [show (u8L cs).toArray.size = 32 by rw [List.size_toArray, u8L_len, hc1]]; exact HR3.out.there); have HIS := hide (infoU cs hc1); have PCN := hide (pc_of (c : Int) (p := { p with s := cs }) hc1 (.slice none 0 0) rfl); have HR46 := hide HR4.out.r6; generalize hRL : (.int .i64 (c : Int) :: ({ p with s := cs } : PV).row (.slice none 0 0) : List Value).toArray = RL at *; have HRL := hide hRL; clear k5 hRL hc1 hc2 hc4 hq3 ho3 HR2 HSU)
                | (refine wpList_store_mid rfl 28 (.tmp 67) (.tmp 65) rfl (w.heap.size + 1) 10 (u8L cs).toArray (by first | rfl | simp [Act.eval, Act.put]) (by first | rfl | simp [Act.eval, Act.put]) HTH.out HIS.out (u8L_all cs) ?_; rw [List.toList_toArray])
                | (go_at_call 25; refine (HHA.out _ 128 false HR4.out.o (by decide) (by decide) HD.out).mono ?_; rintro e' y5 ⟨rfl, hb⟩; have HR5 := hide (HR4.out.below hb); have HR56 : Hid (y5.heap[w.heap.size + 1]? = some (.cells RL 30 (0, 0))) := hide ((hb.block _ (Array.getElem?_eq_some_iff.1 HR46.out).1).trans HR46.out); clear hb)
                | (refine wpList_load_row rfl 30 (.tmp 6) rfl (w.heap.size + 1) (by first | rfl | simp [Act.eval, Act.put]) 30 RL (0, 0) _ HR56.out Tryd.underlying30 rfl PCN.out.i ?_)
                | (refine wpList_store_row rfl 30 (.tmp 4) (.tmp 75) rfl w.heap.size RL (by first | rfl | simp [Act.eval, Act.put]) (by first | rfl | simp [Act.eval, Act.put]) 30 zPk HR5.out.r4 PCN.out.i PCN.out.z PCN.out.o ?_))
              have hout := HR5.out.out
              rw [HRL.out] at hout
              refine bodyPost_ret (results_row_tmpQ (p := 4) (u := 5) rfl _ _ w.heap.size 30 RL (0, 0) _ rfl hout.2.2 Tryd.underlying30 rfl PCN.out.i) rfl ⟨{ p with s := cs }, none, 0, 0, ?_, HR5.out.ok.n, ?_, ?_, hout.2.1⟩
              · rw [H6.out, ← HRL.out]; rfl
              · intro hh; exact ⟨by rw [H6.out]; exact congrArg (fun z => ({ p with s := z } : PV)) (by first | exact HC4.out rfl | exact HC4.out | exact HC4.out trivial), by show Own _ _ _ p.dl; rw [HPD.out]; exact ⟨World.ownsRow_nil _ _ _ _, by simp⟩⟩
              · rw [H6.out]; exact hout.1
        | false =>
          have HGf := hide hG
          have HSf := hide hS
          cases hD : hasB c 128 with
          | false =>
            have HD := hide hD
            have HFN : Hid (dRest l c = (p, a, false)) := hide (by rw [H5.out, g_no hG, s_no hS, d_no hD])
            have HPD := hide hpd
            clear H5 hps hpd hG hS hD
            generalize hRL : (.int .i64 (c : Int) :: p.row (.slice none 0 0) : List Value).toArray = RL at *
            have HRL := hide hRL
            have HR6 : Hid (∀ y z, RSt w y rb b off cap l c p (.slice none 0 0) z → y.heap[w.heap.size + 1]? = some (.cells RL 30 (0, 0))) := hide fun y z hy => by rw [hy.r6, ← HRL.out]
            clear hRL
            go_wp2_with (first
              | (go_at_call 25; refine (HHA.out _ 32 false HR.out.o (by decide) (by decide) HGf.out).mono ?_; rintro e' y1 ⟨rfl, hb⟩; have HR1 := hide (HR.out.below hb); clear hb HR)
              | (go_at_call 25; refine (HHA.out _ 64 false HR1.out.o (by decide) (by decide) HSf.out).mono ?_; rintro e' y2 ⟨rfl, hb⟩; have HR2 := hide (HR1.out.below hb); clear hb HR1)
              | (go_at_call 25; refine (HHA.out _ 128 false HR2.out.o (by decide) (by decide) HD.out).mono ?_; rintro e' y3 ⟨rfl, hb⟩; have HR3 := hide (HR2.out.below hb); clear hb HR2)
              | (refine wpList_load_row rfl 30 (.tmp 6) rfl (w.heap.size + 1) (by first | rfl | simp [Act.eval, Act.put]) 30 RL (0, 0) _ (HR6.out _ _ HR3.out) Tryd.underlying30 rfl PCR.out.i ?_)
              | (refine wpList_store_row rfl 30 (.tmp 4) (.tmp 75) rfl w.heap.size RL (by first | rfl | simp [Act.eval, Act.put]) (by first | rfl | simp [Act.eval, Act.put]) 30 zPk HR3.out.r4 PCR.out.i PCR.out.z PCR.out.o ?_))
            have hout := HR3.out.out
            rw [HRL.out] at hout
            refine bodyPost_ret (results_row_tmpQ (p := 4) (u := 5) rfl _ _ w.heap.size 30 RL (0, 0) _ rfl hout.2.2 Tryd.underlying30 rfl PCR.out.i) rfl ⟨p, none, 0, 0, ?_, HR3.out.ok.n, ?_, ?_, hout.2.1⟩
            · rw [HFN.out, ← HRL.out]; rfl
            · intro hh; exact ⟨by rw [HFN.out], by rw [HPD.out]; exact ⟨World.ownsRow_nil _ _ _ _, by simp⟩⟩
            · rw [HFN.out]; exact hout.1
          | true =>
            have HD := hide hD
            have H6 : Hid (dRest l c = dD l c (p, a, false)) := hide (by rw [H5.out, g_no hG, s_no hS])
            have HPD := hide hpd
            have HLN := hide fun y => lengths_any y c (c : Int) p (.slice none 0 0) HR.out.ok
            have HLP := hide (lenL_pos c p.e)
            have HQN : Hid (∀ y sv, QR y rb b off cap l a → SpI y sv (lenL c p.e) → Calls Tryd.prog 26 #[.pointer (some ⟨rb, 0, none⟩), .int .i64 2, sv] y fun e y' => e = .returned (.tuple #[.int .i64 ((rdN l (lenL c p.e) 2 0 a).1 : Nat), .bool (!(rdN l (lenL c p.e) 2 0 a).2.2)]) ∧ QR y' rb b off cap l (rdN l (lenL c p.e) 2 0 a).2.1 ∧ Oth rb y y') := hide fun y sv hq hs => qnumber_any y rb b off cap a 2 l _ sv hq hs (spi_ne hq hs HLP.out) (by decide) HR.out.ale
            have HLE : Hid ((rdN l (lenL c p.e) 2 0 a).2.1 ≤ l.length) := hide (by have := (rdS_le (l := l) (L := lenL c p.e) (k := 2) (stuck := false) HR.out.ale).2; rwa [rdS_false] at this)
            have HLT : Hid ((rdN l (lenL c p.e) 2 0 a).1 < 65536) := hide (by have := rdS_lt (l := l) (L := lenL c p.e) (k := 2) (at' := a) (stuck := false) HBY.out; rwa [rdS_false] at this)
            have H7 : Hid (dD l c (p, a, false) = ({ p with dl := (tkR l (rdN l (lenL c p.e) 2 0 a).2.1 (rdN l (lenL c p.e) 2 0 a).2.2 (rdN l (lenL c p.e) 2 0 a).1).1 }, (tkR l (rdN l (lenL c p.e) 2 0 a).2.1 (rdN l (lenL c p.e) 2 0 a).2.2 (rdN l (lenL c p.e) 2 0 a).1).2)) := hide (by
              unfold dD dLn
              rw [if_pos hD, rdS_false])
            clear H5 hps hpd hG hS hD
            unfold SpP pkV at HLN
            obtain ⟨r, hr⟩ : ∃ r, r = rdN l (lenL c p.e) 2 0 a := ⟨_, rfl⟩
            rw [← hr] at HQN HLE HLT H7
            obtain ⟨n, a2, st⟩ := r
            simp only at HQN HLE HLT H7
            clear hr HLP
            generalize hRL : (.int .i64 (c : Int) :: p.row (.slice none 0 0) : List Value).toArray = RL at *
            have HRL := hide hRL
            have HR6 : Hid (∀ y z, RSt w y rb b off cap l c p (.slice none 0 0) z → y.heap[w.heap.size + 1]? = some (.cells RL 30 (0, 0))) := hide fun y z hy => by rw [hy.r6, ← HRL.out]
            clear hRL
            cases st with
            | true =>
              have HFN : Hid ((dRest l c).2 = (a2, true)) := hide (by rw [H6.out, H7.out]; rfl)
              go_wp2_with (first
                | (go_at_call 25; refine (HHA.out _ 32 false HR.out.o (by decide) (by decide) HGf.out).mono ?_; rintro e' y1 ⟨rfl, hb⟩; have HR1 := hide (HR.out.below hb); clear hb HR)
                | (go_at_call 25; refine (HHA.out _ 64 false HR1.out.o (by decide) (by decide) HSf.out).mono ?_; rintro e' y2 ⟨rfl, hb⟩; have HR2 := hide (HR1.out.below hb); clear hb HR1)
                | (go_at_call 25; refine (HHA.out _ 128 true HR2.out.o (by decide) (by decide) HD.out).mono ?_; rintro e' y3 ⟨rfl, hb⟩; have HR3 := hide (HR2.out.below hb); clear hb HR2)
                | (refine wpList_load_row rfl 30 (.tmp 6) rfl (w.heap.size + 1) (by first | rfl | simp [Act.eval, Act.put]) 30 RL (0, 0) _ (HR6.out _ _ HR3.out) Tryd.underlying30 rfl PCR.out.i ?_)
                | (go_at_call 31; refine (HLN.out _).mono ?_; rintro e' y4 ⟨sv, rfl, hs4, hb4⟩; have HR4 := hide (HR3.out.below hb4); have HQ4 := hide (HQN.out y4 sv HR4.out.q hs4); clear hs4 hb4 HR3 HLN HQN)
                | (go_at_call 26; refine HQ4.out.mono ?_; rintro e' y5 ⟨rfl, hq5, ho5⟩; have HR5 := hide (HR4.out.oth hq5 ho5 HLE.out); clear hq5 ho5 HQ4 HR4)
                | (refine wpList_load_row rfl 30 (.tmp 6) rfl (w.heap.size + 1) (by first | rfl | simp [Act.eval, Act.put]) 30 RL (0, 0) _ (HR6.out _ _ HR5.out) Tryd.underlying30 rfl PCR.out.i ?_)
                | (refine wpList_store_row rfl 30 (.tmp 4) (.tmp 87) rfl w.heap.size RL (by first | rfl | simp [Act.eval, Act.put]) (by first | rfl | simp [Act.eval, Act.put]) 30 zPk HR5.out.r4 PCR.out.i PCR.out.z PCR.out.o ?_))
              have hout := HR5.out.out
              rw [HRL.out] at hout
              refine bodyPost_ret (results_row_tmpQ (p := 4) (u := 5) rfl _ _ w.heap.size 30 RL (0, 0) _ rfl hout.2.2 Tryd.underlying30 rfl PCR.out.i) rfl ⟨p, none, 0, 0, ?_, HR5.out.ok.n, ?_, ?_, hout.2.1⟩
              · rw [HFN.out, ← HRL.out]; rfl
              · intro hh; rw [HFN.out] at hh; cases hh
              · rw [HFN.out]; exact hout.1
            | false =>
              have hlc := HLC.out
              have hcm := HCM.out
              unfold maxLen at hcm
              by_cases hsh : l.length - a2 < n
              · have hn0 : n ≠ 0 := by have := HLE.out; omega
                have HFN : Hid ((dRest l c).2 = (l.length, true)) := hide (by rw [H6.out, H7.out]; unfold tkR; rw [if_neg (by simp [hn0]), if_pos hsh])
                have b3 : wrap64 ((l.length : Int) - (a2 : Int)) < (n : Int) := by
                  have := HLE.out
                  rw [wr64 _ (by omega)]
                  omega
                have hrb5 := HR.out.rl
                go_wp2_with (first
                  | (go_at_call 25; refine (HHA.out _ 32 false HR.out.o (by decide) (by decide) HGf.out).mono ?_; rintro e' y1 ⟨rfl, hb⟩; have HR1 := hide (HR.out.below hb); clear hb HR)
                  | (go_at_call 25; refine (HHA.out _ 64 false HR1.out.o (by decide) (by decide) HSf.out).mono ?_; rintro e' y2 ⟨rfl, hb⟩; have HR2 := hide (HR1.out.below hb); clear hb HR1)
                  | (go_at_call 25; refine (HHA.out _ 128 true HR2.out.o (by decide) (by decide) HD.out).mono ?_; rintro e' y3 ⟨rfl, hb⟩; have HR3 := hide (HR2.out.below hb); clear hb HR2)
                  | (refine wpList_load_row rfl 30 (.tmp 6) rfl (w.heap.size + 1) (by first | rfl | simp [Act.eval, Act.put]) 30 RL (0, 0) _ (HR6.out _ _ HR3.out) Tryd.underlying30 rfl PCR.out.i ?_)
                  | (go_at_call 31; refine (HLN.out _).mono ?_; rintro e' y4 ⟨sv, rfl, hs4, hb4⟩; have HR4 := hide (HR3.out.below hb4); have HQ4 := hide (HQN.out y4 sv HR4.out.q hs4); clear hs4 hb4 HR3 HLN HQN)
                  | (go_at_call 26; refine HQ4.out.mono ?_; rintro e' y5 ⟨rfl, hq5, ho5⟩; have HR5 := hide (HR4.out.oth hq5 ho5 HLE.out); have HRZ : Hid (∀ m, RSt w ((y5.drewN m).setCell ⟨rb, 1, none⟩ (.int .i64 (l.length : Int))) rb b off cap l c p (.slice none 0 0) l.length) := hide fun m => HR5.out.oth ((HR5.out.q.same rfl rfl : QR (y5.drewN m) rb b off cap l a2).go l.length) (((Oth.refl rb y5).drewN m).set 1 _) (Nat.le_refl _); obtain ⟨c0, c1, f1⟩ := hq5.cells; clear hq5 ho5 HQ4 HR4))
                go_quiet (fail)
                go_wp2_with (first
                  | (refine wpList_load_row rfl 30 (.tmp 6) rfl (w.heap.size + 1) (by first | rfl | simp [Act.eval, Act.put]) 30 RL (0, 0) _ (HR6.out _ _ (HRZ.out _)) Tryd.underlying30 rfl PCR.out.i ?_)
                  | (refine wpList_store_row rfl 30 (.tmp 4) (.tmp 108) rfl w.heap.size RL (by first | rfl | simp [Act.eval, Act.put]) (by first | rfl | simp [Act.eval, Act.put]) 30 zPk (HRZ.out _).r4 PCR.out.i PCR.out.z PCR.out.o ?_))
                have hout := (HRZ.out nq).out
                rw [HRL.out] at hout
                refine bodyPost_ret (results_row_tmpQ (p := 4) (u := 5) rfl _ _ w.heap.size 30 RL (0, 0) _ rfl hout.2.2 Tryd.underlying30 rfl PCR.out.i) rfl ⟨p, none, 0, 0, ?_, HR5.out.ok.n, ?_, ?_, hout.2.1⟩
                · rw [HFN.out, ← HRL.out]; rfl
                · intro hh; rw [HFN.out] at hh; cases hh
                · rw [HFN.out]; exact hout.1
              · have hle := HLE.out
                have b3 : ¬ wrap64 ((l.length : Int) - (a2 : Int)) < (n : Int) := by
                  rw [wr64 _ (by omega)]
                  omega
                by_cases hn0 : n = 0
                · subst hn0
                  have HFN : Hid (dRest l c = (p, a2, false)) := hide (by
                    rw [H6.out, H7.out]
                    unfold tkR
                    rw [if_pos (by simp), ← HPD.out])
                  go_wp2_with (first
                    | (go_at_call 25; refine (HHA.out _ 32 false HR.out.o (by decide) (by decide) HGf.out).mono ?_; rintro e' y1 ⟨rfl, hb⟩; have HR1 := hide (HR.out.below hb); clear hb HR)
                    | (go_at_call 25; refine (HHA.out _ 64 false HR1.out.o (by decide) (by decide) HSf.out).mono ?_; rintro e' y2 ⟨rfl, hb⟩; have HR2 := hide (HR1.out.below hb); clear hb HR1)
                    | (go_at_call 25; refine (HHA.out _ 128 true HR2.out.o (by decide) (by decide) HD.out).mono ?_; rintro e' y3 ⟨rfl, hb⟩; have HR3 := hide (HR2.out.below hb); clear hb HR2)
                    | (refine wpList_load_row rfl 30 (.tmp 6) rfl (w.heap.size + 1) (by first | rfl | simp [Act.eval, Act.put]) 30 RL (0, 0) _ (HR6.out _ _ HR3.out) Tryd.underlying30 rfl PCR.out.i ?_)
                    | (go_at_call 31; refine (HLN.out _).mono ?_; rintro e' y4 ⟨sv, rfl, hs4, hb4⟩; have HR4 := hide (HR3.out.below hb4); have HQ4 := hide (HQN.out y4 sv HR4.out.q hs4); clear hs4 hb4 HR3 HLN HQN)
                    | (go_at_call 26; refine HQ4.out.mono ?_; rintro e' y5 ⟨rfl, hq5, ho5⟩; have HR5 := hide (HR4.out.oth hq5 ho5 HLE.out); have HRZ : Hid (∀ m, RSt w ((y5.drewN m).setCell ⟨rb, 1, none⟩ (.int .i64 (a2 : Int))) rb b off cap l c p (.slice none 0 0) a2) := hide fun m => HR5.out.oth ((HR5.out.q.same rfl rfl : QR (y5.drewN m) rb b off cap l a2).go a2) (((Oth.refl rb y5).drewN m).set 1 _) HLE.out; obtain ⟨c0, c1, f1⟩ := hq5.cells; clear hq5 ho5 HQ4 HR4))
                  go_quiet (fail)
                  go_wp2_with (first
                    | (refine wpList_load_row rfl 30 (.tmp 6) rfl (w.heap.size + 1) (by first | rfl | simp [Act.eval, Act.put]) 30 RL (0, 0) _ (HR6.out _ _ (HRZ.out _)) Tryd.underlying30 rfl PCR.out.i ?_)
                    | (refine wpList_store_row rfl 30 (.tmp 4) (.tmp 138) rfl w.heap.size RL (by first | rfl | simp [Act.eval, Act.put]) (by first | rfl | simp [Act.eval, Act.put]) 30 zPk (HRZ.out _).r4 PCR.out.i PCR.out.z PCR.out.o ?_))
                  have hout := (HRZ.out nq).out
                  rw [HRL.out] at hout
                  refine bodyPost_ret (results_row_tmpQ (p := 4) (u := 5) rfl _ _ w.heap.size 30 RL (0, 0) _ rfl hout.2.2 Tryd.underlying30 rfl PCR.out.i) rfl ⟨p, none, 0, 0, ?_, HR5.out.ok.n, ?_, ?_, hout.2.1⟩
                  · rw [HFN.out, ← HRL.out]; rfl
                  · intro hh; exact ⟨by rw [HFN.out], by rw [HPD.out]; exact ⟨World.ownsRow_nil _ _ _ _, by simp⟩⟩
                  · rw [HFN.out]; exact hout.1
                · have i5 : 0 < n := by omega
                  go_wp2_with (first
                    | (go_at_call 25; refine (HHA.out _ 32 false HR.out.o (by decide) (by decide) HGf.out).mono ?_; rintro e' y1 ⟨rfl, hb⟩; have HR1 := hide (HR.out.below hb); clear hb HR)
                    | (go_at_call 25; refine (HHA.out _ 64 false HR1.out.o (by decide) (by decide) HSf.out).mono ?_; rintro e' y2 ⟨rfl, hb⟩; have HR2 := hide (HR1.out.below hb); clear hb HR1)
                    | (go_at_call 25; refine (HHA.out _ 128 true HR2.out.o (by decide) (by decide) HD.out).mono ?_; rintro e' y3 ⟨rfl, hb⟩; have HR3 := hide (HR2.out.below hb); clear hb HR2)
                    | (refine wpList_load_row rfl 30 (.tmp 6) rfl (w.heap.size + 1) (by first | rfl | simp [Act.eval, Act.put]) 30 RL (0, 0) _ (HR6.out _ _ HR3.out) Tryd.underlying30 rfl PCR.out.i ?_)
                    | (go_at_call 31; refine (HLN.out _).mono ?_; rintro e' y4 ⟨sv, rfl, hs4, hb4⟩; have HR4 := hide (HR3.out.below hb4); have HQ4 := hide (HQN.out y4 sv HR4.out.q hs4); clear hs4 hb4 HR3 HLN HQN)
                    | (go_at_call 26; refine HQ4.out.mono ?_; rintro e' y5 ⟨rfl, hq5, ho5⟩; have HR5 := hide (HR4.out.oth hq5 ho5 HLE.out); obtain ⟨c0, c1, f1⟩ := hq5.cells; have HOW := hide fun m => own_made y5 m; have HPT : Hid (∀ m, BSl ((y5.drewN m).alloc (.cells #[] 5)) (.slice (some ⟨b, off + a2, none⟩) n (cap - a2)) (sg l a2 n)) := hide fun m => (HR5.out.q.part (a := a2) (n := n) (by omega)).below ((show Below y5.heap.size y5 (y5.drewN m) from ⟨rfl, rfl, rfl, Nat.le_refl _, fun _ _ => rfl⟩).alloc (Nat.le_refl _) _); clear hq5 ho5 HQ4 HR4))
                  go_quiet (fail)
                  go_wp2_with fail
                  have HSH := hide hsh
                  have HN0 := hide hn0
                  clear b3 hn0
                  obtain ⟨i2, i3, i4, i1, i6, i7, i8, i9, i10⟩ := part_facts HSH.out hle hlc hcm HN0.out
                  have HSG : Hid ((sg l a2 n).length = n) := hide (sg_len i10)
                  have HFN : Hid (dRest l c = ({ p with dl := sg l a2 n }, a2 + n, false)) := hide (by
                    rw [H6.out, H7.out]
                    unfold tkR
                    rw [if_neg (by simp; exact HN0.out), if_neg HSH.out])
                  clear hsh
                  have HSY : Hid (∀ m, ((y5.drewN m).alloc (.cells #[] 5)).cell? ⟨rb, 0, none⟩ = some (.slice (some ⟨b, off, none⟩) l.length cap) ∧ ((y5.drewN m).alloc (.cells #[] 5)).cell? ⟨rb, 1, none⟩ = some (.int .i64 (a2 : Int))) := hide fun m => ⟨cell_alloc' _ c0, cell_alloc' _ c1⟩
                  have i7' := Nat.le_refl y5.heap.size
                  go_region_held3 (fun y => y.cell? ⟨rb, 0, none⟩ = some (.slice (some ⟨b, off, none⟩) l.length cap) ∧ y.cell? ⟨rb, 1, none⟩ = some (.int .i64 (a2 : Int)))
                    (first | exact ⟨c0, c1⟩ | exact HSY.out _ | exact HSW.out | exact HSZ.out)
                    ((refine step_appQ rfl (.tmp 111) (.tmp 126) rfl y5.heap.size _ _ [] (sg l a2 n) rfl rfl (HOW.out _) (HPT.out _) (by rw [HSG.out]; exact i5) (by rw [HSG.out]; have := HLT.out; simp; omega) (by simp) ?_; intro v6 w6 ho6 hb6 hk6; rw [List.nil_append] at ho6; obtain ⟨a6, c6, rfl⟩ := own_slQ ho6 HSG.out; have HO6 := hide ho6; have HR6 := hide (HR5.out.below (((show Below y5.heap.size y5 (y5.drewN _) from ⟨rfl, rfl, rfl, Nat.le_refl _, fun _ _ => rfl⟩).alloc (Nat.le_refl _) _).trans hb6)); have HR7 := hide (HR6.out.data (.slice a6 n c6) (sg l a2 n)); obtain ⟨d0, d1, d2⟩ := HR6.out.q.cells; have HSW : Hid (w6.cell? ⟨rb, 0, none⟩ = some (.slice (some ⟨b, off, none⟩) l.length cap) ∧ w6.cell? ⟨rb, 1, none⟩ = some (.int .i64 (a2 : Int))) := hide ⟨d0, d1⟩; obtain ⟨g0, g1, g2⟩ := HR7.out.q.cells; have HSZ := hide (And.intro g0 g1); have c42 := row_42 HR6.out; have z42 := frozen_of_row w6 (w.heap.size + 1) 42 _ _ HR6.out.r6; clear ho6 hb6 hk6))
                  all_goals
                    (generalize hw7 : w6.setCell ⟨w.heap.size + 1, 42, none⟩ _ = w7 at *
                     have HO7 : Hid (Own w7 w.heap.size (.slice a6 n c6) (sg l a2 n)) := hide (by
                       rw [← hw7]
                       refine (HO6.out.stayD fun g hg => Go.heap_setCell_other _ _ _ _ ?_).low HR5.out.o.size
                       have h8 := (HO6.out.block hg).1
                       have h9 := (Array.getElem?_eq_some_iff.1 HR5.out.r6).1
                       show g ≠ w.heap.size + 1
                       omega)
                     have PCN := hide (pc_of (c : Int) (p := { p with dl := sg l a2 n }) HR5.out.ok.n (.slice a6 n c6) rfl)
                     have HRZ : Hid (RSt w (w7.setCell ⟨rb, 1, none⟩ (.int .i64 ((a2 : Int) + (n : Int)))) rb b off cap l c { p with dl := sg l a2 n } (.slice a6 n c6) (a2 + n)) := hide (HR7.out.oth (by have := HR7.out.q.go (a2 + n); simpa using this) ((Oth.refl rb w7).set 1 _) i10)
                     have HOZ : Hid (Own (w7.setCell ⟨rb, 1, none⟩ (.int .i64 ((a2 : Int) + (n : Int)))) w.heap.size (.slice a6 n c6) (sg l a2 n)) := hide (HO7.out.stayD fun g hg => Go.heap_setCell_other _ _ _ _ (by have h8 := (HO7.out.block hg).1; have h9 := HR5.out.rl; show g ≠ rb; omega))
                     have HNE : Hid (∀ g, (Value.slice a6 n c6).ownBlock = some g → g ≠ w.heap.size) := hide fun g hg => by
                       have h8 := (HO6.out.block hg).1
                       have h9 := (Array.getElem?_eq_some_iff.1 HR5.out.r6).1
                       omega
                     have HRZ6 := hide HRZ.out.r6
                     generalize hRN : (.int .i64 (c : Int) :: ({ p with dl := sg l a2 n } : PV).row (.slice a6 n c6) : List Value).toArray = RN at *
                     have HRN := hide hRN
                     clear hw7 HRL HR6 hRN
                     have HRL := HRN
                     go_wp2_with (first
                       | (refine wpList_load_row rfl 30 (.tmp 6) rfl (w.heap.size + 1) (by first | rfl | simp [Act.eval, Act.put]) 30 RN (0, 0) _ HRZ6.out Tryd.underlying30 rfl PCN.out.i ?_)
                       | (refine wpList_store_row rfl 30 (.tmp 4) (.tmp 138) rfl w.heap.size RN (by first | rfl | simp [Act.eval, Act.put]) (by first | rfl | simp [Act.eval, Act.put]) 30 zPk HRZ.out.r4 PCN.out.i PCN.out.z PCN.out.o ?_))
                     have hout := HRZ.out.out
                     rw [HRL.out] at hout
                     refine bodyPost_ret (results_row_tmpQ (p := 4) (u := 5) rfl _ _ w.heap.size 30 RN (0, 0) _ rfl hout.2.2 Tryd.underlying30 rfl PCN.out.i) rfl ⟨{ p with dl := sg l a2 n }, a6, n, c6, ?_, HR5.out.ok.n, ?_, ?_, hout.2.1⟩
                     · rw [HFN.out, ← HRL.out]; rfl
                     · intro hh
                       exact ⟨by rw [HFN.out], HOZ.out.stayD fun g hg => setRow_other _ _ _ _ (HNE.out g hg)⟩
                     · rw [HFN.out]; exact hout.1)
end Go.Proofs.YtcjilmafdpnfeaaDoor
namespace Go.Proofs.YtcjilmafdpnfeaaDoor
open Go.RowKit
open Num
set_option linter.unusedVariables false
set_option linter.unusedSimpArgs false
set_option maxRecDepth 20000

set_option maxHeartbeats 8000000 in
theorem rdec_go (w : World) (b off cap c : Nat) (l : List Nat) (h : BSl w (.slice (some ⟨b, off, none⟩) l.length cap) l) (h0 : 0 < l.length) (hc : l.getD 0 0 = c) (h1 : 1 ≤ c) (h2 : c ≤ 25) (hCT : CTab w) (hFT : FTab w) : Calls Tryd.prog 7 #[.slice (some ⟨b, off, none⟩) l.length cap] w fun e y => DecO w l e y := by
  obtain ⟨hd1, hd2⟩ := dec_rest h0 hc h1 h2
  have hge := rest_ge h0 c
  have hb0 := (Below.refl w.heap.size w).alloc (Nat.le_refl _) (.cells #[.int .i64 0, .int .u32 0, .int .u32 0, .int .u32 0, .int .u32 0, .int .u32 0, .int .u64 0, .int .u64 0, .int .u64 0, .int .u64 0, .int .u8 0, .int .u8 0, .int .u8 0, .int .u8 0, .int .u8 0, .int .u8 0, .int .u8 0, .int .u8 0, .int .u8 0, .int .u8 0, .int .u8 0, .int .u8 0, .int .u8 0, .int .u8 0, .int .u8 0, .int .u8 0, .int .u8 0, .int .u8 0, .int .u8 0, .int .u8 0, .int .u8 0, .int .u8 0, .int .u8 0, .int .u8 0, .int .u8 0, .int .u8 0, .int .u8 0, .int .u8 0, .int .u8 0, .int .u8 0, .int .u8 0, .int .u8 0, .slice none 0 0] 30)
  have hb1 := hb0.alloc hb0.size (.cells #[.slice (some ⟨b, off, none⟩) l.length cap, .int .i64 1] 60)
  obtain ⟨_, _, e, k1, k2, _, hby, hcc⟩ := id h
  simp only [Value.slice.injEq] at e
  obtain ⟨rfl, -, rfl⟩ := e
  obtain ⟨b', off', e, hcc⟩ := hcc h0
  simp only [Option.some.injEq, Addr.mk.injEq] at e
  obtain ⟨rfl, rfl, -⟩ := e
  have hbl := World.block_lt_of_cell? w _ (hcc 0 h0)
  simp only at hbl
  have e1 := Go.heap_alloc_new (w.alloc (.cells #[.int .i64 0, .int .u32 0, .int .u32 0, .int .u32 0, .int .u32 0, .int .u32 0, .int .u64 0, .int .u64 0, .int .u64 0, .int .u64 0, .int .u8 0, .int .u8 0, .int .u8 0, .int .u8 0, .int .u8 0, .int .u8 0, .int .u8 0, .int .u8 0, .int .u8 0, .int .u8 0, .int .u8 0, .int .u8 0, .int .u8 0, .int .u8 0, .int .u8 0, .int .u8 0, .int .u8 0, .int .u8 0, .int .u8 0, .int .u8 0, .int .u8 0, .int .u8 0, .int .u8 0, .int .u8 0, .int .u8 0, .int .u8 0, .int .u8 0, .int .u8 0, .int .u8 0, .int .u8 0, .int .u8 0, .int .u8 0, .slice none 0 0] 30)) (.cells #[.slice (some ⟨b, off, none⟩) l.length cap, .int .i64 1] 60)
  rw [show (w.alloc (.cells #[.int .i64 0, .int .u32 0, .int .u32 0, .int .u32 0, .int .u32 0, .int .u32 0, .int .u64 0, .int .u64 0, .int .u64 0, .int .u64 0, .int .u8 0, .int .u8 0, .int .u8 0, .int .u8 0, .int .u8 0, .int .u8 0, .int .u8 0, .int .u8 0, .int .u8 0, .int .u8 0, .int .u8 0, .int .u8 0, .int .u8 0, .int .u8 0, .int .u8 0, .int .u8 0, .int .u8 0, .int .u8 0, .int .u8 0, .int .u8 0, .int .u8 0, .int .u8 0, .int .u8 0, .int .u8 0, .int .u8 0, .int .u8 0, .int .u8 0, .int .u8 0, .int .u8 0, .int .u8 0, .int .u8 0, .int .u8 0, .slice none 0 0] 30)).heap.size = w.heap.size + 1 by simp] at e1
  obtain ⟨x1, hx1⟩ : ∃ x1, x1 = (w.alloc (.cells #[.int .i64 0, .int .u32 0, .int .u32 0, .int .u32 0, .int .u32 0, .int .u32 0, .int .u64 0, .int .u64 0, .int .u64 0, .int .u64 0, .int .u8 0, .int .u8 0, .int .u8 0, .int .u8 0, .int .u8 0, .int .u8 0, .int .u8 0, .int .u8 0, .int .u8 0, .int .u8 0, .int .u8 0, .int .u8 0, .int .u8 0, .int .u8 0, .int .u8 0, .int .u8 0, .int .u8 0, .int .u8 0, .int .u8 0, .int .u8 0, .int .u8 0, .int .u8 0, .int .u8 0, .int .u8 0, .int .u8 0, .int .u8 0, .int .u8 0, .int .u8 0, .int .u8 0, .int .u8 0, .int .u8 0, .int .u8 0, .slice none 0 0] 30)).alloc (.cells #[.slice (some ⟨b, off, none⟩) l.length cap, .int .i64 1] 60) := ⟨_, rfl⟩
  rw [← hx1] at hb1 e1
  have HZ1 : Hid (x1.heap[w.heap.size]? = some (.cells zPk 30 (0, 0))) := hide (by
    rw [hx1]
    exact ((Below.refl _ (w.alloc (.cells #[.int .i64 0, .int .u32 0, .int .u32 0, .int .u32 0, .int .u32 0, .int .u32 0, .int .u64 0, .int .u64 0, .int .u64 0, .int .u64 0, .int .u8 0, .int .u8 0, .int .u8 0, .int .u8 0, .int .u8 0, .int .u8 0, .int .u8 0, .int .u8 0, .int .u8 0, .int .u8 0, .int .u8 0, .int .u8 0, .int .u8 0, .int .u8 0, .int .u8 0, .int .u8 0, .int .u8 0, .int .u8 0, .int .u8 0, .int .u8 0, .int .u8 0, .int .u8 0, .int .u8 0, .int .u8 0, .int .u8 0, .int .u8 0, .int .u8 0, .int .u8 0, .int .u8 0, .int .u8 0, .int .u8 0, .int .u8 0, .slice none 0 0] 30))).alloc (Nat.le_refl _) _).block _ (by simp) |>.trans (Go.heap_alloc_new w _))
  have hq : QR x1 (w.heap.size + 1) b off cap l 1 := ⟨e1, k1, k2, hby, fun i hi => (hb1.cell (p := ⟨b, off + i, none⟩) hbl).trans (hcc i hi), by omega⟩
  have HRS := hide (rest_any x1 (w.heap.size + 1) b off cap c l hq h1 h2 h0 (hCT.below hb1) (hFT.below hb1))
  have HB1 := hide hb1
  have HX1S : Hid (x1.heap.size = w.heap.size + 1 + 1) := hide (by rw [hx1]; simp)
  have c0 : (w.alloc (.cells #[.int .i64 0, .int .u32 0, .int .u32 0, .int .u32 0, .int .u32 0, .int .u32 0, .int .u64 0, .int .u64 0, .int .u64 0, .int .u64 0, .int .u8 0, .int .u8 0, .int .u8 0, .int .u8 0, .int .u8 0, .int .u8 0, .int .u8 0, .int .u8 0, .int .u8 0, .int .u8 0, .int .u8 0, .int .u8 0, .int .u8 0, .int .u8 0, .int .u8 0, .int .u8 0, .int .u8 0, .int .u8 0, .int .u8 0, .int .u8 0, .int .u8 0, .int .u8 0, .int .u8 0, .int .u8 0, .int .u8 0, .int .u8 0, .int .u8 0, .int .u8 0, .int .u8 0, .int .u8 0, .int .u8 0, .int .u8 0, .slice none 0 0] 30)).cell? ⟨b, off, none⟩ = some (.int .u8 (c : Int)) := by
    have := (hb0.cell (p := ⟨b, off + 0, none⟩) hbl).trans (hcc 0 h0)
    rw [hc] at this
    simpa using this
  unfold RestP pkV at HRS
  obtain ⟨R, hR⟩ : ∃ R, dRest l c = R := ⟨_, rfl⟩
  rw [hR] at HRS hge hd1
  obtain ⟨pv, a2, st⟩ := R
  simp only at HRS hge
  have hER : dErr l = why l.length a2 st := by unfold dErr; rw [hd1]
  unfold maxLen at k2
  have i0 : (0 : Int) < (l.length : Int) := by omega
  have hnz : ¬ l.length = 0 := by omega
  have hnz2 : ((l.length : Int) == 0) = false := by simp only [beq_eq_false_iff_ne]; omega
  have i1 : ¬ (c : Int) < 1 := by omega
  have i2 : ¬ (25 : Int) < (c : Int) := by omega
  clear h hcc hby hb0 hb1 e1 hq hCT hFT hR hc
  cases st with
  | false =>
    by_cases ha : a2 = l.length
    · have hz : dErr l = 0 := by rw [hER, ha]; unfold why; simp
      have HF : Hid (dErr l = 0 ∧ dAt l = 0 ∧ dPv l = pv ∧ dC l = c) := hide ⟨hz, by unfold dAt; rw [if_pos hz], by unfold dPv; rw [if_pos hz, hd1], by unfold dC; rw [if_pos hz, hd2]⟩
      have b1 : ((a2 : Int) == (l.length : Int)) = true := by simp only [beq_iff_eq]; omega
      clear hER hd1 hd2 ha hz hge
      go_enter Tryd.func7, Tryd.ntmps7
      go_wp2_with fail
      rw [← hx1]
      clear hx1 c0
      go_wp2_with (first
        | (go_at_call 17; refine HRS.out.mono ?_; rintro e' y ⟨q, da, dn, dc, rfl, hqs, hq1, hq2, ho⟩; have HBY := hide (oth_bel HB1.out ho (Nat.le_succ _)); have PCQ := hide (pc_of (c : Int) hqs (.slice da dn dc) rfl); have HQ1 := hide hq1; have HZY := hide ((ho.block _ (Array.getElem?_eq_some_iff.1 HZ1.out).1 (by omega)).trans HZ1.out); generalize hRQ : (.int .i64 (c : Int) :: q.row (.slice da dn dc) : List Value).toArray = RQ at *; have HRQ := hide hRQ; have hal := (Below.refl y.heap.size y).alloc (Nat.le_refl _) (.cells RQ 30); have HB2 := hide (HBY.out.trans (hal.mono HBY.out.size)); have HZ2 := hide ((hal.block _ (Array.getElem?_eq_some_iff.1 HZY.out).1).trans HZY.out); obtain ⟨d0, d1, d2⟩ := (hq2.below hal).cells; have HN2 := hide (Go.heap_alloc_new y (.cells RQ 30)); clear hqs hq1 hq2 ho hRQ hal)
        | (refine wpList_store_row rfl 30 (.tmp 7) (.tmp 31) rfl y.heap.size RQ (by first | rfl | simp [Act.eval, Act.put]) (by first | rfl | simp [Act.eval, Act.put]) 30 zPk (Go.heap_alloc_new y _) PCQ.out.i PCQ.out.z PCQ.out.o ?_; rw [World.setRow_alloc_new])
        | (refine wpList_load_row rfl 30 (.tmp 7) rfl y.heap.size (by first | rfl | simp [Act.eval, Act.put]) 30 RQ (0, 0) _ HN2.out Tryd.underlying30 rfl PCQ.out.i ?_)
        | (refine wpList_store_row rfl 30 (.tmp 2) (.tmp 44) rfl w.heap.size RQ (by first | rfl | simp [Act.eval, Act.put]) (by first | rfl | simp [Act.eval, Act.put]) 30 zPk HZ2.out PCQ.out.i PCQ.out.z PCQ.out.o ?_))
      obtain ⟨hqp, hown⟩ : q = pv ∧ Own y x1.heap.size (.slice da dn dc) q.dl := by first | exact HQ1.out rfl | exact HQ1.out trivial | exact HQ1.out
      refine bodyPost_ret (results_row_tmp2 (p := 2) (u := 3) (v := 4) rfl _ _ w.heap.size 30 RQ (0, 0) _ (by kernel_rfl) (setRow_heap _ _ zPk _ 30 _ HZ2.out) Tryd.underlying30 rfl PCQ.out.i) rfl ⟨.slice da dn dc, ?_, ?_, bel_row HB2.out _ _ (Nat.le_refl _)⟩
      · rw [HF.out.1, HF.out.2.1, HF.out.2.2.1, HF.out.2.2.2, ← hqp, ← HRQ.out]; rfl
      · rw [HF.out.2.2.1, ← hqp]
        have ha2 : Own (y.alloc (.cells RQ 30)) x1.heap.size (.slice da dn dc) q.dl := hown.kept ((Below.refl y.heap.size y).alloc (Nat.le_refl _) _)
        have hsz := HX1S.out
        exact (ha2.stayD fun g hg => setRow_other _ _ _ _ (by have := (ha2.block hg).1; omega)).low (by omega)
    · have hz : dErr l = 76 := by rw [hER]; unfold why; rw [if_neg (by decide), if_pos (by omega)]
      have hzn : ¬ dErr l = 0 := by rw [hz]; decide
      have HF : Hid (dErr l = 76 ∧ dAt l = a2 ∧ dPv l = PV.zero ∧ dC l = 0) := hide ⟨hz, by unfold dAt; rw [if_neg hzn, hd1], by unfold dPv; rw [if_neg hzn], by unfold dC; rw [if_neg hzn]⟩
      have b1 : ((a2 : Int) == (l.length : Int)) = false := by simp only [beq_eq_false_iff_ne]; omega
      clear hER hd1 hd2 ha hz hzn hge
      go_enter Tryd.func7, Tryd.ntmps7
      go_wp2_with fail
      rw [← hx1]
      clear hx1 c0
      go_wp2_with (first
        | (go_at_call 17; refine HRS.out.mono ?_; rintro e' y ⟨q, da, dn, dc, rfl, hqs, hq1, hq2, ho⟩; have HBY := hide (oth_bel HB1.out ho (Nat.le_succ _)); have PCQ := hide (pc_of (c : Int) hqs (.slice da dn dc) rfl); have HQ1 := hide hq1; have HZY := hide ((ho.block _ (Array.getElem?_eq_some_iff.1 HZ1.out).1 (by omega)).trans HZ1.out); generalize hRQ : (.int .i64 (c : Int) :: q.row (.slice da dn dc) : List Value).toArray = RQ at *; have HRQ := hide hRQ; have hal := (Below.refl y.heap.size y).alloc (Nat.le_refl _) (.cells RQ 30); have HB2 := hide (HBY.out.trans (hal.mono HBY.out.size)); have HZ2 := hide ((hal.block _ (Array.getElem?_eq_some_iff.1 HZY.out).1).trans HZY.out); obtain ⟨d0, d1, d2⟩ := (hq2.below hal).cells; have HN2 := hide (Go.heap_alloc_new y (.cells RQ 30)); clear hqs hq1 hq2 ho hRQ hal)
        | (refine wpList_store_row rfl 30 (.tmp 7) (.tmp 31) rfl y.heap.size RQ (by first | rfl | simp [Act.eval, Act.put]) (by first | rfl | simp [Act.eval, Act.put]) 30 zPk (Go.heap_alloc_new y _) PCQ.out.i PCQ.out.z PCQ.out.o ?_; rw [World.setRow_alloc_new]))
      generalize hy2 : y.alloc (.cells RQ 30) = y2 at *
      go_wp2_with fail
      refine wp_region_held_drew (S := fun z => z.cell? ⟨w.heap.size + 1, 1, none⟩ = some (.int .i64 (a2 : Int))) (by kernel_rfl) d1 (fun hHeld => ?_)
      refine wpAnyH_take (i := 0) (v := .agg zPk) rfl (by kernel_rfl) (by kernel_rfl) (by kernel_rfl) (fun _ _ _ h => h) ?hy047 hHeld ?_
      case hy047 =>
        refine yieldsIf_build ?hya47 30 _ rfl zPk ?hyd47
        case hya47 => kernel_rfl
        case hyd47 => kernel_rfl
      (try simp only [Act.put, List.getElem_toArray, List.getElem_cons_succ, List.getElem_cons_zero, List.setIfInBounds_toArray, List.set_cons_zero, List.set_cons_succ])
      refine wpAnyH_take (i := 1) (v := ?v147) rfl (by kernel_rfl) (by kernel_rfl) (by kernel_rfl) (fun _ _ _ h => h) (Or.inl ⟨by rfl, ?h147⟩) hHeld ?r147
      case h147 => intro w' hSw; go_simp; (try with_reducible rfl)
      (try simp only [Act.put, List.getElem_toArray, List.getElem_cons_succ, List.getElem_cons_zero, List.setIfInBounds_toArray, List.set_cons_zero, List.set_cons_succ])
      refine wpAnyH_take (i := 2) (v := ?v247) rfl (by kernel_rfl) (by kernel_rfl) (by kernel_rfl) (fun _ _ _ h => h) (Or.inl ⟨by rfl, ?h247⟩) hHeld ?r247
      case h247 => intro w' hSw; go_simp; (try with_reducible rfl)
      (try simp only [Act.put, List.getElem_toArray, List.getElem_cons_succ, List.getElem_cons_zero, List.setIfInBounds_toArray, List.set_cons_zero, List.set_cons_succ])
      refine wpAnyH_take (i := 3) (v := ?v347) rfl (by kernel_rfl) (by kernel_rfl) (by kernel_rfl) (fun _ _ _ h => h) (Or.inl ⟨by rfl, ?h347⟩) hHeld ?r347
      case h347 => intro w' hSw; go_simp; (try with_reducible rfl)
      (try simp only [Act.put, List.getElem_toArray, List.getElem_cons_succ, List.getElem_cons_zero, List.setIfInBounds_toArray, List.set_cons_zero, List.set_cons_succ])
      refine wpAnyH_take (i := 4) (v := .int .i64 (a2 : Int)) rfl (by kernel_rfl) (by kernel_rfl) (by kernel_rfl) (fun _ _ _ h => h) (Or.inl ⟨by rfl, ?h447⟩) hHeld ?r447
      case h447 => intro w' hSw; go_simp; (try with_reducible rfl)
      have HS8 : (y2.drew.setRow w.heap.size zPk).cell? ⟨w.heap.size + 1, 1, none⟩ = some (.int .i64 (a2 : Int)) := by
        rw [World.cell?_of_block (show (y2.drew.setRow w.heap.size zPk).heap[w.heap.size + 1]? = y2.heap[w.heap.size + 1]? from setRow_other _ _ _ _ (by omega))]; exact d1
      have HR8 : (y2.drew.setRow w.heap.size zPk).heap[w.heap.size]? = some (.cells zPk 30 (0, 0)) := setRow_heap _ _ zPk _ 30 _ HZ2.out
      have HB8 : Below w.heap.size w (y2.drew.setRow w.heap.size zPk) := bel_row (HB2.out.trans ((show Below y2.heap.size y2 y2.drew from ⟨rfl, rfl, rfl, Nat.le_refl _, fun _ _ => rfl⟩).mono HB2.out.size)) _ _ (Nat.le_refl _)
      refine wpAnyH_ready (rs := [5]) (by kernel_rfl) (by simp) ?_
      refine AllReadyH.one_store (o := ?o47) ?ho47 ?hw47 30 (.tmp 2) (.tmp 47) ?hop47 ?hdst47 w.heap.size zPk ?hx47 ?hy47 30 zPk HZ2.out infoK rfl (by kernel_rfl) HS8 ?h47
      case ho47 => exact rfl
      case hw47 => kernel_rfl
      case hop47 => kernel_rfl
      case hdst47 => kernel_rfl
      case hx47 => kernel_rfl
      case hy47 => kernel_rfl
      case h47 =>
        intro W2 hW2
        have hHeld2 := HS8
        rw [← hW2] at HB8 HR8 hHeld2
        clear hW2 HS8
        refine wpAnyH_take (i := 6) (v := .int .i64 (a2 : Int)) rfl (by kernel_rfl) (by kernel_rfl) (by kernel_rfl) (fun _ _ _ h => h) (Or.inl ⟨by rfl, ?h647⟩) hHeld2 ?r647
        case h647 => intro w' hSw; go_simp; (try with_reducible rfl)
        refine wpAnyH_take (i := 7) (v := .int .i64 76) rfl (by kernel_rfl) (by kernel_rfl) (by kernel_rfl) (fun _ _ _ h => h) (Or.inl ⟨by rfl, ?h747⟩) hHeld2 ?r747
        case h747 => intro w' hSw; go_simp; (try with_reducible rfl)
        refine wpAnyH_done ?hr47 ?hq47 _
        case hr47 => kernel_rfl
        case hq47 =>
          refine q_eq (B := (Act.put (Act.put (Act.put _ (some 51) (.int .i64 (a2 : Int))) (some 3) (.int .i64 (a2 : Int))) (some 4) (.int .i64 76))) (by rfl) ?_
          simp only [Act.put, List.getElem_toArray, List.getElem_cons_succ, List.getElem_cons_zero, List.setIfInBounds_toArray, List.set_cons_zero, List.set_cons_succ]
          go_wp2_with fail
          refine bodyPost_ret (results_row_tmp2 (p := 2) (u := 3) (v := 4) rfl _ _ w.heap.size 30 zPk (0, 0) _ (by kernel_rfl) HR8 Tryd.underlying30 rfl infoK) rfl ⟨.slice none 0 0, ?_, ?_, HB8⟩
          · rw [HF.out.1, HF.out.2.1, HF.out.2.2.1, HF.out.2.2.2]; rfl
          · rw [HF.out.2.2.1]; exact ⟨World.ownsRow_nil _ _ _ _, by simp [PV.zero]⟩
  | true =>
    by_cases ha : a2 = l.length
    · have hz : dErr l = 71 := by rw [hER, ha]; unfold why; simp
      have hzn : ¬ dErr l = 0 := by rw [hz]; decide
      have HF : Hid (dErr l = 71 ∧ dAt l = a2 ∧ dPv l = PV.zero ∧ dC l = 0) := hide ⟨hz, by unfold dAt; rw [if_neg hzn, hd1], by unfold dPv; rw [if_neg hzn], by unfold dC; rw [if_neg hzn]⟩
      have b1 : ((a2 : Int) == (l.length : Int)) = true := by simp only [beq_iff_eq]; omega
      clear hER hd1 hd2 ha hz hzn hge
      go_enter Tryd.func7, Tryd.ntmps7
      go_wp2_with fail
      rw [← hx1]
      clear hx1 c0
      go_wp2_with (first
        | (go_at_call 17; refine HRS.out.mono ?_; rintro e' y ⟨q, da, dn, dc, rfl, hqs, hq1, hq2, ho⟩; have HBY := hide (oth_bel HB1.out ho (Nat.le_succ _)); have PCQ := hide (pc_of (c : Int) hqs (.slice da dn dc) rfl); have HQ1 := hide hq1; have HZY := hide ((ho.block _ (Array.getElem?_eq_some_iff.1 HZ1.out).1 (by omega)).trans HZ1.out); generalize hRQ : (.int .i64 (c : Int) :: q.row (.slice da dn dc) : List Value).toArray = RQ at *; have HRQ := hide hRQ; have hal := (Below.refl y.heap.size y).alloc (Nat.le_refl _) (.cells RQ 30); have HB2 := hide (HBY.out.trans (hal.mono HBY.out.size)); have HZ2 := hide ((hal.block _ (Array.getElem?_eq_some_iff.1 HZY.out).1).trans HZY.out); obtain ⟨d0, d1, d2⟩ := (hq2.below hal).cells; have HN2 := hide (Go.heap_alloc_new y (.cells RQ 30)); clear hqs hq1 hq2 ho hRQ hal)
        | (refine wpList_store_row rfl 30 (.tmp 7) (.tmp 31) rfl y.heap.size RQ (by first | rfl | simp [Act.eval, Act.put]) (by first | rfl | simp [Act.eval, Act.put]) 30 zPk (Go.heap_alloc_new y _) PCQ.out.i PCQ.out.z PCQ.out.o ?_; rw [World.setRow_alloc_new]))
      generalize hy2 : y.alloc (.cells RQ 30) = y2 at *
      go_wp2_with fail
      refine wp_region_held_drew (S := fun z => z.cell? ⟨w.heap.size + 1, 1, none⟩ = some (.int .i64 (a2 : Int))) (by kernel_rfl) d1 (fun hHeld => ?_)
      refine wpAnyH_take (i := 0) (v := .agg zPk) rfl (by kernel_rfl) (by kernel_rfl) (by kernel_rfl) (fun _ _ _ h => h) ?hy060 hHeld ?_
      case hy060 =>
        refine yieldsIf_build ?hya60 30 _ rfl zPk ?hyd60
        case hya60 => kernel_rfl
        case hyd60 => kernel_rfl
      (try simp only [Act.put, List.getElem_toArray, List.getElem_cons_succ, List.getElem_cons_zero, List.setIfInBounds_toArray, List.set_cons_zero, List.set_cons_succ])
      refine wpAnyH_take (i := 1) (v := ?v160) rfl (by kernel_rfl) (by kernel_rfl) (by kernel_rfl) (fun _ _ _ h => h) (Or.inl ⟨by rfl, ?h160⟩) hHeld ?r160
      case h160 => intro w' hSw; go_simp; (try with_reducible rfl)
      (try simp only [Act.put, List.getElem_toArray, List.getElem_cons_succ, List.getElem_cons_zero, List.setIfInBounds_toArray, List.set_cons_zero, List.set_cons_succ])
      refine wpAnyH_take (i := 2) (v := ?v260) rfl (by kernel_rfl) (by kernel_rfl) (by kernel_rfl) (fun _ _ _ h => h) (Or.inl ⟨by rfl, ?h260⟩) hHeld ?r260
      case h260 => intro w' hSw; go_simp; (try with_reducible rfl)
      (try simp only [Act.put, List.getElem_toArray, List.getElem_cons_succ, List.getElem_cons_zero, List.setIfInBounds_toArray, List.set_cons_zero, List.set_cons_succ])
      refine wpAnyH_take (i := 3) (v := ?v360) rfl (by kernel_rfl) (by kernel_rfl) (by kernel_rfl) (fun _ _ _ h => h) (Or.inl ⟨by rfl, ?h360⟩) hHeld ?r360
      case h360 => intro w' hSw; go_simp; (try with_reducible rfl)
      (try simp only [Act.put, List.getElem_toArray, List.getElem_cons_succ, List.getElem_cons_zero, List.setIfInBounds_toArray, List.set_cons_zero, List.set_cons_succ])
      refine wpAnyH_take (i := 4) (v := .int .i64 (a2 : Int)) rfl (by kernel_rfl) (by kernel_rfl) (by kernel_rfl) (fun _ _ _ h => h) (Or.inl ⟨by rfl, ?h460⟩) hHeld ?r460
      case h460 => intro w' hSw; go_simp; (try with_reducible rfl)
      have HS8 : (y2.drew.setRow w.heap.size zPk).cell? ⟨w.heap.size + 1, 1, none⟩ = some (.int .i64 (a2 : Int)) := by
        rw [World.cell?_of_block (show (y2.drew.setRow w.heap.size zPk).heap[w.heap.size + 1]? = y2.heap[w.heap.size + 1]? from setRow_other _ _ _ _ (by omega))]; exact d1
      have HR8 : (y2.drew.setRow w.heap.size zPk).heap[w.heap.size]? = some (.cells zPk 30 (0, 0)) := setRow_heap _ _ zPk _ 30 _ HZ2.out
      have HB8 : Below w.heap.size w (y2.drew.setRow w.heap.size zPk) := bel_row (HB2.out.trans ((show Below y2.heap.size y2 y2.drew from ⟨rfl, rfl, rfl, Nat.le_refl _, fun _ _ => rfl⟩).mono HB2.out.size)) _ _ (Nat.le_refl _)
      refine wpAnyH_ready (rs := [5]) (by kernel_rfl) (by simp) ?_
      refine AllReadyH.one_store (o := ?o60) ?ho60 ?hw60 30 (.tmp 2) (.tmp 60) ?hop60 ?hdst60 w.heap.size zPk ?hx60 ?hy60 30 zPk HZ2.out infoK rfl (by kernel_rfl) HS8 ?h60
      case ho60 => exact rfl
      case hw60 => kernel_rfl
      case hop60 => kernel_rfl
      case hdst60 => kernel_rfl
      case hx60 => kernel_rfl
      case hy60 => kernel_rfl
      case h60 =>
        intro W2 hW2
        have hHeld2 := HS8
        rw [← hW2] at HB8 HR8 hHeld2
        clear hW2 HS8
        refine wpAnyH_take (i := 6) (v := .int .i64 (a2 : Int)) rfl (by kernel_rfl) (by kernel_rfl) (by kernel_rfl) (fun _ _ _ h => h) (Or.inl ⟨by rfl, ?h660⟩) hHeld2 ?r660
        case h660 => intro w' hSw; go_simp; (try with_reducible rfl)
        refine wpAnyH_take (i := 7) (v := .int .i64 71) rfl (by kernel_rfl) (by kernel_rfl) (by kernel_rfl) (fun _ _ _ h => h) (Or.inl ⟨by rfl, ?h760⟩) hHeld2 ?r760
        case h760 => intro w' hSw; go_simp; (try with_reducible rfl)
        refine wpAnyH_done ?hr60 ?hq60 _
        case hr60 => kernel_rfl
        case hq60 =>
          refine q_eq (B := (Act.put (Act.put (Act.put _ (some 64) (.int .i64 (a2 : Int))) (some 3) (.int .i64 (a2 : Int))) (some 4) (.int .i64 71))) (by rfl) ?_
          simp only [Act.put, List.getElem_toArray, List.getElem_cons_succ, List.getElem_cons_zero, List.setIfInBounds_toArray, List.set_cons_zero, List.set_cons_succ]
          go_wp2_with fail
          refine bodyPost_ret (results_row_tmp2 (p := 2) (u := 3) (v := 4) rfl _ _ w.heap.size 30 zPk (0, 0) _ (by kernel_rfl) HR8 Tryd.underlying30 rfl infoK) rfl ⟨.slice none 0 0, ?_, ?_, HB8⟩
          · rw [HF.out.1, HF.out.2.1, HF.out.2.2.1, HF.out.2.2.2]; rfl
          · rw [HF.out.2.2.1]; exact ⟨World.ownsRow_nil _ _ _ _, by simp [PV.zero]⟩
    · have hz : dErr l = 75 := by rw [hER]; unfold why; rw [if_pos rfl, if_neg ha, if_neg (by omega)]
      have hzn : ¬ dErr l = 0 := by rw [hz]; decide
      have HF : Hid (dErr l = 75 ∧ dAt l = a2 ∧ dPv l = PV.zero ∧ dC l = 0) := hide ⟨hz, by unfold dAt; rw [if_neg hzn, hd1], by unfold dPv; rw [if_neg hzn], by unfold dC; rw [if_neg hzn]⟩
      have b1 : ((a2 : Int) == (l.length : Int)) = false := by simp only [beq_eq_false_iff_ne]; omega
      clear hER hd1 hd2 ha hz hzn hge
      go_enter Tryd.func7, Tryd.ntmps7
      go_wp2_with fail
      rw [← hx1]
      clear hx1 c0
      go_wp2_with (first
        | (go_at_call 17; refine HRS.out.mono ?_; rintro e' y ⟨q, da, dn, dc, rfl, hqs, hq1, hq2, ho⟩; have HBY := hide (oth_bel HB1.out ho (Nat.le_succ _)); have PCQ := hide (pc_of (c : Int) hqs (.slice da dn dc) rfl); have HQ1 := hide hq1; have HZY := hide ((ho.block _ (Array.getElem?_eq_some_iff.1 HZ1.out).1 (by omega)).trans HZ1.out); generalize hRQ : (.int .i64 (c : Int) :: q.row (.slice da dn dc) : List Value).toArray = RQ at *; have HRQ := hide hRQ; have hal := (Below.refl y.heap.size y).alloc (Nat.le_refl _) (.cells RQ 30); have HB2 := hide (HBY.out.trans (hal.mono HBY.out.size)); have HZ2 := hide ((hal.block _ (Array.getElem?_eq_some_iff.1 HZY.out).1).trans HZY.out); obtain ⟨d0, d1, d2⟩ := (hq2.below hal).cells; have HN2 := hide (Go.heap_alloc_new y (.cells RQ 30)); clear hqs hq1 hq2 ho hRQ hal)
        | (refine wpList_store_row rfl 30 (.tmp 7) (.tmp 31) rfl y.heap.size RQ (by first | rfl | simp [Act.eval, Act.put]) (by first | rfl | simp [Act.eval, Act.put]) 30 zPk (Go.heap_alloc_new y _) PCQ.out.i PCQ.out.z PCQ.out.o ?_; rw [World.setRow_alloc_new]))
      generalize hy2 : y.alloc (.cells RQ 30) = y2 at *
      go_wp2_with fail
      refine wp_region_held_drew (S := fun z => z.cell? ⟨w.heap.size + 1, 1, none⟩ = some (.int .i64 (a2 : Int))) (by kernel_rfl) d1 (fun hHeld => ?_)
      refine wpAnyH_take (i := 0) (v := .agg zPk) rfl (by kernel_rfl) (by kernel_rfl) (by kernel_rfl) (fun _ _ _ h => h) ?hy065 hHeld ?_
      case hy065 =>
        refine yieldsIf_build ?hya65 30 _ rfl zPk ?hyd65
        case hya65 => kernel_rfl
        case hyd65 => kernel_rfl
      (try simp only [Act.put, List.getElem_toArray, List.getElem_cons_succ, List.getElem_cons_zero, List.setIfInBounds_toArray, List.set_cons_zero, List.set_cons_succ])
      refine wpAnyH_take (i := 1) (v := ?v165) rfl (by kernel_rfl) (by kernel_rfl) (by kernel_rfl) (fun _ _ _ h => h) (Or.inl ⟨by rfl, ?h165⟩) hHeld ?r165
      case h165 => intro w' hSw; go_simp; (try with_reducible rfl)
      (try simp only [Act.put, List.getElem_toArray, List.getElem_cons_succ, List.getElem_cons_zero, List.setIfInBounds_toArray, List.set_cons_zero, List.set_cons_succ])
      refine wpAnyH_take (i := 2) (v := ?v265) rfl (by kernel_rfl) (by kernel_rfl) (by kernel_rfl) (fun _ _ _ h => h) (Or.inl ⟨by rfl, ?h265⟩) hHeld ?r265
      case h265 => intro w' hSw; go_simp; (try with_reducible rfl)
      (try simp only [Act.put, List.getElem_toArray, List.getElem_cons_succ, List.getElem_cons_zero, List.setIfInBounds_toArray, List.set_cons_zero, List.set_cons_succ])
      refine wpAnyH_take (i := 3) (v := ?v365) rfl (by kernel_rfl) (by kernel_rfl) (by kernel_rfl) (fun _ _ _ h => h) (Or.inl ⟨by rfl, ?h365⟩) hHeld ?r365
      case h365 => intro w' hSw; go_simp; (try with_reducible rfl)
      (try simp only [Act.put, List.getElem_toArray, List.getElem_cons_succ, List.getElem_cons_zero, List.setIfInBounds_toArray, List.set_cons_zero, List.set_cons_succ])
      refine wpAnyH_take (i := 4) (v := .int .i64 (a2 : Int)) rfl (by kernel_rfl) (by kernel_rfl) (by kernel_rfl) (fun _ _ _ h => h) (Or.inl ⟨by rfl, ?h465⟩) hHeld ?r465
      case h465 => intro w' hSw; go_simp; (try with_reducible rfl)
      have HS8 : (y2.drew.setRow w.heap.size zPk).cell? ⟨w.heap.size + 1, 1, none⟩ = some (.int .i64 (a2 : Int)) := by
        rw [World.cell?_of_block (show (y2.drew.setRow w.heap.size zPk).heap[w.heap.size + 1]? = y2.heap[w.heap.size + 1]? from setRow_other _ _ _ _ (by omega))]; exact d1
      have HR8 : (y2.drew.setRow w.heap.size zPk).heap[w.heap.size]? = some (.cells zPk 30 (0, 0)) := setRow_heap _ _ zPk _ 30 _ HZ2.out
      have HB8 : Below w.heap.size w (y2.drew.setRow w.heap.size zPk) := bel_row (HB2.out.trans ((show Below y2.heap.size y2 y2.drew from ⟨rfl, rfl, rfl, Nat.le_refl _, fun _ _ => rfl⟩).mono HB2.out.size)) _ _ (Nat.le_refl _)
      refine wpAnyH_ready (rs := [5]) (by kernel_rfl) (by simp) ?_
      refine AllReadyH.one_store (o := ?o65) ?ho65 ?hw65 30 (.tmp 2) (.tmp 65) ?hop65 ?hdst65 w.heap.size zPk ?hx65 ?hy65 30 zPk HZ2.out infoK rfl (by kernel_rfl) HS8 ?h65
      case ho65 => exact rfl
      case hw65 => kernel_rfl
      case hop65 => kernel_rfl
      case hdst65 => kernel_rfl
      case hx65 => kernel_rfl
      case hy65 => kernel_rfl
      case h65 =>
        intro W2 hW2
        have hHeld2 := HS8
        rw [← hW2] at HB8 HR8 hHeld2
        clear hW2 HS8
        refine wpAnyH_take (i := 6) (v := .int .i64 (a2 : Int)) rfl (by kernel_rfl) (by kernel_rfl) (by kernel_rfl) (fun _ _ _ h => h) (Or.inl ⟨by rfl, ?h665⟩) hHeld2 ?r665
        case h665 => intro w' hSw; go_simp; (try with_reducible rfl)
        refine wpAnyH_take (i := 7) (v := .int .i64 75) rfl (by kernel_rfl) (by kernel_rfl) (by kernel_rfl) (fun _ _ _ h => h) (Or.inl ⟨by rfl, ?h765⟩) hHeld2 ?r765
        case h765 => intro w' hSw; go_simp; (try with_reducible rfl)
        refine wpAnyH_done ?hr65 ?hq65 _
        case hr65 => kernel_rfl
        case hq65 =>
          refine q_eq (B := (Act.put (Act.put (Act.put _ (some 69) (.int .i64 (a2 : Int))) (some 3) (.int .i64 (a2 : Int))) (some 4) (.int .i64 75))) (by rfl) ?_
          simp only [Act.put, List.getElem_toArray, List.getElem_cons_succ, List.getElem_cons_zero, List.setIfInBounds_toArray, List.set_cons_zero, List.set_cons_succ]
          go_wp2_with fail
          refine bodyPost_ret (results_row_tmp2 (p := 2) (u := 3) (v := 4) rfl _ _ w.heap.size 30 zPk (0, 0) _ (by kernel_rfl) HR8 Tryd.underlying30 rfl infoK) rfl ⟨.slice none 0 0, ?_, ?_, HB8⟩
          · rw [HF.out.1, HF.out.2.1, HF.out.2.2.1, HF.out.2.2.2]; rfl
          · rw [HF.out.2.2.1]; exact ⟨World.ownsRow_nil _ _ _ _, by simp [PV.zero]⟩
/-- what the document says of any bytes -/
theorem rdec_any (w : World) (v : Value) (l : List Nat) (h : BSl w v l) (hCT : CTab w) (hFT : FTab w) : Calls Tryd.prog 7 #[v] w fun e y => DecO w l e y := by
  obtain ⟨a, cap, rfl, k1, k2, k3, hby, hcc⟩ := id h
  by_cases h0 : 0 < l.length
  · obtain ⟨b, off, rfl, -⟩ := hcc h0
    by_cases hx : 1 ≤ l.getD 0 0 ∧ l.getD 0 0 ≤ 25
    · exact rdec_go w b off cap _ l h h0 rfl hx.1 hx.2 hCT hFT
    · exact rdec_bad w b off cap l h h0 hx
  · obtain rfl : l = [] := List.eq_nil_of_length_eq_zero (by omega)
    exact rdec_nil w a cap
end Go.Proofs.YtcjilmafdpnfeaaDoor
namespace Go.Proofs.YtcjilmafdpnfeaaDoor
open Go.RowKit
open Num
set_option linter.unusedVariables false
set_option linter.unusedSimpArgs false
set_option maxRecDepth 20000

set_option maxHeartbeats 1000000 in
theorem rnum_nil (w : World) (rb : Nat) (sa : Option Addr) (sn sc : Nat) (h : w.heap[rb]? = some (.cells #[.slice none 0 0, .int .i64 0, .bool false] 41 (0, 0))) :
    Calls Tryd.prog 12 #[.pointer (some ⟨rb, 0, none⟩), .int .i64 1, .slice sa sn sc] w fun e y => e = .returned (.int .u64 0) ∧ ∃ k, y = (w.drewN k).setCell ⟨rb, 2, none⟩ (.bool true) := by
  have c0 : w.cell? ⟨rb, 0, none⟩ = some (.slice none 0 0) := by rw [cell_of_row _ _ _ _ _ _ h]; rfl
  have c1 : w.cell? ⟨rb, 1, none⟩ = some (.int .i64 0) := by rw [cell_of_row _ _ _ _ _ _ h]; rfl
  have c2 : w.cell? ⟨rb, 2, none⟩ = some (.bool false) := by rw [cell_of_row _ _ _ _ _ _ h]; rfl
  have f1 := frozen_of_row w rb 1 _ _ h
  have f2 := frozen_of_row w rb 2 _ _ h
  clear h
  go_enter Tryd.func12, Tryd.ntmps12
  go_wp2_with fail
  go_loopw [12] (fun i wr => i = .int .i64 0 ∧ wr = w) (fun _ _ => 0)
  case atStart => exact ⟨rfl, rfl⟩
  case round =>
    obtain ⟨rfl, hwr⟩ := hrel
    subst hwr
    go_wp2_with fail
    go_quiet (fail)
    go_wp2_with fail
    go_ret
    exact ⟨rfl, nq, rfl⟩
set_option maxHeartbeats 4000000 in
/-- what DecodePacket says of no bytes -/
theorem dec_nil (w : World) (hT : BTab w) : Calls Tryd.prog 5 #[.slice none 0 0] w fun e y => DecO w [] e y := by
  have hb0 := (Below.refl w.heap.size w).alloc (Nat.le_refl _) (.cells zPk 30)
  have hb1 := hb0.alloc hb0.size (.cells #[.slice none 0 0, .int .i64 0, .bool false] 41)
  have hb2 := hb1.alloc hb1.size (.cells #[.int .u64 1, .int .u64 25] 44)
  obtain ⟨x2, hx2⟩ : ∃ x, x = ((w.alloc (.cells zPk 30)).alloc (.cells #[.slice none 0 0, .int .i64 0, .bool false] 41)).alloc (.cells #[.int .u64 1, .int .u64 25] 44) := ⟨_, rfl⟩
  have s0 : (w.alloc (.cells zPk 30)).heap.size = w.heap.size + 1 := by simp
  have e1 := Go.heap_alloc_new (w.alloc (.cells zPk 30)) (.cells #[.slice none 0 0, .int .i64 0, .bool false] 41)
  rw [s0] at e1
  have r1 : x2.heap[w.heap.size + 1]? = some (.cells #[.slice none 0 0, .int .i64 0, .bool false] 41 (0, 0)) := by
    rw [hx2]
    exact ((Below.refl _ _).alloc (Nat.le_refl _) _).block _ (by simp) |>.trans e1
  have r0 : x2.heap[w.heap.size]? = some (.cells zPk 30 (0, 0)) := by
    rw [hx2]
    exact ((Below.refl _ _).alloc (Nat.le_refl _) _).block _ (by simp; omega) |>.trans (((Below.refl _ (w.alloc (.cells zPk 30))).alloc (Nat.le_refl _) _).block _ (by simp) |>.trans (Go.heap_alloc_new w _))
  rw [← hx2] at hb2
  have HX := hide hx2
  have HN : Hid (∀ y, y = x2 → Calls Tryd.prog 12 #[.pointer (some ⟨w.heap.size + 1, 0, none⟩), .int .i64 1, .slice (some ⟨w.heap.size + 1 + 1, 0, none⟩) 1 1] y fun e z => e = .returned (.int .u64 0) ∧ ∃ k, z = (x2.drewN k).setCell ⟨w.heap.size + 1, 2, none⟩ (.bool true)) := hide fun y hy => by rw [hy]; exact rnum_nil x2 _ _ _ _ r1
  have HB2 := hide hb2
  have R0 := hide r0
  have R1 := hide r1
  clear hb0 hb1 hb2 e1 r1 r0 hx2 s0 hT
  go_enter Tryd.func5, Tryd.ntmps5
  go_wp2_with fail
  refine (HN.out _ HX.out.symm).mono ?_
  rintro e' x3 ⟨rfl, k, hx3⟩
  have R13 : Hid (x3.heap[w.heap.size + 1]? = some (.cells #[.slice none 0 0, .int .i64 0, .bool true] 41 (0, 0))) := hide (by
    rw [hx3, Go.heap_setCell_same (x2.drewN k) (w.heap.size + 1) 2 _ 41 _ R1.out]; rfl)
  have R03 : Hid (x3.heap[w.heap.size]? = some (.cells zPk 30 (0, 0))) := hide (by
    rw [hx3, Go.heap_setCell_other _ _ _ _ (by show w.heap.size ≠ w.heap.size + 1; omega)]; exact R0.out)
  have HB3 : Hid (Below w.heap.size w x3) := hide (by
    rw [hx3]
    have h2 := HB2.out
    exact ⟨h2.os, h2.tape, h2.output, by rw [World.size_setCell]; exact h2.size, fun j hj => (Go.heap_setCell_other _ _ _ _ (by show j ≠ w.heap.size + 1; omega)).trans (h2.block j hj)⟩)
  clear hx3 HN HX R0 R1 HB2
  have hal := (Below.refl x3.heap.size x3).alloc (Nat.le_refl _) (.cells zParts 49)
  have HCA := hide (carried_any (x3.alloc (.cells zParts 49)) 0 (by decide))
  have HB4 := hide (HB3.out.trans (hal.mono HB3.out.size))
  have R14 := hide ((hal.block _ (Array.getElem?_eq_some_iff.1 R13.out).1).trans R13.out)
  have R04 := hide ((hal.block _ (Array.getElem?_eq_some_iff.1 R03.out).1).trans R03.out)
  clear hal HB3 R13 R03
  go_wp2_with (go_at_call 13; refine HCA.out.mono ?_; rintro e' x5 ⟨fv, rfl, hfl, hb5⟩; have HB5 := hide (HB4.out.trans (hb5.mono HB4.out.size)); have R15 := hide ((hb5.block _ (Array.getElem?_eq_some_iff.1 R14.out).1).trans R14.out); have R05 := hide ((hb5.block _ (Array.getElem?_eq_some_iff.1 R04.out).1).trans R04.out); rw [fldL_fdL 0 (by decide)] at hfl; obtain ⟨aa, hfv⟩ := FL.shape hfl; rw [show (fdL 0).length = 0 from rfl] at hfv; subst hfv; clear hfl hb5 HCA HB4 R14 R04)
  go_loopw [20] (fun i wr => i = .int .i64 0 ∧ wr = x5) (fun _ _ => 0)
  case atStart => exact ⟨rfl, rfl⟩
  case round =>
    obtain ⟨rfl, hwr⟩ := hrel
    have HW := hide hwr
    have HRS := hide (reason_any wr (w.heap.size + 1) none 0 0 0 true (by rw [hwr, cell_of_row _ _ _ _ _ _ R15.out]; rfl) (by rw [hwr, cell_of_row _ _ _ _ _ _ R15.out]; rfl) (by rw [hwr, cell_of_row _ _ _ _ _ _ R15.out]; rfl) (Nat.le_refl _) (by unfold maxLen; omega) (Nat.le_refl _))
    rw [show why 0 0 true = 71 from rfl] at HRS
    rw [← hwr] at HB5 R15 R05
    clear hwr HW
    go_wp2_with (go_at_call 15; refine HRS.out.mono ?_; rintro e' y ⟨rfl, hb6, hh6⟩; have HB6 := hide (HB5.out.trans (hb6.mono HB5.out.size)); have R16 := hide ((hb6.block _ (Array.getElem?_eq_some_iff.1 R15.out).1).trans R15.out); have R06 := hide ((hb6.block _ (Array.getElem?_eq_some_iff.1 R05.out).1).trans R05.out); clear hb6 hh6 HRS HB5 R15 R05)
    have d1 : y.cell? ⟨w.heap.size + 1, 1, none⟩ = some (.int .i64 0) := by rw [cell_of_row _ _ _ _ _ _ R16.out]; rfl
    refine wp_region_held_drew (S := fun z => z.cell? ⟨w.heap.size + 1, 1, none⟩ = some (.int .i64 0)) (by kernel_rfl) d1 (fun hHeld => ?_)
    refine wpAnyH_take (i := 0) (v := .agg zPk) rfl (by kernel_rfl) (by kernel_rfl) (by kernel_rfl) (fun _ _ _ h => h) ?hy0 hHeld ?_
    case hy0 =>
      refine yieldsIf_build ?hya 30 _ rfl zPk ?hyd
      case hya => kernel_rfl
      case hyd => kernel_rfl
    (try simp only [Act.put, List.getElem_toArray, List.getElem_cons_succ, List.getElem_cons_zero, List.setIfInBounds_toArray, List.set_cons_zero, List.set_cons_succ])
    refine wpAnyH_take (i := 1) (v := ?v1) rfl (by kernel_rfl) (by kernel_rfl) (by kernel_rfl) (fun _ _ _ h => h) (Or.inl ⟨by rfl, ?h1⟩) hHeld ?r1
    case h1 => intro w' hSw; go_simp; (try with_reducible rfl)
    (try simp only [Act.put, List.getElem_toArray, List.getElem_cons_succ, List.getElem_cons_zero, List.setIfInBounds_toArray, List.set_cons_zero, List.set_cons_succ])
    refine wpAnyH_take (i := 2) (v := ?v2) rfl (by kernel_rfl) (by kernel_rfl) (by kernel_rfl) (fun _ _ _ h => h) (Or.inl ⟨by rfl, ?h2⟩) hHeld ?r2
    case h2 => intro w' hSw; go_simp; (try with_reducible rfl)
    (try simp only [Act.put, List.getElem_toArray, List.getElem_cons_succ, List.getElem_cons_zero, List.setIfInBounds_toArray, List.set_cons_zero, List.set_cons_succ])
    refine wpAnyH_take (i := 3) (v := .int .i64 71) rfl (by kernel_rfl) (by kernel_rfl) (by kernel_rfl) (fun _ _ _ h => h) (Or.inl ⟨by rfl, ?h3⟩) hHeld ?r3
    case h3 => intro w' hSw; go_simp; (try with_reducible rfl)
    have HS8 : (y.drew.setRow w.heap.size zPk).cell? ⟨w.heap.size + 1, 1, none⟩ = some (.int .i64 0) := by
      rw [World.cell?_of_block (show (y.drew.setRow w.heap.size zPk).heap[w.heap.size + 1]? = y.heap[w.heap.size + 1]? from setRow_other _ _ _ _ (by omega))]; exact d1
    have HR8 : (y.drew.setRow w.heap.size zPk).heap[w.heap.size]? = some (.cells zPk 30 (0, 0)) := setRow_heap _ _ zPk _ 30 _ R06.out
    have HB8 : Below w.heap.size w (y.drew.setRow w.heap.size zPk) := bel_row (HB6.out.trans ((show Below y.heap.size y y.drew from ⟨rfl, rfl, rfl, Nat.le_refl _, fun _ _ => rfl⟩).mono HB6.out.size)) _ _ (Nat.le_refl _)
    refine wpAnyH_ready (rs := [4]) (by kernel_rfl) (by simp) ?_
    refine AllReadyH.one_store (o := ?o) ?ho ?hw 30 (.tmp 2) (.tmp 30) ?hop ?hdst w.heap.size zPk ?hx ?hy 30 zPk R06.out infoK rfl (by kernel_rfl) HS8 ?h
    case ho => exact rfl
    case hw => kernel_rfl
    case hop => kernel_rfl
    case hdst => kernel_rfl
    case hx => kernel_rfl
    case hy => kernel_rfl
    case h =>
      intro W2 hW2
      have hHeld2 := HS8
      rw [← hW2] at HB8 HR8 hHeld2
      clear hW2 HS8
      refine wpAnyH_take (i := 5) (v := .int .i64 0) rfl (by kernel_rfl) (by kernel_rfl) (by kernel_rfl) (fun _ _ _ h => h) (Or.inl ⟨by rfl, ?h5⟩) hHeld2 ?r5
      case h5 => intro w' hSw; go_simp; (try with_reducible rfl)
      refine wpAnyH_take (i := 6) (v := .int .i64 71) rfl (by kernel_rfl) (by kernel_rfl) (by kernel_rfl) (fun _ _ _ h => h) (Or.inl ⟨by rfl, ?h6⟩) hHeld2 ?r6
      case h6 => intro w' hSw; go_simp; (try with_reducible rfl)
      refine wpAnyH_done ?hr ?hq _
      case hr => kernel_rfl
      case hq =>
        refine q_eq (B := (Act.put (Act.put (Act.put _ (some 33) (.int .i64 71)) (some 3) (.int .i64 0)) (some 4) (.int .i64 71))) (by rfl) ?_
        simp only [Act.put, List.getElem_toArray, List.getElem_cons_succ, List.getElem_cons_zero, List.setIfInBounds_toArray, List.set_cons_zero, List.set_cons_succ]
        go_wp2_with fail
        refine bodyPost_ret (results_row_tmp2 (p := 2) (u := 3) (v := 4) rfl _ _ w.heap.size 30 zPk (0, 0) _ (by kernel_rfl) HR8 Tryd.underlying30 rfl infoK) rfl ⟨.slice none 0 0, ?_, ?_, HB8⟩
        · rw [why_nil.1, why_nil.2.1, why_nil.2.2, dPv_nilQ]; rfl
        · rw [dPv_nilQ]; exact ⟨World.ownsRow_nil _ _ _ _, by simp [PV.zero]⟩
end Go.Proofs.YtcjilmafdpnfeaaDoor
namespace Go.Proofs.YtcjilmafdpnfeaaDoor
open Go.RowKit
open Num
set_option linter.unusedVariables false
set_option linter.unusedSimpArgs false
set_option maxRecDepth 20000

theorem Own.sl {w : World} {base : Nat} {v : Value} {l : List Nat} (h : Own w base v l) : ∃ a c, v = .slice a l.length c := by
  rcases h.1.2 with ⟨rfl, h0⟩ | ⟨g, cap, cur, rfl, h1, hg, r⟩
  · exact ⟨none, 0, by rw [h0]⟩
  · exact ⟨_, cap, rfl⟩
theorem dPv_ok {l : List Nat} (hb : ∀ x ∈ l, x < 256) : (dPv l).Ok := by
  by_cases h : dErr l = 0
  · exact (packet_only hb h).2.2.1
  · unfold dPv; rw [if_neg h]; exact PV.zero_ok
/-- what is handed in is read as its bytes say -/
theorem given_dec (g cap n : Nat) (base : Nat) (v : Value) (l m : List Nat) (w : World) (h : BSl w v l) (hn : n = (l ++ m).length) (ho : Own w base (.slice (some ⟨g, 0, none⟩) n cap) (l ++ m)) (hg : g < w.heap.size) (hT : BTab w) :
    Calls Tryd.prog 6 #[.slice (some ⟨g, 0, none⟩) n cap, v] w fun e w' => ∃ ao co, e = .returned (.slice ao l.length co) ∧ w' = w ∧ Calls Tryd.prog 5 #[.slice ao l.length co] w fun e y => DecO w l e y := by
  subst hn
  have hs : (l ++ m).length ≤ cap ∧ cap ≤ maxLen := by
    rcases ho.1.2 with ⟨h0, _⟩ | ⟨g', cap', cur, h0, hb, hg, hn, hmm, _⟩
    · simp at h0
    · simp only [Value.slice.injEq, Option.some.injEq, Addr.mk.injEq, and_true, true_and] at h0
      obtain ⟨rfl, rfl⟩ := h0
      exact ⟨hn, hmm⟩
  have hle : l.length ≤ (l ++ m).length := by simp
  refine (given_any g cap _ v l w h hle hs.1 hs.2).mono ?_
  rintro e w' ⟨⟨rfl, rfl⟩ | rfl, rfl⟩
  · exact ⟨none, 0, rfl, rfl, dec_nil _ hT⟩
  · refine ⟨_, _, rfl, rfl, ?_⟩
    have := ho.part l.length hle
    rw [List.take_left] at this
    obtain ⟨a, c, e, h1, h2, h3, h4, h5⟩ := this
    simp only [Value.slice.injEq] at e
    obtain ⟨rfl, _, rfl⟩ := e
    refine decO_full _ g 0 cap l hg h1 h2 h4 (fun i hi => ?_) hT
    obtain ⟨b, off, e, hc⟩ := h5 (by omega)
    simp only [Option.some.injEq, Addr.mk.injEq] at e
    obtain ⟨rfl, rfl, _⟩ := e
    exact hc i hi

set_option maxHeartbeats 4000000 in
theorem parse_law (w : World) (v : Value) (l : List Nat) (hBT : BTab w) (hCT : CTab w) (hFT : FTab w) (h : BSl w v l) (hl : l.length ≤ 140737488351232) :
    Calls Tryd.prog 3 #[v] w fun e w' => e = .returned (.bool true) ∧ Below w.heap.size w w' := by
  have hok := dPv_ok h.bytes
  have HP := hide h
  obtain ⟨pa, pcap, rfl, hl1, hl2, hl3, _, _⟩ := id h
  unfold maxLen at hl2
  have HRM := hide (roomy_any _ l w h (by omega))
  have hlen : l.length + 40 = (l ++ marks 40).length := by simp [marks_len]
  have HLEN := hide hlen
  have HT := hide hBT
  have HUT := hide fun (x : World) (g cap base : Nat) (h : BSl x (.slice pa l.length pcap) l) (ho : Own x base (.slice (some ⟨g, 0, none⟩) (l.length + 40) cap) (l ++ marks 40)) => untouched_any g cap _ l x base h (by omega) (by rw [← HLEN.out]; exact ho)
  have HRD := hide fun (y : World) (hy : Below w.heap.size w y) => rdec_any y _ l (h.below hy) (hCT.below hy) (hFT.below hy)
  have HGD := hide fun (g cap : Nat) (x : World) (hB : Below w.heap.size w x) (ho : Own x w.heap.size (.slice (some ⟨g, 0, none⟩) (l.length + 40) cap) (l ++ marks 40)) (hg : g < x.heap.size) => given_dec g cap (l.length + 40) w.heap.size _ l (marks 40) x (HP.out.below hB) HLEN.out ho hg (HT.out.below hB)
  have HPC := hide fun (a : Option Addr) (n c : Nat) => pc_of (dC l : Nat) hok.n (.slice a n c) rfl
  have HSP := hide fun y v1 v2 (h1 : BSl y v1 (dPv l).dl) (h2 : BSl y v2 (dPv l).dl) => samePacket_eq y (dC l : Nat) (dPv l) (dPv l) v1 v2 hok h1 h2 rfl rfl
  unfold DecO at HRD HGD
  unfold pkV at HRD HSP HGD
  generalize (dPv l) = pv at *
  generalize dC l = cl at *
  generalize dAt l = al at *
  generalize dErr l = el at *
  clear h hl3 hlen hBT hCT hFT hok
  rename_i dead1 dead2
  clear dead1 dead2
  go_enter Tryd.func3, Tryd.ntmps3
  go_wp2_with (first
    | (go_at_call 4; refine HRM.out.mono ?_; rintro e x1 ⟨vd, rfl, od, bd⟩; clear HRM
       obtain ⟨g, cap, rfl, hg, _, _, _⟩ := od.shape (by simp [marks_len])
       have HOD : Hid (Own x1 w.heap.size (.slice (some ⟨g, 0, none⟩) (l.length + 40) cap) (l ++ marks 40)) := hide (by rw [HLEN.out]; exact od)
       have HB1 := hide bd
       have HG1 := hide (show g < x1.heap.size by rcases od.1.lt g rfl with ⟨_, h⟩; exact h)
       clear od bd
       rw [← HLEN.out]
       have HGI := hide (HGD.out g cap x1 HB1.out HOD.out HG1.out)
       clear HGD)
    | (go_at_call 6; refine HGI.out.mono ?_; rintro e x ⟨ao, co, rfl, hw, hvo⟩; rw [hw]; clear hw HGI
       have HDE := hide hvo
       clear hvo)
    | (go_at_call 5; refine HDE.out.mono ?_; rintro e x2 ⟨v1, rfl, o1, b1⟩; clear HDE
       obtain ⟨a1, c1, rfl⟩ := o1.sl
       have PC1 := hide (HPC.out a1 pv.dl.length c1)
       have HS1 := hide fun y v2 h1 h2 => HSP.out y (.slice a1 pv.dl.length c1) v2 h1 h2
       generalize hcp : (.int .i64 (cl : Int) :: pv.row (.slice a1 pv.dl.length c1) : List Value).toArray = CS1 at *
       have ha := (Below.refl x2.heap.size x2).alloc (Nat.le_refl _) (.cells CS1 30)
       have HB12 := hide (b1.trans (ha.mono b1.size))
       have HB2 := hide (HB1.out.trans (HB12.out.mono HB1.out.size))
       have HO1 := hide (o1.kept ha)
       have HN1 := hide (Go.heap_alloc_new x2 (.cells CS1 30))
       have HS12 := hide b1.size
       have HZ2 : Hid ((x2.alloc (.cells CS1 30)).heap.size = x2.heap.size + 1) := hide (by simp)
       have HR := hide (HRD.out _ HB2.out)
       clear hcp ha b1 o1 HRD HSP)
    | (refine wpList_store_row rfl 30 (.tmp 4) (.tmp 17) rfl x2.heap.size CS1 (by first | rfl | simp [Act.eval, Act.put]) (by first | rfl | simp [Act.eval, Act.put]) 30 zPk (Go.heap_alloc_new x2 _) PC1.out.i PC1.out.z PC1.out.o ?_; rw [World.setRow_alloc_new])
    | (go_at_call 7; refine HR.out.mono ?_; rintro e x3 ⟨v2, rfl, o2, b2⟩; clear HR
       obtain ⟨a2, c2, rfl⟩ := o2.sl
       have PC2 := hide (HPC.out a2 pv.dl.length c2)
       have HS2 := hide fun y h1 h2 => HS1.out y (.slice a2 pv.dl.length c2) h1 h2
       generalize hcp : (.int .i64 (cl : Int) :: pv.row (.slice a2 pv.dl.length c2) : List Value).toArray = CS2 at *
       have ha := (Below.refl x3.heap.size x3).alloc (Nat.le_refl _) (.cells CS2 30)
       have HB23 := hide (b2.trans (ha.mono b2.size))
       have HB13 := hide (HB12.out.trans (HB23.out.mono HB12.out.size))
       have HB3 := hide (HB1.out.trans (HB13.out.mono HB1.out.size))
       have HO2 := hide (o2.kept ha)
       have HO13 := hide (HO1.out.kept HB23.out)
       have HOD3 := hide (HOD.out.kept HB13.out)
       have HN2 := hide (Go.heap_alloc_new x3 (.cells CS2 30))
       have HN13 := hide ((HB23.out.block _ (by have := HZ2.out; omega)).trans HN1.out)
       have HS23 := hide b2.size
       have HU := hide (HUT.out _ g cap w.heap.size (HP.out.below HB3.out) HOD3.out)
       clear hcp ha b2 o2 HS1 HN1 HUT HOD HO1)
    | (refine wpList_store_row rfl 30 (.tmp 7) (.tmp 23) rfl x3.heap.size CS2 (by first | rfl | simp [Act.eval, Act.put]) (by first | rfl | simp [Act.eval, Act.put]) 30 zPk (Go.heap_alloc_new x3 _) PC2.out.i PC2.out.z PC2.out.o ?_; rw [World.setRow_alloc_new])
    | (go_at_call 8; refine (num_any _ _).mono ?_; rintro e x ⟨rfl, hw⟩; rw [hw]; clear hw)
    | (go_at_call 9; refine HU.out.mono ?_; rintro e y ⟨rfl, n, hw⟩; rw [hw]; clear hw HU)
    | (go_at_call 10; refine (spoil_own _ w.heap.size _ (l ++ marks 40) (by rw [← HLEN.out]; omega) (show Own ((x3.alloc (.cells CS2 30)).drewN n) _ _ _ from HOD3.out)).mono ?_; rintro e x5 ⟨rfl, b5, s5, ho⟩
       have HNE : Hid (∀ j, j ≠ g → x5.heap[j]? = (x3.alloc (.cells CS2 30)).heap[j]?) := hide fun j hj => ho j (by simp only [Value.ownBlock, ne_eq, Option.some.injEq]; intro e; exact hj e.symm)
       have HT1 : Hid (x5.heap[x2.heap.size]? = some (.cells CS1 30 (0, 0))) := hide (by rw [HNE.out _ (by have := HG1.out; have := HS12.out; omega)]; exact HN13.out)
       have HT2 : Hid (x5.heap[x3.heap.size]? = some (.cells CS2 30 (0, 0))) := hide (by rw [HNE.out _ (by have := HG1.out; have := HS12.out; have := HS23.out; have := HZ2.out; omega)]; exact HN2.out)
       have HV1 := hide (HO13.out.keptIf (w' := x5) fun j hj => HNE.out j (by have := (HO13.out.1.lt j hj).1; have := HG1.out; omega))
       have HV2 := hide (HO2.out.keptIf (w' := x5) fun j hj => HNE.out j (by have h1 := (HO2.out.1.lt j hj).1; have := HG1.out; have := HS12.out; rw [HZ2.out] at h1; omega))
       have HBX5 := hide (HB3.out.trans ((show Below w.heap.size (x3.alloc (.cells CS2 30)) ((x3.alloc (.cells CS2 30)).drewN n) from ⟨rfl, rfl, rfl, Nat.le_refl _, fun _ _ => rfl⟩).trans b5))
       have HSF := hide (HS2.out x5 HV1.out.bsl HV2.out.bsl)
       clear b5 s5 ho HS2)
    | (refine wpList_load_rowW (by kernel_rfl) 30 (.tmp 4) rfl x2.heap.size (by first | rfl | simp [Act.eval, Act.put]) 30 CS1 (0, 0) _ HT1.out Tryd.underlying30 rfl PC1.out.i ?_)
    | (refine wpList_load_rowW (by kernel_rfl) 30 (.tmp 7) rfl x3.heap.size (by first | rfl | simp [Act.eval, Act.put]) 30 CS2 (0, 0) _ HT2.out Tryd.underlying30 rfl PC2.out.i ?_)
    | (go_at_call 11; refine HSF.out.mono ?_; rintro e x6 ⟨rfl, b6⟩; have HBF := hide (HBX5.out.trans (b6.mono HBX5.out.size)); clear b6 HSF))
  go_ret
  exact ⟨rfl, HBF.out⟩
end Go.Proofs.YtcjilmafdpnfeaaDoor
namespace Go.Proofs.YtcjilmafdpnfeaaDoor
open Go.ChangeShapes Go.WideShapes Go.ChangeAt Go.RowKit
set_option linter.unusedVariables false
set_option linter.unusedSimpArgs false
set_option maxRecDepth 20000

theorem gC : Tryd.prog.globalNamed "replica/replicaref07.carries" = some 2 := by kernel_rfl
theorem gCty : (Tryd.prog.globals[2]?).map (·.type) = some 91 := by kernel_rfl
theorem gV : Tryd.prog.globalNamed "replica/replicaref07.five" = some 1 := by kernel_rfl
theorem gVty : (Tryd.prog.globals[1]?).map (·.type) = some 79 := by kernel_rfl
theorem cellsCar : Tryd.prog.cellsOf 91 = 26 := by kernel_rfl
theorem cellsFive : Tryd.prog.cellsOf 79 = 5 := by kernel_rfl
namespace wireParse
def listed : List (String × DataW Unit) := [("replica/replicaref07.carries", Rows.laid_replica_replicaref07_carries), ("replica/replicaref07.five", Rows.laid_replica_replicaref07_five), ("replica/wire.bounds", Rows.laid_replica_wire_bounds)]
def carZ : List Int := carL.map fun (x : Nat) => (x : Int)
def fiveZ : List Int := [1, 2, 4, 8, 16]
theorem stabs_of_laid {W : World} (h : laidMetH Tryd.prog listed W) : BTab W ∧ CTab W ∧ FTab W := by
  have h' : laidMet Tryd.prog [("replica/replicaref07.carries", (Lib.tabData .i64 carZ : DataW Unit)), ("replica/replicaref07.five", (Lib.tabData .i64 fiveZ : DataW Unit)), ("replica/wire.bounds", (.agg (bndL.map recD) : DataW Unit))] W := h
  obtain ⟨ps, ⟨g', t', cs, fuel, p, q, hg', ht', hvar, hd, ⟨g2, t2, cs2, fuel2, p2, q2, hg2, ht2, hvar2, hd2, ⟨g3, t3, cs3, fuel3, p3, q3, hg3, ht3, hvar3, hd3, _⟩, _⟩, _⟩, _⟩ := h'
  obtain rfl := Option.some.inj (gC.symm.trans hg')
  obtain rfl := Option.some.inj (gCty.symm.trans ht')
  obtain rfl := Option.some.inj (gV.symm.trans hg2)
  obtain rfl := Option.some.inj (gVty.symm.trans ht2)
  obtain rfl := Option.some.inj (gB.symm.trans hg3)
  obtain rfl := Option.some.inj (gBty.symm.trans ht3)
  refine ⟨?_, ?_, ?_⟩
  · have hc := cells_of_recs rfl hd3
    intro n hn
    obtain ⟨c0, c1, c2⟩ := hc n hn
    have k := fun j => World.var?_cell gB hvar3 j
    exact ⟨by rw [k, List.getElem?_toArray]; exact c0, by rw [k, List.getElem?_toArray]; exact c1, by rw [k, List.getElem?_toArray]; exact c2⟩
  · have hc := Lib.cells_of_tab Tryd.underlying91 Tryd.underlying3 cellsI cellsCar hd
    intro n hn
    have k := World.var?_cell gC hvar n
    rw [k, ← Array.getElem?_toList, hc]
    have hl : n < carL.length := hn
    simp [carZ, car, List.getD, hl]
  · have hc := Lib.cells_of_tab Tryd.underlying79 Tryd.underlying3 cellsI cellsFive hd2
    intro n hn
    have k := World.var?_cell gV hvar2 n
    rw [k, ← Array.getElem?_toList, hc]
    rcases (show n = 0 ∨ n = 1 ∨ n = 2 ∨ n = 3 ∨ n = 4 by omega) with rfl | rfl | rfl | rfl | rfl <;> rfl
def laidIn (w : World) : World := { w with heap := ((w.heap.modify 0 (relay (bndL.flatMap fun z => [.int .i64 (z.1 : Int), .int .u64 (z.2.1 : Int), .int .u64 (z.2.2 : Int)]))).modify 2 (relay (carZ.map fun z => .int .i64 z))).modify 1 (relay (fiveZ.map fun z => .int .i64 z)) }
end wireParse
end Go.Proofs.YtcjilmafdpnfeaaDoor
