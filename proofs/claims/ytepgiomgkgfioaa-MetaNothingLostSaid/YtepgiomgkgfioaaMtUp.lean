import Derived.Test.YtepgiomgkgfioaaMtWa
namespace Go.Proofs.Ytepgiomgkgfioaa
open Go.RowKit
open Num
set_option linter.unusedVariables false
set_option linter.unusedSimpArgs false
set_option maxRecDepth 20000

def u64v (x : Nat) : Value := .int .u64 (x : Int)
/-- a row of words -/
def WRow (w : World) (U : Nat) (ws : List Nat) : Prop := w.heap[U]? = some (.cells (ws.map u64v).toArray 57 (0, 0))
theorem Try.infoU6 : (Try.prog.info? 57).map (fun i => (i.zero, i.size, i.bytes)) = some (some (.int .u64 0), 1, 8) := by kernel_rfl
theorem made_words (n : Nat) (hn : n ≤ 8388608) (w : World) : (Instr.makeSlice 31 (.int .i64 (n : Int)) (.int .i64 (n : Int))).run Try.prog w = .ok (.slice (some ⟨w.heap.size, 0, none⟩) n n) (w.alloc (.cells (Array.replicate n (u64v 0)) 57)) := by
  obtain ⟨i0, hi, hz0, hz1, hz2⟩ := info_parts Try.infoU6
  have hr := run_make (P := Try.prog) w 31 57 i0 (.int .u64 0) Try.underlying31 hi hz0 .i64 .i64 (n : Int) (n : Int) (by omega) (by omega) (by rw [hz2]; omega) (by omega)
  simp only [Int.toNat_natCast] at hr
  rw [hz1] at hr
  rw [hr]
  congr 3
  apply Array.ext'
  apply List.ext_getElem?
  intro i
  by_cases h : i < n
  · simp [madeCells, u64v, Value.cells, h, Nat.mod_one]
  · simp [madeCells, u64v, Value.cells, h, Nat.mod_one]
theorem WRow.set {w : World} {U i x : Nat} {ws : List Nat} (h : WRow w U ws) : WRow (w.setCell ⟨U, i, none⟩ (.int .u64 (x : Int))) U (ws.set i x) := by
  unfold WRow
  rw [Go.heap_setCell_same _ U i _ 57 _ h, List.setIfInBounds_toArray, ← show u64v x = .int .u64 (x : Int) from rfl, ← List.map_set]
theorem WRow.cell {w : World} {U i : Nat} {ws : List Nat} (h : WRow w U ws) (hi : i < ws.length) : w.cell? ⟨U, i, none⟩ = some (.int .u64 (ws.getD i 0 : Nat)) ∧ w.frozen? ⟨U, i, none⟩ = false := by
  refine ⟨?_, frozen_of_row _ _ _ _ 57 h⟩
  rw [cell_of_row _ _ _ _ _ _ h]
  simp [List.getD, hi, u64v]
theorem fill_set {ws : List Nat} {i : Nat} (hi : i < ws.length) : (ws.take i ++ List.replicate (ws.length - i) 0).set i (ws.getD i 0) = ws.take (i + 1) ++ List.replicate (ws.length - (i + 1)) 0 := by
  have e2 : ws.length - i = (ws.length - (i + 1)) + 1 := by omega
  rw [List.set_append_right _ _ (by simp; omega), List.length_take, Nat.min_eq_left (by omega), Nat.sub_self, e2, List.replicate_succ, List.set_cons_zero, List.take_add_one, List.append_assoc]
  simp [List.getD, hi]
set_option maxHeartbeats 4000000 in
theorem unpack_ok (w : World) (O n s : Nat) (B : Nat → List Nat) (ws : List Nat) (hP : PB w O ((n - 1) / (8 * s) + 1) s B) (hs : okSz (s : Int) = true) (h1 : 1 ≤ n) (h2 : n ≤ 65536) (hl : ws.length = (n + 63) / 64) (hBl : ∀ k, k < (n - 1) / (8 * s) + 1 → (B k).length = s ∧ ∀ x ∈ B k, x < 256)
    (hw : ∀ i, i < (n + 63) / 64 → lev ((B (i * 8 / s)).drop (i * 8 % s)) 8 = ws.getD i 0) (hlast : bits BinOp.and IntKind.u64 (ws.getD ((n + 63) / 64 - 1) 0 : Nat) (lm n : Nat) = (ws.getD ((n + 63) / 64 - 1) 0 : Nat)) :
    Calls Try.prog 14 #[.int .i64 (n : Int), .slice (some ⟨O, 0, none⟩) ((n - 1) / (8 * s) + 1) ((n - 1) / (8 * s) + 1), .int .i64 (s : Int)] w fun e w' => ∃ U, e = .returned (.tuple #[.slice (some ⟨U, 0, none⟩) ((n + 63) / 64) ((n + 63) / 64), .bool false, .int .i64 0]) ∧ WRow w' U ws ∧ w.heap.size ≤ U ∧ Below w.heap.size w w' := by
  have hp : s = 128 ∨ s = 256 ∨ s = 512 ∨ s = 1024 := by
    unfold okSz at hs
    simp at hs
    omega
  have hs1 : 1 ≤ s ∧ s ≤ 1024 := by omega
  have HVB := hide fun x => validBits_any x (n : Int)
  rw [decide_eq_true (by omega), decide_eq_true (by omega)] at HVB
  have HVS := hide fun x => validSize_any x (s : Int)
  rw [hs] at HVS
  have HWC := hide fun x => wordCount_any x n h2
  have HLM := hide fun x => lastMask_any x n h2
  have HAB := hide fun x => areaBlocks_any x (n : Int) (s : Int) hs (by omega) (by omega)
  have hab : areaB (n : Int) (s : Int) = (((n - 1) / (8 * s) + 1 : Nat) : Int) := by
    unfold areaB
    rw [Int.natCast_add, Int.natCast_ediv, Int.natCast_mul]
    congr 2
    omega
  rw [hab] at HAB
  have HWP := hide fun x i (hi : i ≤ 65536) => wordPlace_any x i s hs1.1 hs1.2 hi
  have HIN := hide fun i hi => word_in (i := i) hs h1 hi
  have hmb : (n - 1) / (8 * s) + 1 ≤ 65537 := by
    have := Nat.div_le_self (n - 1) (8 * s)
    omega
  generalize (n - 1) / (8 * s) + 1 = m at *
  have hLb : 1 ≤ (n + 63) / 64 ∧ (n + 63) / 64 ≤ 1024 := by omega
  generalize (n + 63) / 64 = L at *
  have hmk := made_words L (by omega)
  have HP := hide hP
  have HBL := hide hBl
  have HW := hide hw
  have HL := hide hl
  have HLA := hide hlast
  have HOlt : Hid (O + 1 + m ≤ w.heap.size ∧ O < w.heap.size) := hide ⟨by
    by_cases h0 : m = 0
    · subst h0; have := (Array.getElem?_eq_some_iff.1 hP.row).1; omega
    · have := (Array.getElem?_eq_some_iff.1 (hP.blk (m - 1) (by omega))).1; omega, (Array.getElem?_eq_some_iff.1 hP.row).1⟩
  clear hs hab hP hBl hw hlast hl
  go_enter Try.func14, Try.ntmps14
  go_wp2_with (first
    | (go_at_call 22; refine (HVB.out _).mono ?_; rintro e w1 ⟨rfl, hw1⟩; have hws := hw1.symm; clear hw1; subst hws)
    | (go_at_call 23; refine (HVS.out _).mono ?_; rintro e w1 ⟨rfl, hw1⟩; have hws := hw1.symm; clear hw1; subst hws)
    | (go_at_call 26; refine (HAB.out _).mono ?_; rintro e w1 ⟨rfl, hw1⟩; have hws := hw1.symm; clear hw1; subst hws))
  clear HVB HVS HAB
  go_loopw [9, 32] (fun x i wr => ∃ j : Nat, j ≤ m ∧ i = .int .i64 (j : Int) ∧ x = .bool false ∧ wr = w) (fun _ i _ => m - (intOf i).toNat)
  case atStart => exact ⟨0, Nat.zero_le _, rfl, rfl, rfl⟩
  case round =>
    obtain ⟨j, hj, rfl, rfl, hwr⟩ := hrel
    have hwrs := hwr.symm
    clear hwr
    subst hwrs
    by_cases hlt : j < m
    · have c0 : w.cell? ⟨O, j, none⟩ = some (.slice (some ⟨O + 1 + j, 0, none⟩) s s) := by
        rw [cell_of_row _ _ _ _ _ _ HP.out.row]
        simp [hlt]
      have e1 : ((s : Int) == 0) = false := by simp; omega
      have e2 : ((s : Int) != 0) = true := by simp; omega
      have e3 : ((s : Int) != (s : Int)) = false := by simp
      go_wp2_with fail
      go_roundw
      case rel => exact ⟨j + 1, by omega, by go_num, rfl, by first | rfl | trivial⟩
      case measure => simp [intOf]; omega
    · obtain rfl : j = m := by omega
      go_wp2_with (first
        | (go_at_call 24; refine (HWC.out _).mono ?_; rintro e w1 ⟨rfl, hw1⟩; have hws := hw1.symm; clear hw1; subst hws))
      have HR0 : Hid (WRow (w.alloc (.cells (Array.replicate L (u64v 0)) 57)) w.heap.size (ws.take 0 ++ List.replicate (L - 0) 0)) := hide (by unfold WRow; rw [Go.heap_alloc_new]; simp)
      have HB0 : Hid (Below w.heap.size w (w.alloc (.cells (Array.replicate L (u64v 0)) 57))) := hide ((Below.refl _ _).alloc (Nat.le_refl _) _)
      clear hmk HWC
      generalize w.alloc (.cells (Array.replicate L (u64v 0)) 57) = w2 at *
      go_loopw [57] (fun x wr => ∃ i : Nat, i ≤ L ∧ x = .int .i64 (i : Int) ∧ WRow wr w.heap.size (ws.take i ++ List.replicate (L - i) 0) ∧ Below w.heap.size w wr) (fun x _ => L - (intOf x).toNat)
      case atStart => exact ⟨0, Nat.zero_le _, rfl, HR0.out, HB0.out⟩
      case round =>
        clear HR0 HB0
        obtain ⟨i, hi, rfl, hR, hB⟩ := hrel
        have HR := hide hR
        have HB := hide hB
        by_cases hlt2 : i < L
        · obtain ⟨hK, hA, hKA⟩ := HIN.out i hlt2
          have HWQ := hide fun x => HWP.out x i (by omega)
          have HPw : Hid (PB wr O j s B) := hide (HP.out.kept fun b h1 h2 => hB.block b (by have := HOlt.out.1; omega))
          have HWA := hide fun (q : Nat) => wordAt_any (wr.drewN q) (O + 1 + i * 8 / s) s (i * 8 % s) (B (i * 8 / s)) (HPw.out.blk _ hK) (HBL.out _ hK).1 (HBL.out _ hK).2 hA hs1.2
          rw [HW.out i hlt2] at HWA
          obtain ⟨c1, f1⟩ := hR.cell (i := i) (by simp; rw [HL.out]; omega)
          have c0 : wr.cell? ⟨O, i * 8 / s, none⟩ = some (.slice (some ⟨O + 1 + i * 8 / s, 0, none⟩) s s) := by
            rw [cell_of_row _ _ _ _ _ _ HPw.out.row]
            simp [hK]
          have HST : Hid ((ws.take i ++ List.replicate (L - i) 0).set i (ws.getD i 0) = ws.take (i + 1) ++ List.replicate (L - (i + 1)) 0) := hide (by have := fill_set (ws := ws) (i := i) (by rw [HL.out]; exact hlt2); rw [HL.out] at this; exact this)
          clear hR hB HWP HIN HPw
          generalize (ws.take i ++ List.replicate (L - i) 0).getD i 0 = y0 at *
          generalize i * 8 / s = K at *
          generalize i * 8 % s = A at *
          generalize ws.getD i 0 = wd at *
          go_wp2_with (first
            | (go_at_call 27; refine (HWQ.out _).mono ?_; rintro e w3 ⟨rfl, m3, h3⟩; subst h3)
            | (go_at_call 38; refine (HWA.out _).mono ?_; rintro e w4 ⟨rfl, m4, h4⟩; subst h4))
          go_roundw
          case rel =>
            have hr : WRow (wr.setCell ⟨w.heap.size, i, none⟩ (.int .u64 (wd : Int))) w.heap.size (ws.take (i + 1) ++ List.replicate (L - (i + 1)) 0) := by rw [← HST.out]; exact HR.out.set
            have hb := HB.out.setCell (p := ⟨w.heap.size, i, none⟩) (Nat.le_refl _) (.int .u64 (wd : Int))
            exact ⟨i + 1, by omega, by go_num, hr, ⟨hb.os, hb.tape, hb.output, hb.size, hb.block⟩⟩
          case measure => simp [intOf]; omega
        · obtain rfl : i = L := by omega
          rw [List.take_of_length_le (by rw [HL.out]; exact Nat.le_refl _), Nat.sub_self, List.replicate_zero, List.append_nil] at HR
          obtain ⟨L', rfl⟩ : ∃ L', i = L' + 1 := ⟨i - 1, by omega⟩
          obtain ⟨c1, f1⟩ := HR.out.cell (i := L') (by rw [HL.out]; omega)
          rw [Nat.add_sub_cancel] at HLA
          have HRS : Hid (WRow (wr.setCell ⟨w.heap.size, L', none⟩ (.int .u64 (ws.getD L' 0 : Nat))) w.heap.size ws) := hide (by
            have h := HR.out.set (i := L') (x := ws.getD L' 0)
            rw [show ws.set L' (ws.getD L' 0) = ws by
              refine List.ext_getElem (by simp) fun k h1 h2 => ?_
              rw [List.getElem_set]
              split
              · rename_i e; subst e; simp [List.getD, h2]
              · rfl] at h
            exact h)
          have HBS := hide (HB.out.setCell (p := ⟨w.heap.size, L', none⟩) (Nat.le_refl _) (.int .u64 (ws.getD L' 0 : Nat)))
          have hla := HLA.out
          generalize ws.getD L' 0 = wd at *
          clear hR hB HW HBL HP HIN HWP
          have hli : ((L' : Int) + 1 - 1) = (L' : Int) := by omega
          have hwl : IntKind.i64.wrap ((L' : Int) + 1 - 1) = (L' : Int) := by rw [hli]; simp [IntKind.wrap, IntKind.bits, IntKind.signed]; omega
          have hwl2 : IntKind.i64.wrap (L' : Int) = (L' : Int) := by simp [IntKind.wrap, IntKind.bits, IntKind.signed]; omega
          have hb1 : (0 : Int) ≤ (L' : Int) := by omega
          have hb2 : (L' : Int) < (L' : Int) + 1 := by omega
          go_wp2_with fail
          refine wp_still_tail 10 (by kernel_rfl) (by kernel_rfl) ?_
          simp only [List.take_succ_cons, List.take_zero, List.drop_succ_cons, List.drop_zero]
          repeat (first | still_step | still_call (HLM.out _))
          refine wpStill_nil ?_
          go_wp2_with fail
          (try simp only [Exit.inBlock, Exit.then]); refine bodyPost_ret (results_tmp3 rfl _ _ _) rfl ?_
          have hb := HBS.out
          exact ⟨w.heap.size, rfl, HRS.out, Nat.le_refl _, ⟨hb.os, hb.tape, hb.output, hb.size, hb.block⟩⟩
end Go.Proofs.Ytepgiomgkgfioaa
