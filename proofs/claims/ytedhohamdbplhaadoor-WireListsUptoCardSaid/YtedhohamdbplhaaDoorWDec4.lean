import Derived.Test.YtedhohamdbplhaaDoorWDec3
namespace Go.Proofs.YtedhohamdbplhaaDoor
open Go.RowKit
open Num
set_option linter.unusedVariables false
set_option linter.unusedSimpArgs false
set_option maxRecDepth 20000

set_option maxHeartbeats 1000000 in
theorem dec_ok (w : World) (v : Value) (l : List Nat) (h : BSl w v l) (hl : ¬ l.length < 26) (h2 : ¬ (l.getD 0 0 ≠ 82 ∨ l.getD 1 0 ≠ 70 ∨ l.getD 3 0 ≠ 1)) (h3 : ferr (l.getD 2 0 : Nat) (bv (sg l 20 2)) = 0) (h5 : l.length = 26 + bv (sg l 20 2)) (h6 : bv (sg l 22 4) = crcM (crcM (crcM 0 (l.take 22)) [0, 0, 0, 0]) (l.drop 26)) : Calls Tryd.prog 15 #[v] w fun e w' => decPost l w e w' := by
  have HE := hide ((derr_rest hl h2 h3).trans ((if_neg (by omega)).trans ((if_neg (by omega)).trans (if_neg (by simpa using h6)))))
  have HZ := hide ((Below.refl w.heap.size w).alloc (Nat.le_refl _) (.cells #[.int .i64 0, .int .u32 0, .int .u32 0, .int .u32 0, .int .u32 0, .slice none 0 0] 48))
  have HZR := hide (Go.heap_alloc_new w (.cells #[.int .i64 0, .int .u32 0, .int .u32 0, .int .u32 0, .int .u32 0, .slice none 0 0] 48))
  have hx := h.below HZ.out
  obtain ⟨b, off, cap, rfl, h1, hm, hlt, hc, hcv⟩ := dec_open hx hl
  have c3 := hc 3 (by omega)
  have c2 := hc 2 (by omega)
  have l2 := hlt 2 (by omega)
  have e0 : l.getD 0 0 = 82 := by omega
  have e1 : l.getD 1 0 = 70 := by omega
  have e3 : l.getD 3 0 = 1 := by omega
  rw [e0, e1] at hcv
  rw [e3] at c3
  have HR := hide fun n => readNumber_any _ _ _ ((hx.seg 20 2 (by omega)).drewN n) (by rw [sg_len (by omega)]; decide)
  have hn : bv (sg l 20 2) < 65536 := bv2_lt (fun x hy => h.bytes x (sg_mem hy)) (sg_len (by omega))
  have HCH := hide fun x => checkHead_any x (l.getD 2 0 : Nat) (bv (sg l 20 2)) (by omega) (by omega)
  have HX := hide hx
  have HBY := hide h.bytes
  unfold maxLen at hm
  have HC0 : Hid (∀ x : World, Calls Tryd.prog 30 #[.int .i64 ((l.getD 2 0 : Nat) : Int), .int .i64 ((bv (sg l 20 2) : Nat) : Int)] x fun e w' => e = .returned (.int .i64 0) ∧ w' = x) := hide fun x => by have := HCH.out x; rw [h3] at this; exact this
  clear HCH
  clear h3
  have h5a := Nat.le_of_eq h5
  have h5b := Nat.le_of_eq h5.symm
  have H5 := hide h5
  clear h5
  clear hc hlt h hx e0 e1 e3 h2
  have HG : Hid (∀ x v', Own x w.heap.size v' (l.drop 26) → Below w.heap.size w x → decPost l w (.returned (.tuple #[.agg #[.int .i64 ((l.getD 2 0 : Nat) : Int), .int .u32 ((bv (sg l 4 4) : Nat) : Int), .int .u32 ((bv (sg l 8 4) : Nat) : Int), .int .u32 ((bv (sg l 12 4) : Nat) : Int), .int .u32 ((bv (sg l 16 4) : Nat) : Int), v'], .int .i64 0])) x) := hide fun x v' ho hb => decPost_good HE.out ho hb
  clear HE
  generalize l.getD 2 0 = kk at *
  generalize bv (sg l 20 2) = n at *
  have i1 : (2 : Int) < (l.length : Int) := by omega
  have i2 : (22 : Int) ≤ (cap : Int) := by omega
  have i3 : (26 : Int) ≤ (l.length : Int) := by omega
  have i4 : (26 : Int) ≤ (cap : Int) := by omega
  have i5 : (l.length : Int) ≤ (cap : Int) := by omega
  have j20 : ¬ cap = 20 := by omega
  have j22 : ¬ cap = 22 := by omega
  obtain ⟨pa, hpa⟩ : ∃ pa, (if cap = 26 then some (⟨b, off, none⟩ : Addr) else some ⟨b, off + 26, none⟩) = pa := ⟨_, rfl⟩
  have HPL : Hid (BSl (w.alloc (.cells #[.int .i64 0, .int .u32 0, .int .u32 0, .int .u32 0, .int .u32 0, .slice none 0 0] 48)) (.slice pa (l.length - 26) (cap - 26)) (l.drop 26)) := hide (by rw [← hpa]; exact HX.out.tail (by omega))
  have HR2 : Hid (∀ k, Calls Tryd.prog 33 #[.slice (some ⟨b, off + 22, none⟩) 4 (cap - 22)] ((w.alloc (.cells #[.int .i64 0, .int .u32 0, .int .u32 0, .int .u32 0, .int .u32 0, .slice none 0 0] 48)).drewN k) fun e w' => e = .returned (.int .u32 (bv (sg l 22 4) : Nat)) ∧ w' = (w.alloc (.cells #[.int .i64 0, .int .u32 0, .int .u32 0, .int .u32 0, .int .u32 0, .slice none 0 0] 48)).drewN k) := hide fun k => readNumber_any _ _ _ ((HX.out.seg 22 4 (by omega)).drewN k) (by rw [sg_len (by omega)]; decide)
  have HFS : Hid (∀ k, Calls Tryd.prog 32 #[.slice (some ⟨b, off, none⟩) 22 cap, .slice pa (l.length - 26) (cap - 26)] ((w.alloc (.cells #[.int .i64 0, .int .u32 0, .int .u32 0, .int .u32 0, .int .u32 0, .slice none 0 0] 48)).drewN k) fun e w' => e = .returned (.int .u32 (crcM (crcM (crcM 0 (l.take 22)) [0, 0, 0, 0]) (l.drop 26) : Nat)) ∧ Below ((w.alloc (.cells #[.int .i64 0, .int .u32 0, .int .u32 0, .int .u32 0, .int .u32 0, .slice none 0 0] 48)).drewN k).heap.size ((w.alloc (.cells #[.int .i64 0, .int .u32 0, .int .u32 0, .int .u32 0, .int .u32 0, .slice none 0 0] 48)).drewN k) w') := hide fun k => frameSum_any _ _ _ _ _ ((HX.out.front (by omega)).drewN k) (HPL.out.drewN k)
  have hs1 : bv (sg l 22 4) < 4294967296 := by
    have := bv_lt (sg l 22 4) (fun x hy => HBY.out x (sg_mem hy))
    rw [sg_len (by omega)] at this
    exact this
  generalize bv (sg l 22 4) = z1 at *
  generalize crcM (crcM (crcM 0 (l.take 22)) [0, 0, 0, 0]) (l.drop 26) = z2 at *
  have hzz : ((z1 : Int) == (z2 : Int)) = true := by simp only [beq_iff_eq]; omega
  subst h6
  have hwk : IntKind.i64.wrap (kk : Int) = (kk : Int) := by simp [IntKind.wrap, IntKind.bits, IntKind.signed]; omega
  have hwn : IntKind.i64.wrap (n : Int) = (n : Int) := by simp [IntKind.wrap, IntKind.bits, IntKind.signed]; omega
  go_enter Tryd.func15, Tryd.ntmps15
  go_wp2_with fail
  go_region_held3 (fun w' => w'.cell? ⟨b, off + 2, none⟩ = some (.int .u8 (kk : Int))) (exact c2)
    ((go_at_call 33; refine (HR.out 1).mono ?_; rintro e w' ⟨rfl, rfl⟩))
  clear HR
  go_wp2_with (go_at_call 30; refine (HC0.out _).mono ?_; rintro e w' ⟨rfl, rfl⟩)
  go_region_held3 (fun _ => True) (trivial)
    ((first
      | (go_at_call 33; refine (HR2.out 2).mono ?_; rintro e w' ⟨rfl, rfl⟩)
      | (go_at_call 32; refine (HFS.out 2).mono ?_; rintro e w3 ⟨rfl, hb3⟩)))
  have HZ3 : Hid (w3.heap[w.heap.size]? = some (.cells #[.int .i64 0, .int .u32 0, .int .u32 0, .int .u32 0, .int .u32 0, .slice none 0 0] 48 (0, 0))) := hide (by rw [hb3.block _ (by show w.heap.size < (w.alloc _).heap.size; simp)]; exact HZR.out)
  have HB3 : Hid (Below w.heap.size w w3) := hide ((below_drewN HZ.out 2).trans (hb3.mono (by show w.heap.size ≤ (w.alloc _).heap.size; simp)))
  have HX3 : Hid (BSl w3 (.slice (some ⟨b, off, none⟩) l.length cap) l) := hide ((HX.out.drewN 2).below hb3)
  have HPL3 : Hid (BSl w3 (.slice pa (l.length - 26) (cap - 26)) (l.drop 26)) := hide ((HPL.out.drewN 2).below hb3)
  have HSZ3 : Hid (w.heap.size < w3.heap.size) := hide (Nat.lt_of_lt_of_le (by show w.heap.size < (w.alloc _).heap.size; simp) hb3.size)
  clear hb3 HR2 HFS HX HPL HC0
  obtain ⟨r0, r1, r2, r3, r4, r5, q0, q1, q2, q3, q4, q5⟩ := row6f HZ3.out
  go_wp2_with fail
  have HW0 := hide (word_any w3 b off l.length cap 0 l HX3.out (by decide) (by omega))
  have HW1 := hide (word_any w3 b off l.length cap 1 l HX3.out (by decide) (by omega))
  have HW2 := hide (word_any w3 b off l.length cap 2 l HX3.out (by decide) (by omega))
  have HW3 := hide (word_any w3 b off l.length cap 3 l HX3.out (by decide) (by omega))
  simp only [Nat.reduceMul, Nat.reduceAdd] at HW0 HW1 HW2 HW3
  generalize bv (sg l 4 4) = y0 at *
  generalize bv (sg l 8 4) = y1 at *
  generalize bv (sg l 12 4) = y2 at *
  generalize bv (sg l 16 4) = y3 at *
  have HF3 := hide ((Below.refl w3.heap.size w3).alloc (Nat.le_refl _) (.cells #[.int .i64 (kk : Int), .int .u32 (y0 : Int), .int .u32 (y1 : Int), .int .u32 (y2 : Int), .int .u32 (y3 : Int), .slice none 0 0] 48))
  have HRA : Hid ((w3.alloc (.cells #[.int .i64 (kk : Int), .int .u32 (y0 : Int), .int .u32 (y1 : Int), .int .u32 (y2 : Int), .int .u32 (y3 : Int), .slice none 0 0] 48)).heap[w.heap.size]? = some (.cells #[.int .i64 0, .int .u32 0, .int .u32 0, .int .u32 0, .int .u32 0, .slice none 0 0] 48 (0, 0))) := hide (by rw [RowKit.Below.heap_alloc _ _ _ HSZ3.out]; exact HZ3.out)
  have HRF := hide (Go.heap_alloc_new w3 (.cells #[.int .i64 (kk : Int), .int .u32 (y0 : Int), .int .u32 (y1 : Int), .int .u32 (y2 : Int), .int .u32 (y3 : Int), .slice none 0 0] 48))
  clear r0 r1 r2 r3 r4 r5 q0 q1 q2 q3 q4 q5
  by_cases hn0 : 0 < n
  · have HCL := hide (clone_any _ _ _ (HPL3.out.below HF3.out) (by simp; omega) (by simp; omega))
    go_wp2_with (first
      | (go_at_call 34; refine HW0.out.mono ?_; rintro e w' ⟨rfl, hw⟩; rw [hw]; clear hw HW0)
      | (go_at_call 34; refine HW1.out.mono ?_; rintro e w' ⟨rfl, hw⟩; rw [hw]; clear hw HW1)
      | (go_at_call 34; refine HW2.out.mono ?_; rintro e w' ⟨rfl, hw⟩; rw [hw]; clear hw HW2)
      | (go_at_call 34; refine HW3.out.mono ?_; rintro e w' ⟨rfl, hw⟩; rw [hw]; clear hw HW3)
      | (go_at_call 35; refine HCL.out.mono ?_; rintro e w4 ⟨v4, rfl, o4, b4⟩
         obtain ⟨g4, c4, rfl, hg4, _, _, _⟩ := o4.shape (by simp; omega)
         rw [List.length_drop] at o4
         rw [List.length_drop]
         have hz4 : (w3.alloc (.cells #[.int .i64 (kk : Int), .int .u32 (y0 : Int), .int .u32 (y1 : Int), .int .u32 (y2 : Int), .int .u32 (y3 : Int), .slice none 0 0] 48)).heap.size = w3.heap.size + 1 := by simp
         have HR4 : Hid (w4.heap[w.heap.size]? = some (.cells #[.int .i64 0, .int .u32 0, .int .u32 0, .int .u32 0, .int .u32 0, .slice none 0 0] 48 (0, 0))) := hide (by rw [b4.block _ (by rw [hz4]; have := HSZ3.out; omega)]; exact HRA.out)
         have HF4 : Hid (w4.heap[w3.heap.size]? = some (.cells #[.int .i64 (kk : Int), .int .u32 (y0 : Int), .int .u32 (y1 : Int), .int .u32 (y2 : Int), .int .u32 (y3 : Int), .slice none 0 0] 48 (0, 0))) := hide (by rw [b4.block _ (by rw [hz4]; omega)]; exact HRF.out)
         have HRY : Hid ((w4.setCell ⟨w3.heap.size, 5, none⟩ (.slice (some ⟨g4, 0, none⟩) (l.length - 26) c4)).heap[w.heap.size]? = some (.cells #[.int .i64 0, .int .u32 0, .int .u32 0, .int .u32 0, .int .u32 0, .slice none 0 0] 48 (0, 0))) := hide (by rw [Go.heap_setCell_other _ _ _ _ (by show w.heap.size ≠ w3.heap.size; have := HSZ3.out; omega)]; exact HR4.out)
         have HFY : Hid ((w4.setCell ⟨w3.heap.size, 5, none⟩ (.slice (some ⟨g4, 0, none⟩) (l.length - 26) c4)).heap[w3.heap.size]? = some (.cells #[.int .i64 (kk : Int), .int .u32 (y0 : Int), .int .u32 (y1 : Int), .int .u32 (y2 : Int), .int .u32 (y3 : Int), .slice (some ⟨g4, 0, none⟩) (l.length - 26) c4] 48 (0, 0))) := hide (Go.heap_setCell_same w4 w3.heap.size 5 _ 48 _ HF4.out)
         have HOY : Hid (Own ((((((((w4.setCell ⟨w3.heap.size, 5, none⟩ (.slice (some ⟨g4, 0, none⟩) (l.length - 26) c4)).setCell ⟨w.heap.size, 0, none⟩ (.int .i64 (kk : Int))).setCell ⟨w.heap.size, 1, none⟩ (.int .u32 (y0 : Int))).setCell ⟨w.heap.size, 2, none⟩ (.int .u32 (y1 : Int))).setCell ⟨w.heap.size, 3, none⟩ (.int .u32 (y2 : Int))).setCell ⟨w.heap.size, 4, none⟩ (.int .u32 (y3 : Int))).setCell ⟨w.heap.size, 5, none⟩ (.slice (some ⟨g4, 0, none⟩) (l.length - 26) c4))) w.heap.size (.slice (some ⟨g4, 0, none⟩) (l.length - 26) c4) (l.drop 26)) := hide ((o4.low (by rw [hz4]; have := HSZ3.out; omega)).keptIf fun j hj => by
           simp only [Value.ownBlock, Option.some.injEq] at hj
           subst hj
           rw [hz4] at hg4
           have := HSZ3.out
           have hne : g4 ≠ w.heap.size := by omega
           have hne3 : g4 ≠ w3.heap.size := by omega
           rw [Go.heap_setCell_other _ _ _ _ (by exact hne), Go.heap_setCell_other _ _ _ _ (by exact hne), Go.heap_setCell_other _ _ _ _ (by exact hne), Go.heap_setCell_other _ _ _ _ (by exact hne), Go.heap_setCell_other _ _ _ _ (by exact hne), Go.heap_setCell_other _ _ _ _ (by exact hne), Go.heap_setCell_other _ _ _ _ (by exact hne3)])
         have HBY2 : Hid (Below w.heap.size w (w4.setCell ⟨w3.heap.size, 5, none⟩ (.slice (some ⟨g4, 0, none⟩) (l.length - 26) c4))) := hide ((HB3.out.trans ((HF3.out.mono (Nat.le_of_lt HSZ3.out)).trans (b4.mono (by rw [hz4]; have := HSZ3.out; omega)))).setCell (by show w.heap.size ≤ w3.heap.size; have := HSZ3.out; omega) _)
         clear o4 b4 hz4 hg4 HCL
         obtain ⟨r0, r1, r2, r3, r4, r5, q0, q1, q2, q3, q4, q5⟩ := row6f HRY.out
         obtain ⟨t0, t1, t2, t3, t4, t5, u0, u1, u2, u3, u4, u5⟩ := row6f HFY.out
         obtain ⟨s0, s1, s2, s3, s4, s5, p0, p1, p2, p3, p4, p5⟩ := row6f HF4.out))
    exact bodyPost_ret (results_row_tmp (p := 2) (u := 3) rfl _ _ w.heap.size 48 _ (0, 0) _ rfl (set6 HRY.out (.int .i64 (kk : Int)) (.int .u32 (y0 : Int)) (.int .u32 (y1 : Int)) (.int .u32 (y2 : Int)) (.int .u32 (y3 : Int)) (.slice (some ⟨g4, 0, none⟩) (l.length - 26) c4)) Tryd.underlying48 rfl (by kernel_rfl)) rfl (HG.out _ _ HOY.out (bel_set6 HBY2.out (Nat.le_refl _) _ _ _ _ _ _))
  · obtain ⟨r0, r1, r2, r3, r4, r5, q0, q1, q2, q3, q4, q5⟩ := row6f HRA.out
    have hemp : l.drop 26 = [] := List.drop_eq_nil_of_le (by omega)
    rw [hemp] at HG
    go_wp2_with (first
      | (go_at_call 34; refine HW0.out.mono ?_; rintro e w' ⟨rfl, hw⟩; rw [hw]; clear hw HW0)
      | (go_at_call 34; refine HW1.out.mono ?_; rintro e w' ⟨rfl, hw⟩; rw [hw]; clear hw HW1)
      | (go_at_call 34; refine HW2.out.mono ?_; rintro e w' ⟨rfl, hw⟩; rw [hw]; clear hw HW2)
      | (go_at_call 34; refine HW3.out.mono ?_; rintro e w' ⟨rfl, hw⟩; rw [hw]; clear hw HW3))
    exact bodyPost_ret (results_row_tmp (p := 2) (u := 3) rfl _ _ w.heap.size 48 _ (0, 0) _ rfl (set6 HRA.out (.int .i64 (kk : Int)) (.int .u32 (y0 : Int)) (.int .u32 (y1 : Int)) (.int .u32 (y2 : Int)) (.int .u32 (y3 : Int)) (.slice none 0 0)) Tryd.underlying48 rfl (by kernel_rfl)) rfl (HG.out _ _ ⟨World.ownsRow_nil _ _ _ _, by simp⟩ (bel_set6 (HB3.out.trans (HF3.out.mono (Nat.le_of_lt HSZ3.out))) (Nat.le_refl _) _ _ _ _ _ _))

/-- DecodeFrame, of any bytes -/
theorem decodeFrame_any (w : World) (v : Value) (l : List Nat) (h : BSl w v l) : Calls Tryd.prog 15 #[v] w fun e w' => decPost l w e w' := by
  by_cases hl : l.length < 26
  · exact dec_short w v l h hl
  · by_cases h2 : l.getD 0 0 ≠ 82 ∨ l.getD 1 0 ≠ 70 ∨ l.getD 3 0 ≠ 1
    · exact dec_mark w v l h hl h2
    · by_cases h3 : ferr (l.getD 2 0 : Nat) (bv (sg l 20 2)) = 0
      · by_cases h4 : l.length < 26 + bv (sg l 20 2)
        · exact dec_less w v l h hl h2 h3 h4
        · by_cases h5 : 26 + bv (sg l 20 2) < l.length
          · exact dec_more w v l h hl h2 h3 h5
          · by_cases h6 : bv (sg l 22 4) = crcM (crcM (crcM 0 (l.take 22)) [0, 0, 0, 0]) (l.drop 26)
            · exact dec_ok w v l h hl h2 h3 (by omega) h6
            · exact dec_sum w v l h hl h2 h3 (by omega) h6
      · exact dec_head w v l h hl h2 h3
end Go.Proofs.YtedhohamdbplhaaDoor
