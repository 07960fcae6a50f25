import Derived.Test.YtacjibfmhhmbcaaWRd2
namespace Go.Proofs.Ytacjibfmhhmbcaa
open Go.RowKit
open Num
set_option linter.unusedVariables false
set_option linter.unusedSimpArgs false

set_option maxHeartbeats 1000000 in
theorem rd_ok1 (w : World) (v : Value) (l : List Nat) (h : BSl w v l) (hl : ¬ l.length < 26) (h2 : ¬ (l.getD 0 0 ≠ 82 ∨ l.getD 1 0 ≠ 70 ∨ l.getD 3 0 ≠ 1)) (h3 : 1 ≤ l.getD 2 0 ∧ l.getD 2 0 ≤ 4) (h4 : wro (l.getD 2 0 : Nat) (bv (sg l 20 2)) = false) (h5 : l.length = 26 + bv (sg l 20 2)) (h6 : bv (sg l 22 4) = crcM (crcM (crcM 0 (l.take 22)) [0, 0, 0, 0]) (l.drop 26)) (h7 : 0 < bv (sg l 20 2)) : Calls Try.prog 15 #[v] w fun e w' => decPost l w e w' := by
  have HE := hide ((derr_rest hl h2 (by rw [wro_ferr (by omega) (by omega), h4]; rfl)).trans ((if_neg (by omega)).trans ((if_neg (by omega)).trans (if_neg (by simpa using h6)))))
  have HZ := hide ((Below.refl w.heap.size w).alloc (Nat.le_refl _) (.cells #[.int .i64 0, .int .u32 0, .int .u32 0, .int .u32 0, .int .u32 0, .slice none 0 0] 25))
  have HZR := hide (Go.heap_alloc_new w (.cells #[.int .i64 0, .int .u32 0, .int .u32 0, .int .u32 0, .int .u32 0, .slice none 0 0] 25))
  have hx := h.below HZ.out
  obtain ⟨b, off, cap, rfl, h1, hm, hlt, hc, _⟩ := dec_open hx hl
  have c0 := hc 0 (by omega)
  rw [Nat.add_zero] at c0
  have c1 := hc 1 (by omega)
  have c2 := hc 2 (by omega)
  have c3 := hc 3 (by omega)
  have c20 := hc 20 (by omega)
  have c21 := hc 21 (by omega)
  have l2 := hlt 2 (by omega)
  have l20 := hlt 20 (by omega)
  have l21 := hlt 21 (by omega)
  have hn : bv (sg l 20 2) = 256 * l.getD 20 0 + l.getD 21 0 := by rw [sg2 (by omega), bv2]
  have HB := hide h
  have HX := hide hx
  unfold maxLen at hm
  rename_i dead1
  have hni : ((bv (sg l 20 2) : Nat) : Int) = 256 * (l.getD 20 0 : Int) + (l.getD 21 0 : Int) := by omega
  have HWR : Hid (∀ x : World, Calls Try.prog 19 #[.int .i64 ((l.getD 2 0 : Nat) : Int), .int .i64 (256 * (l.getD 20 0 : Int) + (l.getD 21 0 : Int))] x fun e w' => e = .returned (.bool (wro (l.getD 2 0 : Nat) (bv (sg l 20 2)))) ∧ w' = x) := hide fun x => by have := wrong_any x (l.getD 2 0 : Nat) (bv (sg l 20 2)) (by omega) (by omega); rw [hni] at this; exact this
  clear hni
  have HCR : Hid (∀ x v, BSl x v (frm (l.getD 2 0) (bv (sg l 4 4)) (bv (sg l 8 4)) (bv (sg l 12 4)) (bv (sg l 16 4)) 0 (l.drop 26)) → Calls Try.prog 20 #[v] x fun e w' => e = .returned (.int .u32 (crcM (crcM (crcM 0 (l.take 22)) [0, 0, 0, 0]) (l.drop 26) : Nat)) ∧ w' = x) := hide fun x v hv => by have := refCrc_any v _ x hv; rw [frm_of h.bytes (by omega) (by omega) (by omega) (by omega) h5] at this; exact this
  have y0l := bv4_lt (i := 4) h.bytes (by omega)
  have y1l := bv4_lt (i := 8) h.bytes (by omega)
  have y2l := bv4_lt (i := 12) h.bytes (by omega)
  have y3l := bv4_lt (i := 16) h.bytes (by omega)
  have hdl : (l.drop 26).length = l.length - 26 := by simp
  have HFR := hide fun (x : World) (vx : Value) (hv : BSl x vx (l.drop 26)) => framed_any x (l.getD 2 0) (bv (sg l 4 4)) (bv (sg l 8 4)) (bv (sg l 12 4)) (bv (sg l 16 4)) 0 vx (l.drop 26) hv (by omega) y0l y1l y2l y3l (by decide) (by omega)
  have HF0 := hide fun k => four_any ((w.alloc (.cells #[.int .i64 0, .int .u32 0, .int .u32 0, .int .u32 0, .int .u32 0, .slice none 0 0] 25)).drewN k) b off l.length cap 4 l (hx.drewN k) (by omega)
  have HF1 := hide fun k => four_any ((w.alloc (.cells #[.int .i64 0, .int .u32 0, .int .u32 0, .int .u32 0, .int .u32 0, .slice none 0 0] 25)).drewN k) b off l.length cap 8 l (hx.drewN k) (by omega)
  have HF2 := hide fun k => four_any ((w.alloc (.cells #[.int .i64 0, .int .u32 0, .int .u32 0, .int .u32 0, .int .u32 0, .slice none 0 0] 25)).drewN k) b off l.length cap 12 l (hx.drewN k) (by omega)
  have HF3 := hide fun k => four_any ((w.alloc (.cells #[.int .i64 0, .int .u32 0, .int .u32 0, .int .u32 0, .int .u32 0, .slice none 0 0] 25)).drewN k) b off l.length cap 16 l (hx.drewN k) (by omega)
  have HFS := hide fun (x : World) (hb : Below w.heap.size w x) => four_any x b off l.length cap 22 l (h.below hb) (by omega)
  have HPT := hide fun (x : World) (hb : Below w.heap.size w x) => (h.below hb).tail (by omega)
  have HG : Hid (∀ x v', Own x w.heap.size v' (l.drop 26) → Below w.heap.size w x → decPost l w (.returned (.tuple #[.agg #[.int .i64 ((l.getD 2 0 : Nat) : Int), .int .u32 ((bv (sg l 4 4) : Nat) : Int), .int .u32 ((bv (sg l 8 4) : Nat) : Int), .int .u32 ((bv (sg l 12 4) : Nat) : Int), .int .u32 ((bv (sg l 16 4) : Nat) : Int), v'], .int .i64 0])) x) := hide fun x v' ho hb => decPost_good HE.out ho hb
  clear HE
  clear hc hlt h hx dead1
  have e0 : l.getD 0 0 = 82 := by omega
  have e1 : l.getD 1 0 = 70 := by omega
  have e3 : l.getD 3 0 = 1 := by omega
  rw [e0] at c0
  rw [e1] at c1
  rw [e3] at c3
  clear e0 e1 e3 h2
  rw [h4] at HWR
  have h5a : l.length ≤ 26 + (256 * l.getD 20 0 + l.getD 21 0) := by omega
  have h5b : 26 + (256 * l.getD 20 0 + l.getD 21 0) ≤ l.length := by omega
  have h7' : 0 < 256 * l.getD 20 0 + l.getD 21 0 := by omega
  have i5 : (l.length : Int) ≤ (cap : Int) := by omega
  have i4 : (26 : Int) ≤ (cap : Int) := by omega
  have i3 : (26 : Int) ≤ (l.length : Int) := by omega
  have z1l := bv4_lt (i := 22) HB.out.bytes (by omega)
  have hemp : ¬ 0 < bv (sg l 20 2) → l.drop 26 = [] := fun hh => List.drop_eq_nil_of_le (by omega)
  have HEMP := hide hemp
  clear hn h4 h5 hemp
  generalize l.getD 2 0 = kk at *
  generalize l.getD 20 0 = n1 at *
  generalize l.getD 21 0 = n2 at *
  generalize bv (sg l 22 4) = z1 at *
  generalize crcM (crcM (crcM 0 (l.take 22)) [0, 0, 0, 0]) (l.drop 26) = z2 at *
  generalize bv (sg l 4 4) = y0 at *
  generalize bv (sg l 8 4) = y1 at *
  generalize bv (sg l 12 4) = y2 at *
  generalize bv (sg l 16 4) = y3 at *
  have j26 : ¬ cap = 26 := by omega
  rw [if_neg j26] at HPT
  subst h6
  obtain ⟨h31, h32⟩ := h3
  unfold frV at HFR
  go_enter Try.func15, Try.ntmps15
  go_wp2_with fail
  go_quiet (fail)
  have hx1 : (((w.alloc (.cells #[.int .i64 0, .int .u32 0, .int .u32 0, .int .u32 0, .int .u32 0, .slice none 0 0] 25)).drewN nq).alloc (.cells #[.int .i64 (kk : Int), .int .u32 (y0 : Int), .int .u32 (y1 : Int), .int .u32 (y2 : Int), .int .u32 (y3 : Int), .slice none 0 0] 25)).heap.size = w.heap.size + 1 + 1 := by simp
  have HD1 : Hid (DBx w (((w.alloc (.cells #[.int .i64 0, .int .u32 0, .int .u32 0, .int .u32 0, .int .u32 0, .slice none 0 0] 25)).drewN nq).alloc (.cells #[.int .i64 (kk : Int), .int .u32 (y0 : Int), .int .u32 (y1 : Int), .int .u32 (y2 : Int), .int .u32 (y3 : Int), .slice none 0 0] 25)) #[.int .i64 0, .int .u32 0, .int .u32 0, .int .u32 0, .int .u32 0, .slice none 0 0] #[.int .i64 (kk : Int), .int .u32 (y0 : Int), .int .u32 (y1 : Int), .int .u32 (y2 : Int), .int .u32 (y3 : Int), .slice none 0 0]) := hide ⟨by rw [RowKit.Below.heap_alloc _ _ _ (by show w.heap.size < (w.alloc _).heap.size; simp)]; exact HZR.out, by have := Go.heap_alloc_new ((w.alloc (.cells #[.int .i64 0, .int .u32 0, .int .u32 0, .int .u32 0, .int .u32 0, .slice none 0 0] 25)).drewN nq) (.cells #[.int .i64 (kk : Int), .int .u32 (y0 : Int), .int .u32 (y1 : Int), .int .u32 (y2 : Int), .int .u32 (y3 : Int), .slice none 0 0] 25); simpa using this, (below_drewN HZ.out nq).alloc (by show w.heap.size ≤ (w.alloc _).heap.size; simp) _, by rw [hx1]; omega⟩
  have HM : Hid (Own ((((w.alloc (.cells #[.int .i64 0, .int .u32 0, .int .u32 0, .int .u32 0, .int .u32 0, .slice none 0 0] 25)).drewN nq).alloc (.cells #[.int .i64 (kk : Int), .int .u32 (y0 : Int), .int .u32 (y1 : Int), .int .u32 (y2 : Int), .int .u32 (y3 : Int), .slice none 0 0] 25)).alloc (.cells #[] 5)) (w.heap.size + 2) (.slice (some ⟨w.heap.size + 1 + 1, 0, none⟩) 0 0) []) := hide ⟨by have := World.ownsRow_made (base := w.heap.size + 2) (e := 5) (size := 1) (((w.alloc (.cells #[.int .i64 0, .int .u32 0, .int .u32 0, .int .u32 0, .int .u32 0, .slice none 0 0] 25)).drewN nq).alloc (.cells #[.int .i64 (kk : Int), .int .u32 (y0 : Int), .int .u32 (y1 : Int), .int .u32 (y2 : Int), .int .u32 (y3 : Int), .slice none 0 0] 25)) #[] 0 (by rw [hx1]; omega) (by unfold maxLen; omega) rfl; rw [hx1] at this; exact this, by simp⟩
  have HD2 := hide (HD1.out.on ((Below.refl (w.heap.size + 2) _).alloc (by rw [hx1]; omega) (.cells #[] 5)) (Nat.le_refl _))
  have HPL := hide (HPT.out _ HD2.out.bel)
  have HSX := hide HD2.out.sz
  clear hx1
  go_wp2_with (first
    | (go_at_call 19; refine (HWR.out _).mono ?_; rintro e w' ⟨rfl, hw⟩; rw [hw]; clear hw)
    | (go_at_call 25; refine (HF0.out nq).mono ?_; rintro e w' ⟨rfl, hw⟩; rw [hw]; clear hw HF0)
    | (go_at_call 25; refine (HF1.out nq).mono ?_; rintro e w' ⟨rfl, hw⟩; rw [hw]; clear hw HF1)
    | (go_at_call 25; refine (HF2.out nq).mono ?_; rintro e w' ⟨rfl, hw⟩; rw [hw]; clear hw HF2)
    | (go_at_call 25; refine (HF3.out nq).mono ?_; rintro e w' ⟨rfl, hw⟩; rw [hw]; clear hw HF3)
    | (at_builtin; (refine wpList_app rfl (.tmp 81) (.tmp 83) rfl (w.heap.size + 2) _ _ [] (l.drop 26) rfl rfl HM.out HPL.out (by simp; omega) HSX.out ?_)))
  intro v3 w3 o3 b3 s3 _
  obtain ⟨g3, c3, rfl, hg3, _, _, _⟩ := o3.shape (by rw [hdl]; omega)
  rw [hdl] at o3
  rw [hdl]
  have HD3 := hide (HD2.out.on b3 (Nat.le_refl _))
  have HD4 := hide (HD3.out.set (.slice (some ⟨g3, 0, none⟩) (l.length - 26) c3))
  have HO4 := hide (o3.keptIf (fun j hj => (Go.heap_setCell_other _ _ _ _ (by simp only [Value.ownBlock, Option.some.injEq] at hj; show j ≠ w.heap.size + 1; omega) : (w3.setCell ⟨w.heap.size + 1, 5, none⟩ (.slice (some ⟨g3, 0, none⟩) (l.length - 26) c3)).heap[j]? = w3.heap[j]?)))
  have HFM := hide (HFR.out _ _ HO4.out.bsl)
  have HG3 := hide hg3
  clear o3 b3 s3 hg3 HM HPL HD2 HSX
  obtain ⟨m0, m1, m2, m3, m4, m5, k0, k1, k2, k3, k4, k5⟩ := row6f HD3.out.r
  obtain ⟨t0, t1, t2, t3, t4, t5, u0, u1, u2, u3, u4, u5⟩ := row6f HD3.out.f
  obtain ⟨aa0, aa1, aa2, aa3, aa4, aa5, ab0, ab1, ab2, ab3, ab4, ab5⟩ := row6f HD4.out.r
  obtain ⟨ac0, ac1, ac2, ac3, ac4, ac5, ad0, ad1, ad2, ad3, ad4, ad5⟩ := row6f HD4.out.f
  go_wp2_with (first
    | (go_at_call 21; refine HFM.out.mono ?_; rintro e w5 ⟨v5, rfl, o5, b5⟩
       have HD5 := hide (HD4.out.next b5)
       have HCC := hide (HCR.out w5 v5 o5.bsl)
       have HFF := hide (HFS.out w5 HD5.out.bel)
       have HO5 := hide (HO4.out.kept b5)
       clear o5 b5
       obtain ⟨m0, m1, m2, m3, m4, m5, k0, k1, k2, k3, k4, k5⟩ := row6f HD5.out.r
       obtain ⟨t0, t1, t2, t3, t4, t5, u0, u1, u2, u3, u4, u5⟩ := row6f HD5.out.f)
    | (go_at_call 20; refine HCC.out.mono ?_; rintro e w' ⟨rfl, hw⟩; rw [hw]; clear hw HCC)
    | (go_at_call 25; refine HFF.out.mono ?_; rintro e w' ⟨rfl, hw⟩; rw [hw]; clear hw HFF))
  exact bodyPost_ret (results_row_tmp (p := 2) (u := 3) rfl _ _ w.heap.size 25 _ (0, 0) _ rfl (set6 HD5.out.r (.int .i64 (kk : Int)) (.int .u32 (y0 : Int)) (.int .u32 (y1 : Int)) (.int .u32 (y2 : Int)) (.int .u32 (y3 : Int)) (.slice (some ⟨g3, 0, none⟩) (l.length - 26) c3)) Try.underlying25 rfl (by kernel_rfl)) rfl (HG.out _ _ ((HO5.out.low (by omega)).keptIf fun j hj => by
    simp only [Value.ownBlock, Option.some.injEq] at hj
    subst hj
    have := HG3.out
    have hne : g3 ≠ w.heap.size := by omega
    rw [Go.heap_setCell_other _ _ _ _ (by exact hne), Go.heap_setCell_other _ _ _ _ (by exact hne), Go.heap_setCell_other _ _ _ _ (by exact hne), Go.heap_setCell_other _ _ _ _ (by exact hne), Go.heap_setCell_other _ _ _ _ (by exact hne), Go.heap_setCell_other _ _ _ _ (by exact hne)]) (bel_set6 HD5.out.bel (Nat.le_refl _) _ _ _ _ _ _))

set_option maxHeartbeats 1000000 in
theorem rd_ok0 (w : World) (v : Value) (l : List Nat) (h : BSl w v l) (hl : ¬ l.length < 26) (h2 : ¬ (l.getD 0 0 ≠ 82 ∨ l.getD 1 0 ≠ 70 ∨ l.getD 3 0 ≠ 1)) (h3 : 1 ≤ l.getD 2 0 ∧ l.getD 2 0 ≤ 4) (h4 : wro (l.getD 2 0 : Nat) (bv (sg l 20 2)) = false) (h5 : l.length = 26 + bv (sg l 20 2)) (h6 : bv (sg l 22 4) = crcM (crcM (crcM 0 (l.take 22)) [0, 0, 0, 0]) (l.drop 26)) (h7 : ¬ 0 < bv (sg l 20 2)) : Calls Try.prog 15 #[v] w fun e w' => decPost l w e w' := by
  have HE := hide ((derr_rest hl h2 (by rw [wro_ferr (by omega) (by omega), h4]; rfl)).trans ((if_neg (by omega)).trans ((if_neg (by omega)).trans (if_neg (by simpa using h6)))))
  have HZ := hide ((Below.refl w.heap.size w).alloc (Nat.le_refl _) (.cells #[.int .i64 0, .int .u32 0, .int .u32 0, .int .u32 0, .int .u32 0, .slice none 0 0] 25))
  have HZR := hide (Go.heap_alloc_new w (.cells #[.int .i64 0, .int .u32 0, .int .u32 0, .int .u32 0, .int .u32 0, .slice none 0 0] 25))
  have hx := h.below HZ.out
  obtain ⟨b, off, cap, rfl, h1, hm, hlt, hc, _⟩ := dec_open hx hl
  have c0 := hc 0 (by omega)
  rw [Nat.add_zero] at c0
  have c1 := hc 1 (by omega)
  have c2 := hc 2 (by omega)
  have c3 := hc 3 (by omega)
  have c20 := hc 20 (by omega)
  have c21 := hc 21 (by omega)
  have l2 := hlt 2 (by omega)
  have l20 := hlt 20 (by omega)
  have l21 := hlt 21 (by omega)
  have hn : bv (sg l 20 2) = 256 * l.getD 20 0 + l.getD 21 0 := by rw [sg2 (by omega), bv2]
  have HB := hide h
  have HX := hide hx
  unfold maxLen at hm
  rename_i dead1
  have hni : ((bv (sg l 20 2) : Nat) : Int) = 256 * (l.getD 20 0 : Int) + (l.getD 21 0 : Int) := by omega
  have HWR : Hid (∀ x : World, Calls Try.prog 19 #[.int .i64 ((l.getD 2 0 : Nat) : Int), .int .i64 (256 * (l.getD 20 0 : Int) + (l.getD 21 0 : Int))] x fun e w' => e = .returned (.bool (wro (l.getD 2 0 : Nat) (bv (sg l 20 2)))) ∧ w' = x) := hide fun x => by have := wrong_any x (l.getD 2 0 : Nat) (bv (sg l 20 2)) (by omega) (by omega); rw [hni] at this; exact this
  clear hni
  have HCR : Hid (∀ x v, BSl x v (frm (l.getD 2 0) (bv (sg l 4 4)) (bv (sg l 8 4)) (bv (sg l 12 4)) (bv (sg l 16 4)) 0 (l.drop 26)) → Calls Try.prog 20 #[v] x fun e w' => e = .returned (.int .u32 (crcM (crcM (crcM 0 (l.take 22)) [0, 0, 0, 0]) (l.drop 26) : Nat)) ∧ w' = x) := hide fun x v hv => by have := refCrc_any v _ x hv; rw [frm_of h.bytes (by omega) (by omega) (by omega) (by omega) h5] at this; exact this
  have y0l := bv4_lt (i := 4) h.bytes (by omega)
  have y1l := bv4_lt (i := 8) h.bytes (by omega)
  have y2l := bv4_lt (i := 12) h.bytes (by omega)
  have y3l := bv4_lt (i := 16) h.bytes (by omega)
  have hdl : (l.drop 26).length = l.length - 26 := by simp
  have HFR := hide fun (x : World) (vx : Value) (hv : BSl x vx (l.drop 26)) => framed_any x (l.getD 2 0) (bv (sg l 4 4)) (bv (sg l 8 4)) (bv (sg l 12 4)) (bv (sg l 16 4)) 0 vx (l.drop 26) hv (by omega) y0l y1l y2l y3l (by decide) (by omega)
  have HF0 := hide fun k => four_any ((w.alloc (.cells #[.int .i64 0, .int .u32 0, .int .u32 0, .int .u32 0, .int .u32 0, .slice none 0 0] 25)).drewN k) b off l.length cap 4 l (hx.drewN k) (by omega)
  have HF1 := hide fun k => four_any ((w.alloc (.cells #[.int .i64 0, .int .u32 0, .int .u32 0, .int .u32 0, .int .u32 0, .slice none 0 0] 25)).drewN k) b off l.length cap 8 l (hx.drewN k) (by omega)
  have HF2 := hide fun k => four_any ((w.alloc (.cells #[.int .i64 0, .int .u32 0, .int .u32 0, .int .u32 0, .int .u32 0, .slice none 0 0] 25)).drewN k) b off l.length cap 12 l (hx.drewN k) (by omega)
  have HF3 := hide fun k => four_any ((w.alloc (.cells #[.int .i64 0, .int .u32 0, .int .u32 0, .int .u32 0, .int .u32 0, .slice none 0 0] 25)).drewN k) b off l.length cap 16 l (hx.drewN k) (by omega)
  have HFS := hide fun (x : World) (hb : Below w.heap.size w x) => four_any x b off l.length cap 22 l (h.below hb) (by omega)
  have HPT := hide fun (x : World) (hb : Below w.heap.size w x) => (h.below hb).tail (by omega)
  have HG : Hid (∀ x v', Own x w.heap.size v' (l.drop 26) → Below w.heap.size w x → decPost l w (.returned (.tuple #[.agg #[.int .i64 ((l.getD 2 0 : Nat) : Int), .int .u32 ((bv (sg l 4 4) : Nat) : Int), .int .u32 ((bv (sg l 8 4) : Nat) : Int), .int .u32 ((bv (sg l 12 4) : Nat) : Int), .int .u32 ((bv (sg l 16 4) : Nat) : Int), v'], .int .i64 0])) x) := hide fun x v' ho hb => decPost_good HE.out ho hb
  clear HE
  clear hc hlt h hx dead1
  have e0 : l.getD 0 0 = 82 := by omega
  have e1 : l.getD 1 0 = 70 := by omega
  have e3 : l.getD 3 0 = 1 := by omega
  rw [e0] at c0
  rw [e1] at c1
  rw [e3] at c3
  clear e0 e1 e3 h2
  rw [h4] at HWR
  have h5a : l.length ≤ 26 + (256 * l.getD 20 0 + l.getD 21 0) := by omega
  have h5b : 26 + (256 * l.getD 20 0 + l.getD 21 0) ≤ l.length := by omega
  have h7' : ¬ 0 < 256 * l.getD 20 0 + l.getD 21 0 := by omega
  have i5 : (l.length : Int) ≤ (cap : Int) := by omega
  have i4 : (26 : Int) ≤ (cap : Int) := by omega
  have i3 : (26 : Int) ≤ (l.length : Int) := by omega
  have z1l := bv4_lt (i := 22) HB.out.bytes (by omega)
  have hemp : ¬ 0 < bv (sg l 20 2) → l.drop 26 = [] := fun hh => List.drop_eq_nil_of_le (by omega)
  have HEMP := hide hemp
  clear hn h4 h5 hemp
  generalize l.getD 2 0 = kk at *
  generalize l.getD 20 0 = n1 at *
  generalize l.getD 21 0 = n2 at *
  generalize bv (sg l 22 4) = z1 at *
  generalize crcM (crcM (crcM 0 (l.take 22)) [0, 0, 0, 0]) (l.drop 26) = z2 at *
  generalize bv (sg l 4 4) = y0 at *
  generalize bv (sg l 8 4) = y1 at *
  generalize bv (sg l 12 4) = y2 at *
  generalize bv (sg l 16 4) = y3 at *
  subst h6
  obtain ⟨h31, h32⟩ := h3
  unfold frV at HFR
  go_enter Try.func15, Try.ntmps15
  go_wp2_with fail
  go_quiet (fail)
  have hx1 : (((w.alloc (.cells #[.int .i64 0, .int .u32 0, .int .u32 0, .int .u32 0, .int .u32 0, .slice none 0 0] 25)).drewN nq).alloc (.cells #[.int .i64 (kk : Int), .int .u32 (y0 : Int), .int .u32 (y1 : Int), .int .u32 (y2 : Int), .int .u32 (y3 : Int), .slice none 0 0] 25)).heap.size = w.heap.size + 1 + 1 := by simp
  have HD1 : Hid (DBx w (((w.alloc (.cells #[.int .i64 0, .int .u32 0, .int .u32 0, .int .u32 0, .int .u32 0, .slice none 0 0] 25)).drewN nq).alloc (.cells #[.int .i64 (kk : Int), .int .u32 (y0 : Int), .int .u32 (y1 : Int), .int .u32 (y2 : Int), .int .u32 (y3 : Int), .slice none 0 0] 25)) #[.int .i64 0, .int .u32 0, .int .u32 0, .int .u32 0, .int .u32 0, .slice none 0 0] #[.int .i64 (kk : Int), .int .u32 (y0 : Int), .int .u32 (y1 : Int), .int .u32 (y2 : Int), .int .u32 (y3 : Int), .slice none 0 0]) := hide ⟨by rw [RowKit.Below.heap_alloc _ _ _ (by show w.heap.size < (w.alloc _).heap.size; simp)]; exact HZR.out, by have := Go.heap_alloc_new ((w.alloc (.cells #[.int .i64 0, .int .u32 0, .int .u32 0, .int .u32 0, .int .u32 0, .slice none 0 0] 25)).drewN nq) (.cells #[.int .i64 (kk : Int), .int .u32 (y0 : Int), .int .u32 (y1 : Int), .int .u32 (y2 : Int), .int .u32 (y3 : Int), .slice none 0 0] 25); simpa using this, (below_drewN HZ.out nq).alloc (by show w.heap.size ≤ (w.alloc _).heap.size; simp) _, by rw [hx1]; omega⟩
  have HD4 := HD1
  have HFM : Hid (Calls Try.prog 21 #[.agg #[.int .i64 (kk : Int), .int .u32 (y0 : Int), .int .u32 (y1 : Int), .int .u32 (y2 : Int), .int .u32 (y3 : Int), .slice none 0 0], .int .u32 0] (((w.alloc (.cells #[.int .i64 0, .int .u32 0, .int .u32 0, .int .u32 0, .int .u32 0, .slice none 0 0] 25)).drewN nq).alloc (.cells #[.int .i64 (kk : Int), .int .u32 (y0 : Int), .int .u32 (y1 : Int), .int .u32 (y2 : Int), .int .u32 (y3 : Int), .slice none 0 0] 25)) fun e w' => ∃ v', e = .returned v' ∧ Own w' (((w.alloc (.cells #[.int .i64 0, .int .u32 0, .int .u32 0, .int .u32 0, .int .u32 0, .slice none 0 0] 25)).drewN nq).alloc (.cells #[.int .i64 (kk : Int), .int .u32 (y0 : Int), .int .u32 (y1 : Int), .int .u32 (y2 : Int), .int .u32 (y3 : Int), .slice none 0 0] 25)).heap.size v' (frm kk y0 y1 y2 y3 0 (l.drop 26)) ∧ Below (((w.alloc (.cells #[.int .i64 0, .int .u32 0, .int .u32 0, .int .u32 0, .int .u32 0, .slice none 0 0] 25)).drewN nq).alloc (.cells #[.int .i64 (kk : Int), .int .u32 (y0 : Int), .int .u32 (y1 : Int), .int .u32 (y2 : Int), .int .u32 (y3 : Int), .slice none 0 0] 25)).heap.size (((w.alloc (.cells #[.int .i64 0, .int .u32 0, .int .u32 0, .int .u32 0, .int .u32 0, .slice none 0 0] 25)).drewN nq).alloc (.cells #[.int .i64 (kk : Int), .int .u32 (y0 : Int), .int .u32 (y1 : Int), .int .u32 (y2 : Int), .int .u32 (y3 : Int), .slice none 0 0] 25)) w') := hide (HFR.out _ _ (by rw [HEMP.out h7]; exact ⟨none, 0, rfl, Nat.le_refl _, by unfold maxLen; omega, fun _ => rfl, by simp, by simp⟩))
  clear hx1
  go_wp2_with (first
    | (go_at_call 19; refine (HWR.out _).mono ?_; rintro e w' ⟨rfl, hw⟩; rw [hw]; clear hw)
    | (go_at_call 25; refine (HF0.out nq).mono ?_; rintro e w' ⟨rfl, hw⟩; rw [hw]; clear hw HF0)
    | (go_at_call 25; refine (HF1.out nq).mono ?_; rintro e w' ⟨rfl, hw⟩; rw [hw]; clear hw HF1)
    | (go_at_call 25; refine (HF2.out nq).mono ?_; rintro e w' ⟨rfl, hw⟩; rw [hw]; clear hw HF2)
    | (go_at_call 25; refine (HF3.out nq).mono ?_; rintro e w' ⟨rfl, hw⟩; rw [hw]; clear hw HF3)
    | (go_at_call 21; refine HFM.out.mono ?_; rintro e w5 ⟨v5, rfl, o5, b5⟩
       have HD5 := hide (HD4.out.next b5)
       have HCC := hide (HCR.out w5 v5 o5.bsl)
       have HFF := hide (HFS.out w5 HD5.out.bel)
       skip
       clear o5 b5
       obtain ⟨m0, m1, m2, m3, m4, m5, k0, k1, k2, k3, k4, k5⟩ := row6f HD5.out.r
       obtain ⟨t0, t1, t2, t3, t4, t5, u0, u1, u2, u3, u4, u5⟩ := row6f HD5.out.f)
    | (go_at_call 20; refine HCC.out.mono ?_; rintro e w' ⟨rfl, hw⟩; rw [hw]; clear hw HCC)
    | (go_at_call 25; refine HFF.out.mono ?_; rintro e w' ⟨rfl, hw⟩; rw [hw]; clear hw HFF))
  exact bodyPost_ret (results_row_tmp (p := 2) (u := 3) rfl _ _ w.heap.size 25 _ (0, 0) _ rfl (set6 HD5.out.r (.int .i64 (kk : Int)) (.int .u32 (y0 : Int)) (.int .u32 (y1 : Int)) (.int .u32 (y2 : Int)) (.int .u32 (y3 : Int)) (.slice none 0 0)) Try.underlying25 rfl (by kernel_rfl)) rfl (HG.out _ _ (by rw [HEMP.out h7]; exact ⟨World.ownsRow_nil _ _ _ _, by simp⟩) (bel_set6 HD5.out.bel (Nat.le_refl _) _ _ _ _ _ _))

/-- the document's DecodeFrame, of any bytes -/
theorem rDecodeFrame_any (w : World) (v : Value) (l : List Nat) (h : BSl w v l) : Calls Try.prog 15 #[v] w fun e w' => decPost l w e w' := by
  by_cases hl : l.length < 26
  · exact rd_short w v l h hl
  · by_cases h2 : l.getD 0 0 ≠ 82 ∨ l.getD 1 0 ≠ 70 ∨ l.getD 3 0 ≠ 1
    · exact rd_mark w v l h hl h2
    · by_cases h3 : 1 ≤ l.getD 2 0 ∧ l.getD 2 0 ≤ 4
      · cases h4 : wro (l.getD 2 0 : Nat) (bv (sg l 20 2)) with
        | true => exact rd_wrong w v l h hl h2 h3 h4
        | false =>
          by_cases h5 : l.length < 26 + bv (sg l 20 2)
          · exact rd_less w v l h hl h2 h3 h4 h5
          · by_cases h5' : 26 + bv (sg l 20 2) < l.length
            · exact rd_more w v l h hl h2 h3 h4 h5'
            · by_cases h6 : bv (sg l 22 4) = crcM (crcM (crcM 0 (l.take 22)) [0, 0, 0, 0]) (l.drop 26)
              · by_cases h7 : 0 < bv (sg l 20 2)
                · exact rd_ok1 w v l h hl h2 h3 h4 (by omega) h6 h7
                · exact rd_ok0 w v l h hl h2 h3 h4 (by omega) h6 h7
              · by_cases h7 : 0 < bv (sg l 20 2)
                · exact rd_sum1 w v l h hl h2 h3 h4 (by omega) h6 h7
                · exact rd_sum0 w v l h hl h2 h3 h4 (by omega) h6 h7
      · exact rd_kind w v l h hl h2 h3
end Go.Proofs.Ytacjibfmhhmbcaa
