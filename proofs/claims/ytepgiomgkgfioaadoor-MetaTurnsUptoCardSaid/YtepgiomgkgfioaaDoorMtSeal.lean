import Derived.Test.YtepgiomgkgfioaaDoorMtSeal0
namespace Go.Proofs.YtepgiomgkgfioaaDoor
open Go.RowKit Go.Lib
set_option linter.unusedVariables false
set_option linter.unusedSimpArgs false
set_option maxRecDepth 20000

/-- a superblock's box, and what may have turned -/
structure Bx (w wr : World) (s : Sup) : Prop where
  bel : Below (w.heap.size + 1) (w.alloc (.cells s.row 27)) wr
theorem Bx.row {w wr : World} {s : Sup} (h : Bx w wr s) : wr.heap[w.heap.size]? = some (.cells s.row 27) := (h.bel.block _ (by omega)).trans (Go.heap_alloc_new _ _)
theorem Bx.cell {w wr : World} {s : Sup} (h : Bx w wr s) (j : Nat) : wr.cell? ⟨w.heap.size, j, none⟩ = s.row[j]? := cell_of_row _ _ _ _ _ _ h.row
theorem Bx.trans {w wr w' : World} {s : Sup} (h : Bx w wr s) (k : Below (w.heap.size + 1) wr w') : Bx w w' s := ⟨h.bel.trans k⟩
theorem Bx.size {w wr : World} {s : Sup} (h : Bx w wr s) : w.heap.size + 1 ≤ wr.heap.size := by have := h.bel.size; rw [World.size_alloc] at this; exact this
theorem Bx.below {w wr : World} {s : Sup} (h : Bx w wr s) : Below w.heap.size w wr := ((Below.refl _ _).alloc (Nat.le_refl _) _).trans (h.bel.mono (by omega))
theorem Room.kept {w w' : World} {base g cap : Nat} {l : List Nat} (h : Room w base g cap l) (hb : Below w.heap.size w w') : Room w' base g cap l := ⟨h.own.kept hb, Nat.le_trans h.le hb.size⟩
theorem Room.mono {w : World} {base base' g cap : Nat} {l : List Nat} (h : Room w base g cap l) (hb : base' ≤ base) (hw : base' ≤ w.heap.size) : Room w base' g cap l := by
  obtain ⟨cur, h1, h2, h3, h4, h5, h6⟩ := h.row
  exact Room.mk' h1 h2 h3 (Nat.le_trans hb h4) h5 h6 h.own.2 hw
theorem BSl.sum {w : World} (l : List Nat) : BSl (w.alloc (.cells ((shaL l).map byteV).toArray 64)) (.slice (some ⟨w.heap.size, 0, none⟩) 32 32) (shaL l) := by
  refine ⟨_, 32, by rw [shaL_len], by rw [shaL_len]; omega, by unfold maxLen; omega, by simp, shaL_lt l, fun _ => ⟨w.heap.size, 0, rfl, fun i hi => ?_⟩⟩
  rw [cell_of_row _ _ (0 + i) _ _ _ (Go.heap_alloc_new w _), Nat.zero_add, List.getElem?_toArray, map_byteV_getD hi]
def SealPost (w : World) (s : Sup) (e : Ending) (w' : World) : Prop := ∃ g, e = .returned (.tuple #[gsl g s.size.toNat s.size.toNat, .int .i64 0]) ∧ Room w' w.heap.size g s.size.toNat s.enc ∧ Below w.heap.size w w'
theorem seal_no (w : World) (s : Sup) (hw : s.Wf) (ho : s.ok = false) : Calls Tryd.prog 7 #[s.val] w fun e w' => e = .returned (.tuple #[.slice none 0 0, .int .i64 53]) ∧ Below w.heap.size w w' := by
  have H1 := hide fun x => validSuper_any x s hw
  rw [ho] at H1
  have HB := hide (Below.refl w.heap.size w)
  clear hw ho
  unfold Sup.val Sup.row at *
  go_enter Tryd.func7, Tryd.ntmps7
  go_wp2_with (go_at_call 17; refine (H1.out _).mono ?_; rintro e w1 ⟨rfl, hb1⟩; have HB1 := hide hb1; clear hb1)
  go_ret2
  exact ⟨rfl, (HB.out.alloc (Nat.le_refl _) _).trans (HB1.out.mono (by simp))⟩
set_option maxHeartbeats 4000000 in
theorem seal_yes (w : World) (s : Sup) (hw : s.Wf) (ho : s.ok = true) (hT : Tabs w) : Calls Tryd.prog 7 #[s.val] w fun e w' => SealPost w s e w' := by
  have H1 := hide fun x => validSuper_any x s hw
  rw [ho] at H1
  obtain ⟨hq, hg0, hg1, hg2, hg3, hf, -⟩ := hw
  simp only [Sup.ok, Bool.and_eq_true, decide_eq_true_eq] at ho
  obtain ⟨⟨⟨⟨⟨ho1, ho2⟩, ho3⟩, ho4⟩, ho5⟩, ho6⟩ := ho
  obtain ⟨q, b, z, k, g0, g1, g2, g3, f, m⟩ := s
  dsimp only at *
  obtain ⟨nb, rfl⟩ : ∃ n : Nat, b = n := ⟨b.toNat, by omega⟩
  obtain ⟨nz, rfl⟩ : ∃ n : Nat, z = n := ⟨z.toNat, by have := okSz_pos ho3; omega⟩
  obtain ⟨nk, rfl⟩ : ∃ n : Nat, k = n := ⟨k.toNat, by omega⟩
  obtain ⟨nm, rfl⟩ : ∃ n : Nat, m = n := ⟨m.toNat, by omega⟩
  have hz1 := okSz_pos ho3
  have hnz : 128 ≤ nz ∧ nz ≤ 1024 := by omega
  clear ho3 hz1
  obtain ⟨Z, hmk, hZ⟩ := run_room nz (by omega)
  obtain ⟨s, hs⟩ : ∃ s, s = (⟨q, nb, nz, nk, g0, g1, g2, g3, f, nm⟩ : Sup) := ⟨_, rfl⟩
  rw [← hs] at H1 ⊢
  have HS := hide hs
  have HT := hide hT
  have HX : Hid (∀ w1, Below (w.alloc (.cells s.row 27)).heap.size (w.alloc (.cells s.row 27)) w1 → Bx w w1 s) := hide fun w1 h => ⟨by rw [World.size_alloc] at h; exact h⟩
  have HC : Hid (∀ w1, Bx w w1 s → ∀ j, w1.cell? ⟨w.heap.size, j, none⟩ = (#[.int .u64 (q : Int), .int .i64 nb, .int .i64 nz, .int .i64 nk, .int .u64 (g0 : Int), .int .u64 (g1 : Int), .int .u64 (g2 : Int), .int .u64 (g3 : Int), .int .u32 (f : Int), .int .i64 nm] : Array Value)[j]?) := hide fun w1 h j => by rw [h.cell j, hs]; rfl
  unfold Sup.val at *
  rw [show s.row = #[.int .u64 (q : Int), .int .i64 nb, .int .i64 nz, .int .i64 nk, .int .u64 (g0 : Int), .int .u64 (g1 : Int), .int .u64 (g2 : Int), .int .u64 (g3 : Int), .int .u32 (f : Int), .int .i64 nm] by rw [hs]; rfl] at *
  clear hs hT
  go_enter Tryd.func7, Tryd.ntmps7
  go_wp2_with (first
    | (go_at_call 17; refine (H1.out _).mono ?_; rintro e w1 ⟨rfl, hb1⟩; have HB1 := hide (HX.out _ hb1); have c2 : w1.cell? ⟨w.heap.size, 2, none⟩ = some (.int .i64 nz) := HC.out _ HB1.out 2; clear hb1)
    | (at_builtin; refine wpList_roomS rfl (.tmp 15) _ rfl (w.heap.size + 1) w1.heap.size 0 8 nz _ [] lets rfl rfl rfl rfl rfl lets_cells (by decide) ?_ (by omega) ?_))
  · exact Room.mk' (Go.heap_alloc_new _ _) hZ rfl HB1.out.size (Nat.zero_le _) (by unfold maxLen; omega) (by simp) (by rw [World.size_alloc]; have := HB1.out.size; omega)
  intro w2 hr2 hb2
  have HR2 : Hid (Room w2 (w.heap.size + 1) w1.heap.size nz lets) := hide hr2
  have HB2 := hide ((HB1.out.trans ((Below.refl _ _).alloc HB1.out.size _)).trans hb2)
  have c0 : w2.cell? ⟨w.heap.size, 0, none⟩ = some (.int .u64 (q : Int)) := HC.out _ HB2.out 0
  have hgg := HB1.out.size
  generalize hg : w1.heap.size = g at *
  clear hr2 hb2 hmk c2 HB1 hg
  unfold gsl
  go_wp2_with (go_at_call 18; refine (app_8 (w.heap.size + 1) g 8 nz lets _ HR2.out rfl (by omega) (by omega) q hq).mono ?_; rintro e w3 ⟨rfl, hr3, hb3⟩; have HR3 := hide hr3; have HB3 := hide (HB2.out.trans hb3); have c1 : w3.cell? ⟨w.heap.size, 1, none⟩ = some (.int .i64 nb) := HC.out _ HB3.out 1; have c2 : w3.cell? ⟨w.heap.size, 2, none⟩ = some (.int .i64 nz) := HC.out _ HB3.out 2; have c3 : w3.cell? ⟨w.heap.size, 3, none⟩ = some (.int .i64 nk) := HC.out _ HB3.out 3; have c9 : w3.cell? ⟨w.heap.size, 9, none⟩ = some (.int .i64 nm) := HC.out _ HB3.out 9; unfold gsl; clear hr3 hb3)
  have HLen : Hid ((lets ++ bW q 8 8).length = 16) := hide (by simp [lets, bW_len])
  have HI : Hid (∀ i, (bW (s.ints i) 4 4).length = 4) := hide fun i => bW_len _ _ _
  have HI0 : Hid (s.ints 0 = nb) := hide (by rw [HS.out]; rfl)
  have HI1 : Hid (s.ints 1 = nz) := hide (by rw [HS.out]; rfl)
  have HI2 : Hid (s.ints 2 = nk) := hide (by rw [HS.out]; rfl)
  have HI3 : Hid (s.ints 3 = nm) := hide (by rw [HS.out]; rfl)
  go_loopw [4, 30] (fun v i wr => ∃ k : Nat, k ≤ 4 ∧ i = .int .i64 (k : Int) ∧ v = .slice (some ⟨g, 0, none⟩) (16 + 4 * k) nz ∧ Room wr (w.heap.size + 1) g nz ((lets ++ bW q 8 8) ++ cat (fun i => bW (s.ints i) 4 4) k) ∧ Bx w wr s) (fun _ i _ => 4 - (intOf i).toNat)
  case atStart => exact ⟨0, by omega, rfl, rfl, by rw [cat, List.append_nil]; exact HR3.out, HB3.out⟩
  case round =>
    clear HR2 HB2 HR3 HB3 c0 c1 c2 c3 c9
    obtain ⟨j, hj, rfl, rfl, hr, hb⟩ := hrel
    have HR := hide hr
    have HB := hide hb
    have HL : Hid (((lets ++ bW q 8 8) ++ cat (fun i => bW (s.ints i) 4 4) j).length = 16 + 4 * j) := hide (by rw [List.length_append, HLen.out, cat_len _ 4 HI.out])
    clear hr hb
    rcases (show j = 4 ∨ j = 0 ∨ j = 1 ∨ j = 2 ∨ j = 3 by omega) with rfl | rfl | rfl | rfl | rfl
    · rw [show ((4 : Nat) : Int) = 4 from rfl, show 16 + 4 * 4 = 32 from rfl]
      have d4 : wr.cell? ⟨w.heap.size, 4, none⟩ = some (.int .u64 (g0 : Int)) := HC.out _ HB.out 4
      have d5 : wr.cell? ⟨w.heap.size, 5, none⟩ = some (.int .u64 (g1 : Int)) := HC.out _ HB.out 5
      have d6 : wr.cell? ⟨w.heap.size, 6, none⟩ = some (.int .u64 (g2 : Int)) := HC.out _ HB.out 6
      have d7 : wr.cell? ⟨w.heap.size, 7, none⟩ = some (.int .u64 (g3 : Int)) := HC.out _ HB.out 7
      go_wp2
      clear d4 d5 d6 d7
      have HLen2 := hide HL.out
      obtain ⟨L2, hL2⟩ : ∃ L2, L2 = ((lets ++ bW q 8 8) ++ cat (fun i => bW (s.ints i) 4 4) 4) := ⟨_, rfl⟩
      have HL2 := hide hL2
      rw [← hL2] at HR HLen2
      clear hL2
      have HJ : Hid (∀ i, (bW (s.gens i) 8 8).length = 8) := hide fun i => bW_len _ _ _
      have HJ0 : Hid (s.gens 0 = g0) := hide (by rw [HS.out]; rfl)
      have HJ1 : Hid (s.gens 1 = g1) := hide (by rw [HS.out]; rfl)
      have HJ2 : Hid (s.gens 2 = g2) := hide (by rw [HS.out]; rfl)
      have HJ3 : Hid (s.gens 3 = g3) := hide (by rw [HS.out]; rfl)
      go_loopw [4, 51] (fun v i wr => ∃ k : Nat, k ≤ 4 ∧ i = .int .i64 (k : Int) ∧ v = .slice (some ⟨g, 0, none⟩) (32 + 8 * k) nz ∧ Room wr (w.heap.size + 1) g nz (L2 ++ cat (fun i => bW (s.gens i) 8 8) k) ∧ Bx w wr s) (fun _ i _ => 4 - (intOf i).toNat)
      case atStart => exact ⟨0, by omega, rfl, rfl, by rw [cat, List.append_nil]; exact HR.out, HB.out⟩
      case round =>
        clear HR HB HL HLen HI HI0 HI1 HI2 HI3
        obtain ⟨j, hj, rfl, rfl, hr, hb⟩ := hrel
        have HR := hide hr
        have HB := hide hb
        have HL : Hid ((L2 ++ cat (fun i => bW (s.gens i) 8 8) j).length = 32 + 8 * j) := hide (by rw [List.length_append, HLen2.out, cat_len _ 8 HJ.out])
        clear hr hb
        rcases (show j = 4 ∨ j = 0 ∨ j = 1 ∨ j = 2 ∨ j = 3 by omega) with rfl | rfl | rfl | rfl | rfl
        · rw [show ((4 : Nat) : Int) = 4 from rfl, show 32 + 8 * 4 = 64 from rfl]
          have d8 : wr.cell? ⟨w.heap.size, 8, none⟩ = some (.int .u32 (f : Int)) := HC.out _ HB.out 8
          have hm : ((nz - 100 : Nat) : Int) = (nz : Int) - 100 := by omega
          have hm' : ((nz - 100 : Nat) : Int) = (nz : Int) - 32 - 68 := by omega
          have HF : Hid ((L2 ++ cat (fun i => bW (s.gens i) 8 8) 4) ++ bW f 4 4 = s.fld) := hide (by rw [HL2.out, Sup.fld, show s.seq = q by rw [HS.out], show s.flags = f by rw [HS.out]])
          have HFL := hide s.fld_len
          have HHD : Hid (s.fld ++ List.replicate (nz - 100) 0 = s.head) := hide (by rw [Sup.head, show s.size.toNat = nz by rw [HS.out]; exact Int.toNat_natCast nz])
          have HHL : Hid (s.head.length = 68 + (nz - 100)) := hide (by rw [← HHD.out, List.length_append, HFL.out, List.length_replicate])
          obtain ⟨k1, k2, k3⟩ := sum_shape s.head
          have HK1 := hide k1
          have HK2 := hide k2
          have HK3 := hide k3
          clear k1 k2 k3
          go_wp2_with (first
            | (go_at_call 18; refine (app_4 (w.heap.size + 1) g 64 nz _ _ HR.out HL.out (by omega) (by omega) f (by omega)).mono ?_; rintro e w4 ⟨rfl, hr4, hb4⟩; rw [HF.out] at hr4; have HR4 := hide hr4; have HB4 := hide (HB.out.trans hb4); have d2 : w4.cell? ⟨w.heap.size, 2, none⟩ = some (.int .i64 nz) := HC.out _ HB4.out 2; unfold gsl; clear hr4 hb4 d8)
            | (at_builtin; refine wpList_room0 rfl (.tmp 63) (.tmp 69) rfl (w.heap.size + 1) g 68 (nz - 100) nz s.fld rfl (by first | (rw [hm']; rfl) | (rw [hm]; rfl)) HFL.out HR4.out (by omega) (by omega) (by omega) ?_; intro w5 hr5 hb5; rw [HHD.out] at hr5; have HR5 := hide hr5; have HB5 := hide (HB4.out.trans hb5); have HV5 : Hid (BSl w5 (.slice (some ⟨g, 0, none⟩) (68 + (nz - 100)) nz) s.head) := hide (by have hx := HR5.out.own.bsl; rw [HHL.out] at hx; exact hx); unfold gsl; clear hr5 hb5 d2)
            | (go_at_call 19; refine (sum256_any _ s.head w5 (by rw [HHL.out]; omega) (HT.out.below HB5.out.below) HV5.out).mono ?_; rintro e w6 ⟨rfl, hb6⟩; have HB6 := hide (HB5.out.trans (hb6.mono HB5.out.size)); have HR6 := hide (HR5.out.kept hb6); have HSH := hide (BSl.sum (w := w6) s.head); clear hb6; generalize ((shaL s.head).map byteV).toArray = oa at *)
            | refine wpList_alloc_as rfl 64 rfl (.agg zero32) zero32 Tryd.zero32 rfl ?_
            | (refine wpList_store_row rfl 64 _ _ rfl w6.heap.size oa (by first | rfl | simp [Act.eval, Act.put]) (by first | rfl | simp [Act.eval, Act.put]) 64 zero32 (Go.heap_alloc_new w6 _) HK1.out HK2.out HK3.out ?_; rw [World.setRow_alloc_new])
            | (at_builtin; refine wpList_room rfl (.tmp 73) (.tmp 74) rfl (w.heap.size + 1) g (68 + (nz - 100)) 32 nz _ s.head (shaL s.head) rfl rfl HHL.out (shaL_len _) (HR6.out.alloc _) HSH.out (by rw [shaL_len]; decide) (by omega) ?_; intro w7 hr7 hb7; have HR7 := hide hr7; have HB7 := hide ((HB6.out.trans ((Below.refl _ _).alloc HB6.out.size _)).trans hb7); clear hr7 hb7; unfold gsl))
          go_ret2
          refine ⟨g, ?_, ?_, HB7.out.below⟩
          · rw [show s.size.toNat = nz by rw [HS.out]; exact Int.toNat_natCast nz]
            have e : 68 + (nz - 100) + 32 = nz := by omega
            show Ending.returned (Value.tuple #[Value.slice (some ⟨g, 0, none⟩) (68 + (nz - 100) + 32) nz, .int .i64 0]) = _
            rw [e]
            rfl
          · rw [show s.size.toNat = nz by rw [HS.out]; exact Int.toNat_natCast nz]
            exact HR7.out.mono (by omega) HB7.out.below.size
        · have hix : ∀ w, (Instr.index 63 (.agg #[.int .u64 g0, .int .u64 g1, .int .u64 g2, .int .u64 g3]) (.int .i64 0)).run Tryd.prog w = .ok (.int .u64 g0) w := idx4u g0 g1 g2 g3 0 (by decide)
          go_wp2_with (go_at_call 18; refine (app_8 (w.heap.size + 1) g (32 + 8 * 0) nz _ _ HR.out HL.out (by omega) (by omega) g0 (by omega)).mono ?_; rintro e w4 ⟨rfl, hr4, hb4⟩; have HR4 := hide hr4; have HB4 := hide (HB.out.trans hb4); unfold gsl; clear hr4 hb4)
          go_roundw
          case rel => exact ⟨1, by omega, by go_num, rfl, by rw [cat, HJ0.out, ← List.append_assoc]; exact HR4.out, HB4.out⟩
          case measure => simp [intOf]
        · have hix : ∀ w, (Instr.index 63 (.agg #[.int .u64 g0, .int .u64 g1, .int .u64 g2, .int .u64 g3]) (.int .i64 1)).run Tryd.prog w = .ok (.int .u64 g1) w := idx4u g0 g1 g2 g3 1 (by decide)
          go_wp2_with (go_at_call 18; refine (app_8 (w.heap.size + 1) g (32 + 8 * 1) nz _ _ HR.out HL.out (by omega) (by omega) g1 (by omega)).mono ?_; rintro e w4 ⟨rfl, hr4, hb4⟩; have HR4 := hide hr4; have HB4 := hide (HB.out.trans hb4); unfold gsl; clear hr4 hb4)
          go_roundw
          case rel => exact ⟨2, by omega, by go_num, rfl, by rw [cat, HJ1.out, ← List.append_assoc]; exact HR4.out, HB4.out⟩
          case measure => simp [intOf]
        · have hix : ∀ w, (Instr.index 63 (.agg #[.int .u64 g0, .int .u64 g1, .int .u64 g2, .int .u64 g3]) (.int .i64 2)).run Tryd.prog w = .ok (.int .u64 g2) w := idx4u g0 g1 g2 g3 2 (by decide)
          go_wp2_with (go_at_call 18; refine (app_8 (w.heap.size + 1) g (32 + 8 * 2) nz _ _ HR.out HL.out (by omega) (by omega) g2 (by omega)).mono ?_; rintro e w4 ⟨rfl, hr4, hb4⟩; have HR4 := hide hr4; have HB4 := hide (HB.out.trans hb4); unfold gsl; clear hr4 hb4)
          go_roundw
          case rel => exact ⟨3, by omega, by go_num, rfl, by rw [cat, HJ2.out, ← List.append_assoc]; exact HR4.out, HB4.out⟩
          case measure => simp [intOf]
        · have hix : ∀ w, (Instr.index 63 (.agg #[.int .u64 g0, .int .u64 g1, .int .u64 g2, .int .u64 g3]) (.int .i64 3)).run Tryd.prog w = .ok (.int .u64 g3) w := idx4u g0 g1 g2 g3 3 (by decide)
          go_wp2_with (go_at_call 18; refine (app_8 (w.heap.size + 1) g (32 + 8 * 3) nz _ _ HR.out HL.out (by omega) (by omega) g3 (by omega)).mono ?_; rintro e w4 ⟨rfl, hr4, hb4⟩; have HR4 := hide hr4; have HB4 := hide (HB.out.trans hb4); unfold gsl; clear hr4 hb4)
          go_roundw
          case rel => exact ⟨4, by omega, by go_num, rfl, by rw [cat, HJ3.out, ← List.append_assoc]; exact HR4.out, HB4.out⟩
          case measure => simp [intOf]
    · have hix : ∀ w, (Instr.index 62 (.agg #[.int .i64 nb, .int .i64 nz, .int .i64 nk, .int .i64 nm]) (.int .i64 0)).run Tryd.prog w = .ok (.int .i64 nb) w := idx4i nb nz nk nm 0 (by decide)
      go_wp2_with (go_at_call 18; refine (app_4 (w.heap.size + 1) g (16 + 4 * 0) nz _ _ HR.out HL.out (by omega) (by omega) nb (by omega)).mono ?_; rintro e w4 ⟨rfl, hr4, hb4⟩; have HR4 := hide hr4; have HB4 := hide (HB.out.trans hb4); unfold gsl; clear hr4 hb4)
      go_roundw
      case rel => exact ⟨1, by omega, by go_num, rfl, by rw [cat, HI0.out, ← List.append_assoc]; exact HR4.out, HB4.out⟩
      case measure => simp [intOf]
    · have hix : ∀ w, (Instr.index 62 (.agg #[.int .i64 nb, .int .i64 nz, .int .i64 nk, .int .i64 nm]) (.int .i64 1)).run Tryd.prog w = .ok (.int .i64 nz) w := idx4i nb nz nk nm 1 (by decide)
      go_wp2_with (go_at_call 18; refine (app_4 (w.heap.size + 1) g (16 + 4 * 1) nz _ _ HR.out HL.out (by omega) (by omega) nz (by omega)).mono ?_; rintro e w4 ⟨rfl, hr4, hb4⟩; have HR4 := hide hr4; have HB4 := hide (HB.out.trans hb4); unfold gsl; clear hr4 hb4)
      go_roundw
      case rel => exact ⟨2, by omega, by go_num, rfl, by rw [cat, HI1.out, ← List.append_assoc]; exact HR4.out, HB4.out⟩
      case measure => simp [intOf]
    · have hix : ∀ w, (Instr.index 62 (.agg #[.int .i64 nb, .int .i64 nz, .int .i64 nk, .int .i64 nm]) (.int .i64 2)).run Tryd.prog w = .ok (.int .i64 nk) w := idx4i nb nz nk nm 2 (by decide)
      go_wp2_with (go_at_call 18; refine (app_4 (w.heap.size + 1) g (16 + 4 * 2) nz _ _ HR.out HL.out (by omega) (by omega) nk (by omega)).mono ?_; rintro e w4 ⟨rfl, hr4, hb4⟩; have HR4 := hide hr4; have HB4 := hide (HB.out.trans hb4); unfold gsl; clear hr4 hb4)
      go_roundw
      case rel => exact ⟨3, by omega, by go_num, rfl, by rw [cat, HI2.out, ← List.append_assoc]; exact HR4.out, HB4.out⟩
      case measure => simp [intOf]
    · have hix : ∀ w, (Instr.index 62 (.agg #[.int .i64 nb, .int .i64 nz, .int .i64 nk, .int .i64 nm]) (.int .i64 3)).run Tryd.prog w = .ok (.int .i64 nm) w := idx4i nb nz nk nm 3 (by decide)
      go_wp2_with (go_at_call 18; refine (app_4 (w.heap.size + 1) g (16 + 4 * 3) nz _ _ HR.out HL.out (by omega) (by omega) nm (by omega)).mono ?_; rintro e w4 ⟨rfl, hr4, hb4⟩; have HR4 := hide hr4; have HB4 := hide (HB.out.trans hb4); unfold gsl; clear hr4 hb4)
      go_roundw
      case rel => exact ⟨4, by omega, by go_num, rfl, by rw [cat, HI3.out, ← List.append_assoc]; exact HR4.out, HB4.out⟩
      case measure => simp [intOf]
end Go.Proofs.YtepgiomgkgfioaaDoor
