import Derived.Test.YtkjaaknlhmneoacDoorMtRef3
import Derived.Test.YtkjaaknlhmneoacDoorMtSpo0
import Derived.Test.YtkjaaknlhmneoacDoorFlip
namespace Go.Proofs.YtkjaaknlhmneoacDoor
open Go.RowKit Go.Lib
open Num
set_option linter.unusedVariables false
set_option linter.unusedSimpArgs false
set_option maxRecDepth 20000

theorem made_zeros8 (n : Nat) (hn : n ≤ 8388608) (w : World) : (Instr.makeSlice 22 (.int .i64 (n : Int)) (.int .i64 (n : Int))).run Tryd.prog w = .ok (.slice (some ⟨w.heap.size, 0, none⟩) n n) (w.alloc (.cells ((List.replicate n 0).map byteV).toArray 5)) := by
  obtain ⟨i0, hi, hz0, hz1, hz2⟩ := info_parts Tryd.info5
  have hr := run_make (P := Tryd.prog) w 22 5 i0 (.int .u8 0) Tryd.underlying22 hi hz0 .i64 .i64 (n : Int) (n : Int) (by omega) (by omega) (by rw [hz2]; omega) (by omega)
  simp only [Int.toNat_natCast] at hr
  rw [hz1] at hr
  rw [hr]
  congr 3
  apply Array.ext'
  apply List.ext_getElem?
  intro i
  by_cases h : i < n
  · simp [madeCells, byteV, Value.cells, h, Nat.mod_one]
  · simp [madeCells, byteV, Value.cells, h, Nat.mod_one]
/-- the walk of head -/
structure HD (w wr : World) (xb g N : Nat) (FA : Array Value) (L : List Nat) : Prop where
  rm : Room wr (w.heap.size + 1) g N L
  xr : wr.heap[xb]? = some (.cells FA 62 (0, 0))
  bel : Below w.heap.size w wr
  ne : xb ≠ g
  len : L.length = N
theorem HD.set {w wr : World} {xb g N : Nat} {FA : Array Value} {L : List Nat} (h : HD w wr xb g N FA L) (p x : Nat) (hx : x < 256) : HD w (wr.setCell ⟨g, p, none⟩ (.int .u8 (x : Int))) xb g N FA (L.set p x) := by
  obtain ⟨cur, h1, _, _, h4, _⟩ := h.rm.row
  refine ⟨⟨?_, by simpa [World.setCell] using h.rm.le⟩, (Go.heap_setCell_other _ _ _ _ h.ne).trans h.xr, h.bel.setCell (p := ⟨g, p, none⟩) (by show w.heap.size ≤ g; omega) _, h.ne, by rw [List.length_set]; exact h.len⟩
  have h' := h.rm.own.stored p x hx
  unfold gsl
  rw [List.length_set]
  exact h'
theorem HD.drew {w wr : World} {xb g N : Nat} {FA : Array Value} {L : List Nat} (h : HD w wr xb g N FA L) : HD w wr.drew xb g N FA L := ⟨h.rm.kept (Below.refl _ _).drew, h.xr, h.bel.drew, h.ne, h.len⟩
theorem HD.cell {w wr : World} {xb g N : Nat} {FA : Array Value} {L : List Nat} (h : HD w wr xb g N FA L) {p : Nat} (hp : p < N) : wr.cell? ⟨g, p, none⟩ = some (.int .u8 (L.getD p 0 : Nat)) ∧ wr.frozen? ⟨g, p, none⟩ = false := by
  have hl := h.len
  have := h.rm.own.1
  unfold gsl at this
  refine ⟨?_, this.frozenAt p⟩
  rw [this.cellAt p (by omega), map_byteV_getD (by omega)]
theorem plc_wid {f : Nat} (hf : f < 10) : plc f + wid f = plc (f + 1) ∧ plc f + wid f ≤ 68 ∧ 1 ≤ wid f ∧ wid f ≤ 8 := by
  rcases (show f = 0 ∨ f = 1 ∨ f = 2 ∨ f = 3 ∨ f = 4 ∨ f = 5 ∨ f = 6 ∨ f = 7 ∨ f = 8 ∨ f = 9 by omega) with rfl | rfl | rfl | rfl | rfl | rfl | rfl | rfl | rfl | rfl <;> decide
theorem preF_next (s : Sup) {f N : Nat} (hf : f < 10) (hN : 96 ≤ N) : preF s f ++ (inn ((fls s).getD f 0) (wid f) (wid f) ++ List.replicate (N - plc f - wid f) 0) = preF s (f + 1) ++ List.replicate (N - plc (f + 1)) 0 := by
  rw [inn_full, ← List.append_assoc, preF, show plc (f + 1) = plc f + wid f from (plc_wid hf).1.symm, Nat.sub_sub]
theorem pre_set (s : Sup) {f V n t K j : Nat} (ht : t < n) (hj : n - 1 - t = j) : (preF s f ++ (inn V n t ++ List.replicate K 0)).set (plc f + j) (V / 2 ^ (8 * t) % 256) = preF s f ++ (inn V n (t + 1) ++ List.replicate K 0) := by
  subst hj
  rw [List.set_append_right _ _ (by rw [preF_len]; omega), preF_len, Nat.add_sub_cancel_left, List.set_append_left _ _ (by rw [inn_len (by omega)]; omega), inn_step ht]
set_option maxHeartbeats 2000000 in
theorem rhead_x (w : World) (s : Sup) (hOk : s.Ok) (N : Nat) (hN : s.size.toNat = N + 32) (hN2 : 96 ≤ N) (hN3 : N ≤ 992) : Calls Tryd.prog 30 #[s.val, .int .i64 ((N + 32 : Nat) : Int)] w fun e w' => ∃ g, e = .returned (gsl g N N) ∧ Room w' w.heap.size g N s.head ∧ Below w.heap.size w w' := by
  have HF := hide fun x => rfields_any x s hOk
  have hmk := made_zeros8 N (by omega)
  have HX := hide (Bx.start w s)
  obtain ⟨q, nz, g0, g1, g2, g3, f, b, k, mk, hs, hn1, hn2, hnt, hv, hr⟩ := hOk.parts
  have HFS : Hid ((Tryd.prog.info? 62).map (·.size) = some ((fls s).map u64V).toArray.size) := hide (by kernel_rfl)
  have HFZ : Hid ((#[.int .u64 0, .int .u64 0, .int .u64 0, .int .u64 0, .int .u64 0, .int .u64 0, .int .u64 0, .int .u64 0, .int .u64 0, .int .u64 0] : Array Value).size = ((fls s).map u64V).toArray.size) := hide rfl
  have HFO : Hid (((fls s).map u64V).toArray.all (·.oneCell') = true) := hide (by simp [fls, u64V, Value.oneCell'])
  rw [hv] at HF ⊢
  rw [hr] at HX
  have HZ : Hid (∀ (w2 : World) (A : Array Value), Below w.heap.size w w2 → w.heap.size + 1 ≤ w2.heap.size → HD w ((w2.alloc (.cells A 62)).alloc (.cells ((List.replicate N 0).map byteV).toArray 5)) w2.heap.size (w2.heap.size + 1) N A (lets.take 0 ++ List.replicate (N - 0) 0)) := hide fun w2 A hb hs => by
    rw [List.take_zero, List.nil_append, Nat.sub_zero]
    refine ⟨Room.mk' (heap_alloc2_new _ _ _) (by simp) (by simp [List.take_of_length_le]) (by omega) (by simp) (by unfold maxLen; omega) (by intro x hx; simp at hx; omega) (by simp; omega), heap_two' _ _ _, (hb.alloc (by omega) _).alloc (by simp; omega) _, by omega, by simp⟩
  have HFA : Hid (∀ i, i < 10 → ((fls s).map u64V).toArray[i]? = some (.int .u64 ((fls s).getD i 0 : Nat)) ∧ (fls s).getD i 0 < 18446744073709551616) := hide fun i hi => by
    obtain ⟨q', b', z', k', g0', g1', g2', g3', f', m', rfl, hz', t1, t2, t3, t4, t5, t6, t7, t8, t9, t10⟩ := hOk.nat
    rcases (show i = 0 ∨ i = 1 ∨ i = 2 ∨ i = 3 ∨ i = 4 ∨ i = 5 ∨ i = 6 ∨ i = 7 ∨ i = 8 ∨ i = 9 by omega) with rfl | rfl | rfl | rfl | rfl | rfl | rfl | rfl | rfl | rfl <;> refine ⟨rfl, ?_⟩ <;> simp [fls] <;> omega
  have HHD : Hid (s.head = preF s 10 ++ List.replicate (N - plc 10) 0) := hide (by
    rw [Sup.head, preF_all, hN, show plc 10 = 68 from rfl, show N + 32 - 100 = N - 68 by omega])
  clear hs hnt hv hr hOk
  generalize ((fls s).map u64V).toArray = FA at *
  generalize ((List.replicate N 0).map byteV).toArray = ZZ at *
  go_enter Tryd.func30, Tryd.ntmps30
  go_wp2_with (first
    | (go_at_call 51; refine (HF.out _).mono ?_; rintro e w2 ⟨rfl, hb2⟩; have HB2 := hide (HX.out.below' hb2); clear hb2)
    | (refine wpList_store_row rfl 62 (.tmp 5) _ rfl w2.heap.size FA rfl rfl 62 _ (Go.heap_alloc_new w2 _) HFS.out HFZ.out HFO.out ?_; rw [World.setRow_alloc_new]))
  have HZ2 := hide (HZ.out w2 FA HB2.out.below HB2.out.size)
  generalize (w2.alloc (.cells FA 62)).alloc (.cells ZZ 5) = w3 at *
  generalize hxb : w2.heap.size = xb at *
  generalize hgg : xb + 1 = g at *
  go_loopw [7] (fun i wr => ∃ j : Nat, j ≤ 8 ∧ i = .int .i64 j ∧ HD w wr xb g N FA (lets.take j ++ List.replicate (N - j) 0)) (fun i _ => 8 - (intOf i).toNat)
  case atStart => exact ⟨0, Nat.zero_le _, rfl, HZ2.out⟩
  case round =>
    obtain ⟨j, hj, rfl, hd⟩ := hrel
    have HDD := hide hd
    clear hd
    rcases (show j = 8 ∨ j = 0 ∨ j = 1 ∨ j = 2 ∨ j = 3 ∨ j = 4 ∨ j = 5 ∨ j = 6 ∨ j = 7 by omega) with rfl | rfl | rfl | rfl | rfl | rfl | rfl | rfl | rfl
    · have HD8 : Hid (HD w wr xb g N FA (preF s 0 ++ List.replicate (N - plc 0) 0)) := hide HDD.out
      rw [show ((8 : Nat) : Int) = 8 from rfl]
      clear HDD HZ2
      go_wp2_with fail
      go_loopw [8] (fun i wr => ∃ f : Nat, f ≤ 10 ∧ i = .int .i64 f ∧ HD w wr xb g N FA (preF s f ++ List.replicate (N - plc f) 0)) (fun i _ => 10 - (intOf i).toNat)
      case atStart => exact ⟨0, Nat.zero_le _, rfl, HD8.out⟩
      case round =>
        clear HD8
        obtain ⟨fi, hfi, rfl, hd⟩ := hrel
        have HDF := hide hd
        clear hd
        by_cases hlt : fi < 10
        · obtain ⟨h1, h2⟩ := HFA.out fi hlt
          have cv : wr.cell? ⟨xb, fi, none⟩ = some (.int .u64 ((fls s).getD fi 0 : Nat)) := by rw [cell_of_row _ _ _ _ _ _ HDF.out.xr, h1]
          have HP := hide fun x => place_any x fi hlt
          have HW := hide fun x => wide_any x fi hlt
          have HST := hide (preF_next s hlt (N := N) (by omega))
          have hpw := plc_wid hlt
          have HPS := hide (fun V n t K j => pre_set s (f := fi) (V := V) (n := n) (t := t) (K := K) (j := j))
          clear h1
          generalize (fls s).getD fi 0 = V at *
          generalize wid fi = n at *
          generalize plc fi = P at *
          go_wp2_with (first
            | (go_at_call 26; refine (HP.out _).mono ?_; rintro e w5 ⟨rfl, rfl⟩)
            | (go_at_call 27; refine (HW.out _).mono ?_; rintro e w5 ⟨rfl, rfl⟩))
          clear HP HW cv
          go_loopw [11, 12] (fun v i wr => ∃ t X : Nat, t ≤ n ∧ X = V / 2 ^ (8 * t) ∧ v = .int .u64 (X : Int) ∧ i = .int .i64 ((n : Int) - 1 - (t : Int)) ∧ HD w wr xb g N FA (preF s fi ++ (inn V n t ++ List.replicate (N - P - n) 0))) (fun _ i _ => (intOf i + 1).toNat)
          case atStart =>
            refine ⟨0, V, Nat.zero_le _, by simp, rfl, ?_, ?_⟩
            · go_num
            · rw [inn_zero, List.replicate_append_replicate, show n + (N - P - n) = N - P by omega]
              exact HDF.out
          case round =>
            clear HDF
            obtain ⟨t, X, ht, hX, rfl, rfl, hd⟩ := hrel
            have HDI := hide hd
            have hXl : X < 18446744073709551616 := by rw [hX]; exact Nat.lt_of_le_of_lt (Nat.div_le_self _ _) h2
            have hX2 : Hid (X / 256 = V / 2 ^ (8 * (t + 1))) := hide (by rw [hX, Nat.div_div_eq_div_mul, show (256 : Nat) = 2 ^ 8 from rfl, ← Nat.pow_add]; rfl)
            have HXV := hide hX
            clear hd hX
            by_cases htn : t < n
            · obtain ⟨c1, c2⟩ := HDI.out.cell (p := P + (n - 1 - t)) (by omega)
              obtain ⟨j, hj⟩ : ∃ j, n - 1 - t = j := ⟨_, rfl⟩
              rw [hj] at c1 c2
              rw [show ((n : Int) - 1 - (t : Int)) = (j : Int) by omega]
              have HAND : Hid (bits .and .u64 (X : Int) 255 % 256 = ((X % 256 : Nat) : Int)) := hide (by
                have h := bits_and_u64_nat X 255 hXl (by decide)
                rw [show ((255 : Nat) : Int) = 255 from rfl] at h
                rw [h, show (255 : Nat) = 2 ^ 8 - 1 from rfl, Nat.and_two_pow_sub_one_eq_mod]
                omega)
              go_wp2_with fail
              go_roundw
              case rel =>
                refine ⟨t + 1, X / 256, by omega, hX2.out, by simp, by congr 1; omega, ?_⟩
                have hx := HDI.out.set (P + j) (X % 256) (Nat.mod_lt _ (by decide))
                rw [HAND.out]
                rw [show X % 256 = V / 2 ^ (8 * t) % 256 by rw [HXV.out], HPS.out _ _ _ _ _ htn hj] at hx
                rw [show X % 256 = V / 2 ^ (8 * t) % 256 by rw [HXV.out]]
                exact hx
              case measure => simp [intOf]
            · obtain rfl : t = n := by omega
              go_wp2_with fail
              go_roundw
              case rel =>
                refine ⟨fi + 1, by omega, by go_num, ?_⟩
                rw [← HST.out]
                exact HDI.out
              case measure => simp [intOf]; omega
        · obtain rfl : fi = 10 := by omega
          go_wp2_with fail
          go_ret
          refine ⟨g, rfl, ?_, HDF.out.bel⟩
          rw [HHD.out]
          obtain ⟨cur, r1, r2, r3, r4, r5, r6⟩ := HDF.out.rm.row
          exact Room.mk' r1 r2 r3 (by omega) r5 r6 HDF.out.rm.own.2 (by have := HDF.out.rm.le; omega)
    · obtain ⟨c1, c2⟩ := HDD.out.cell (p := 0) (by omega)
      go_wp2_with fail
      go_roundw
      case rel =>
        refine ⟨1, by omega, by go_num, ?_⟩
        have hx := HDD.out.set 0 82 (by decide)
        rw [show (82 : Nat) = lets.getD 0 0 from rfl, lets_step (by omega) (by omega)] at hx
        exact hx
      case measure => simp [intOf]
    · obtain ⟨c1, c2⟩ := HDD.out.cell (p := 1) (by omega)
      go_wp2_with fail
      go_roundw
      case rel =>
        refine ⟨2, by omega, by go_num, ?_⟩
        have hx := HDD.out.set 1 69 (by decide)
        rw [show (69 : Nat) = lets.getD 1 0 from rfl, lets_step (by omega) (by omega)] at hx
        exact hx
      case measure => simp [intOf]
    · obtain ⟨c1, c2⟩ := HDD.out.cell (p := 2) (by omega)
      go_wp2_with fail
      go_roundw
      case rel =>
        refine ⟨3, by omega, by go_num, ?_⟩
        have hx := HDD.out.set 2 80 (by decide)
        rw [show (80 : Nat) = lets.getD 2 0 from rfl, lets_step (by omega) (by omega)] at hx
        exact hx
      case measure => simp [intOf]
    · obtain ⟨c1, c2⟩ := HDD.out.cell (p := 3) (by omega)
      go_wp2_with fail
      go_roundw
      case rel =>
        refine ⟨4, by omega, by go_num, ?_⟩
        have hx := HDD.out.set 3 76 (by decide)
        rw [show (76 : Nat) = lets.getD 3 0 from rfl, lets_step (by omega) (by omega)] at hx
        exact hx
      case measure => simp [intOf]
    · obtain ⟨c1, c2⟩ := HDD.out.cell (p := 4) (by omega)
      go_wp2_with fail
      go_roundw
      case rel =>
        refine ⟨5, by omega, by go_num, ?_⟩
        have hx := HDD.out.set 4 73 (by decide)
        rw [show (73 : Nat) = lets.getD 4 0 from rfl, lets_step (by omega) (by omega)] at hx
        exact hx
      case measure => simp [intOf]
    · obtain ⟨c1, c2⟩ := HDD.out.cell (p := 5) (by omega)
      go_wp2_with fail
      go_roundw
      case rel =>
        refine ⟨6, by omega, by go_num, ?_⟩
        have hx := HDD.out.set 5 67 (by decide)
        rw [show (67 : Nat) = lets.getD 5 0 from rfl, lets_step (by omega) (by omega)] at hx
        exact hx
      case measure => simp [intOf]
    · obtain ⟨c1, c2⟩ := HDD.out.cell (p := 6) (by omega)
      go_wp2_with fail
      go_roundw
      case rel =>
        refine ⟨7, by omega, by go_num, ?_⟩
        have hx := HDD.out.set 6 65 (by decide)
        rw [show (65 : Nat) = lets.getD 6 0 from rfl, lets_step (by omega) (by omega)] at hx
        exact hx
      case measure => simp [intOf]
    · obtain ⟨c1, c2⟩ := HDD.out.cell (p := 7) (by omega)
      go_wp2_with fail
      go_roundw
      case rel =>
        refine ⟨8, by omega, by go_num, ?_⟩
        have hx := HDD.out.set 7 49 (by decide)
        rw [show (49 : Nat) = lets.getD 7 0 from rfl, lets_step (by omega) (by omega)] at hx
        exact hx
      case measure => simp [intOf]
end Go.Proofs.YtkjaaknlhmneoacDoor
