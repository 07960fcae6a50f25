import Derived.Test.YtcdmkbjibcahcabTCk
namespace Go.Proofs.Ytcdmkbjibcahcab
open Go.RowKit
set_option linter.unusedVariables false
set_option linter.unusedSimpArgs false
set_option maxRecDepth 20000

set_option maxHeartbeats 2000000 in
theorem write_any {w : World} {b : Nat} {fv wv kv tv : Value} {mk : Nat} {F W K T : VL} (h : Bk w b fv wv kv tv mk F W K T) {lv : Value} {L : List En} (hL : ERow w lv L) (hlen : L.length ≤ 2000) (hmk : mk ≤ 100000000000000) (hK : K.length ≤ 9000000000000) (hT : T.length ≤ 9000000000000) (hne : ∀ g, kv.ownBlock = some g → tv.ownBlock ≠ some g) : Calls Try.prog 37 #[.pointer (some ⟨b, 0, none⟩), lv] w fun e w' => ∃ kv' tv' M g t1 t2 G, e = .returned (.tuple #[]) ∧ WrP w w' b fv wv kv tv lv kv' tv' (mk + 1) K T L.length M g t1 t2 G := by
  obtain ⟨a, c, rfl, b1, b2, hc⟩ := hL.form
  unfold maxLen at b2
  have c4 : w.cell? ⟨b, 4, none⟩ = some (.int .i64 (mk : Int)) := by rw [cell_of_row _ _ _ _ _ _ h.row]; rfl
  have f4 := frozen_of_row _ _ 4 _ 32 h.row
  have HR1 : Hid ((w.setCell ⟨b, 4, none⟩ (.int .i64 ((mk : Int) + 1))).heap[b]? = some (.cells #[fv, wv, kv, tv, .int .i64 ((mk + 1 : Nat) : Int)] 32 (0, 0))) := hide (Go.heap_setCell_same w b 4 _ 32 _ h.row)
  have hbl : (Value.slice a L.length c).ownBlock ≠ some b := fun e => by
    obtain ⟨cs, hq⟩ := hL.cells e
    exact neType hq h.row (by decide) rfl
  have HL1 : Hid (ERow (w.setCell ⟨b, 4, none⟩ (.int .i64 ((mk : Int) + 1))) (.slice a L.length c) (mkd (mk + 1) 0 L)) := hide (by
    rw [mkd_zero]
    exact hL.kept fun g e => Go.heap_setCell_other _ _ _ _ (show g ≠ b from fun e2 => hbl (by rw [← e2]; exact e)))
  have HLW : Hid (∀ g : Nat, (Value.slice a L.length c).ownBlock = some g → ∃ cs, w.heap[g]? = some (.cells cs 56 (0, 0))) := hide fun g e => hL.cells e
  clear hc hL
  obtain ⟨w1, hw1⟩ : ∃ w1, w.setCell ⟨b, 4, none⟩ (.int .i64 ((mk : Int) + 1)) = w1 := ⟨_, rfl⟩
  have HW1 := hide hw1
  rw [hw1] at HR1 HL1
  have HBS : Hid (b < w1.heap.size) := hide (Array.getElem?_eq_some_iff.1 HR1.out).1
  have hwr : IntKind.i64.wrap ((mk : Int) + 1) = (mk : Int) + 1 := by simp [IntKind.wrap, IntKind.bits, IntKind.signed]; omega
  have hng : IntKind.i64.wrap (-((mk : Int) + 1)) = -((mk : Int) + 1) := by
    have hz : ∀ z : Int, -100000000000001 ≤ z → z ≤ 0 → IntKind.i64.wrap z = z := fun z h1 h2 => by
      simp [IntKind.wrap, IntKind.bits, IntKind.signed]; omega
    exact hz _ (by omega) (by omega)
  have HWS : Hid (∀ x, Tr w1 x (.slice a L.length c) → WS w x b fv wv kv tv (.slice a L.length c) kv tv (mk + 1) K T) := hide fun x hx => by
    have hs1 : w1.heap.size = w.heap.size := by rw [← HW1.out]; simp [World.setCell]
    have hch : Chg (fun g => g = b) w w1 := by rw [← HW1.out]; exact chg_set (Chg.refl _ w) b 4 _ (.inl rfl)
    have kp : ∀ g, g < w.heap.size → g ≠ b → (Value.slice a L.length c).ownBlock ≠ some g → x.heap[g]? = w.heap[g]? := fun g hg h1 h2 => (hx.keep g (by omega) h2).trans (hch.keep g hg h1)
    have lb : ∀ (vv : Value) (n9 : Nat) (xs : List Value), w.ownsRow 0 46 1 vv n9 xs → ∀ g, vv.ownBlock = some g → x.heap[g]? = w.heap[g]? := fun vv n9 xs hv g e => by
      obtain ⟨cs, h1⟩ := vrow_cells hv e
      refine kp g (World.ownsRow.lt hv g e).2 (fun e2 => neType h1 h.row (by decide) e2) fun e2 => ?_
      obtain ⟨ds, h2⟩ := HLW.out g e2
      exact neType h1 h2 (by decide) rfl
    refine ⟨⟨(hx.keep b HBS.out hbl).trans HR1.out, rowKept h.lk.own (lb _ _ _ h.lk.own), rowKept h.lt.own (lb _ _ _ h.lt.own), hne⟩, (Ck.ofChg hch fun g e cs hc => neType hc h.row (by decide) e).trans (hx.ck HL1.out), ⟨hx.os.trans hch.os, hx.tape.trans hch.tape, hx.output.trans hch.output, Nat.le_trans hch.size hx.size, fun g hg hn => kp g hg (fun e => hn (.inl e)) fun e => hn (.inr (.inr (.inr e)))⟩, fun g e => .inl e, fun g e => .inl e⟩
  have HS1 : Hid (w1.heap.size = w.heap.size) := hide (by rw [← HW1.out]; simp [World.setCell])
  have HC4 : Hid (∀ x, Tr w1 x (.slice a L.length c) → x.cell? ⟨b, 4, none⟩ = some (.int .i64 ((mk : Int) + 1))) := hide fun x hx => by
    rw [World.cell?_of_block (a := ⟨b, 4, none⟩) (hx.keep b HBS.out hbl), cell_of_row _ _ _ _ _ _ HR1.out]
    rfl
  have HLM : Hid (∀ i, i ≤ L.length → (mkd (mk + 1) i L).length = L.length) := hide fun i hi => mkd_len _ hi
  have HST : Hid (∀ i, i < L.length → (mkd (mk + 1) i L).set i (-((mk : Int) + 1), (i : Int), (mk : Int) + 1) = mkd (mk + 1) (i + 1) L) := hide fun i hi => by
    have := mkd_step (mk + 1) hi
    simpa using this
  have HSET : Hid (∀ x g o i, a = some ⟨g, o, none⟩ → i < L.length → Tr w1 x (.slice a L.length c) → ERow x (.slice a L.length c) (mkd (mk + 1) i L) → Tr w1 (((x.setCell ⟨g, o + i * 3, none⟩ (.int .i64 (-((mk : Int) + 1)))).setCell ⟨g, o + i * 3 + 1, none⟩ (.int .i64 (i : Int))).setCell ⟨g, o + i * 3 + 2, none⟩ (.int .i64 ((mk : Int) + 1))) (.slice a L.length c) ∧ ERow (((x.setCell ⟨g, o + i * 3, none⟩ (.int .i64 (-((mk : Int) + 1)))).setCell ⟨g, o + i * 3 + 1, none⟩ (.int .i64 (i : Int))).setCell ⟨g, o + i * 3 + 2, none⟩ (.int .i64 ((mk : Int) + 1))) (.slice a L.length c) (mkd (mk + 1) (i + 1) L)) := hide fun x g o i e hi t r => by
    subst e
    refine ⟨((t.set (i * 3) (by omega) _).set (i * 3 + 1) (by omega) _).set (i * 3 + 2) (by omega) _, ?_⟩
    rw [← HST.out i hi]
    exact r.set3 hi _ _ _
  have HRD : Hid (∀ x i, ERow x (.slice a L.length c) (mkd (mk + 1) i L) → i < L.length → ∃ g o y0 y1 y2, a = some ⟨g, o, none⟩ ∧ (x.cell? ⟨g, o + i * 3, none⟩ = some y0 ∧ x.cell? ⟨g, o + i * 3 + 1, none⟩ = some y1 ∧ x.cell? ⟨g, o + i * 3 + 2, none⟩ = some y2) ∧ ∀ j, x.frozen? ⟨g, j, none⟩ = false) := hide fun x i r hi => by
    obtain ⟨a', c', e, -, -, hq⟩ := r.form
    simp only [Value.slice.injEq] at e
    obtain ⟨rfl, -, -⟩ := e
    obtain ⟨g, o, e2, -, d0, d1, d2⟩ := hq i (by rw [HLM.out i (by omega)]; exact hi)
    obtain ⟨cs, hcs⟩ := r.cells (g := g) (by rw [e2]; rfl)
    exact ⟨g, o, _, _, _, e2, ⟨d0, d1, d2⟩, fun j => frozen_of_row _ _ j _ 56 hcs⟩
  clear h hbl HST HLW hne
  generalize hn : L.length = n at *
  clear hn
  go_enter Try.func37, Try.ntmps37
  go_wp2_with fail
  try rw [hw1]
  clear hw1 c4 f4
  go_loopw [4] (fun x wr => ∃ i : Nat, i ≤ n ∧ x = .int .i64 (i : Int) ∧ Hid (Tr w1 wr (.slice a n c)) ∧ Hid (ERow wr (.slice a n c) (mkd (mk + 1) i L))) (fun x _ => n - (intOf x).toNat)
  case atStart => exact ⟨0, Nat.zero_le _, rfl, hide (Tr.refl _ _), HL1⟩
  case round =>
    clear HL1
    obtain ⟨i, hi, rfl, HT, HE⟩ := hrel
    have c4 := HC4.out _ HT.out
    by_cases hlt : i < n
    · have hli : (i : Int) < (n : Int) := by omega
      obtain ⟨g, o, y0, y1, y2, rfl, ⟨d0, d1, d2⟩, hf⟩ := HRD.out _ i HE.out hlt
      have f0 := hf (o + i * 3)
      have f1 := hf (o + i * 3 + 1)
      have f2 := hf (o + i * 3 + 2)
      obtain ⟨t1, r1⟩ := HSET.out _ g o i rfl hlt HT.out HE.out
      have HT1 := hide t1
      have HE1 := hide r1
      clear HRD HSET hf t1 r1
      go_wp2_with fail
      refine wp_still_tail 14 (by kernel_rfl) (by kernel_rfl) ?_
      simp only [List.take_succ_cons, List.take_zero, List.drop_succ_cons, List.drop_zero]
      repeat still_step
      refine wpStill_nil ?_
      go_wp2_with fail
      go_roundw
      case rel => exact ⟨i + 1, by omega, by go_num, hide (HT1.out.calm (below_drew0 _ 1)), hide (HE1.out.below (below_drew0 _ 1))⟩
      case measure => simp [intOf]; omega
    · have hli : ¬ (i : Int) < (n : Int) := by omega
      have ei : i = n := by omega
      have HE2 : Hid (ERow wr (.slice a n c) (mkd (mk + 1) n L)) := hide (by have := HE.out; rwa [ei] at this)
      have HML : Hid ((mkd (mk + 1) n L).length ≤ 2000) := hide (by rw [HLM.out n (Nat.le_refl _)]; exact hlen)
      have HMN : Hid ((mkd (mk + 1) n L).length = n) := hide (HLM.out n (Nat.le_refl _))
      clear HE HRD HSET HLM c4 ei
      generalize mkd (mk + 1) n L = M at *
      go_wp2_with fail
      go_loopw [5, 6] (fun x y wx => ∃ j : Nat, j ≤ 80 ∧ y = .int .i64 (j : Int) ∧ Hid (GI w1 wx (.slice a n c) x M (-((mk : Int) + 1), (mk : Int) + 1, -1) j)) (fun _ y _ => 80 - (intOf y).toNat)
      case atStart => exact ⟨0, Nat.zero_le _, rfl, hide (GI.start HT.out HE2.out)⟩
      case round =>
        clear HT HE2 hli
        obtain ⟨j, hj, rfl, HG⟩ := hrel
        obtain ⟨w2, hw2⟩ : ∃ w2, wr = w2 := ⟨_, rfl⟩
        rw [hw2] at HG ⊢
        clear hw2
        have c4 := HC4.out _ HG.out.tr
        obtain ⟨a5, c5, e5, x1, x2, -⟩ := HG.out.r.form
        rw [List.length_append, List.length_replicate] at e5 x1
        subst e5
        by_cases hlt : j < 80
        · have hli : (j : Int) < 80 := by omega
          have HG1 := hide (HG.out.calm (((Below.refl _ w2).drew).alloc (Nat.le_refl _) (.cells #[.int .i64 (-((mk : Int) + 1)), .int .i64 ((mk : Int) + 1), .int .i64 (-1)] 56)))
          have HLB : Hid ((M ++ List.replicate j ((-((mk : Int) + 1), (mk : Int) + 1, -1) : En)).length + 1 ≤ 4000000000000) := hide (by have := HML.out; simp; omega)
          clear HG x1 x2
          have HTY : Hid (∀ x, x = Value.slice a5 (M.length + j) c5 → ERow (w2.drew.alloc (.cells #[.int .i64 (-((mk : Int) + 1)), .int .i64 ((mk : Int) + 1), .int .i64 (-1)] 56)) x (M ++ List.replicate j (-((mk : Int) + 1), (mk : Int) + 1, -1))) := hide fun x e => by rw [e]; exact HG1.out.r
          generalize hMM : M ++ List.replicate j ((-((mk : Int) + 1), (mk : Int) + 1, -1) : En) = MM at HTY HLB
          go_wp2_with fail
          go_region_law ((try rw [hng]); refine step_appendF rfl (.tmp 39) (.tmp 50) rfl (.slice a5 (M.length + j) c5) MM rfl (HTY.out _ rfl) ⟨w2.heap.size, 0, none⟩ 1 [(-((mk : Int) + 1), (mk : Int) + 1, -1)] (by simp) rfl (cells_new _ #[.int .i64 (-((mk : Int) + 1)), .int .i64 ((mk : Int) + 1), .int .i64 (-1)] _ _ rfl) (by simpa using HLB.out) ?_; intro v' w3 q1 q2 q3; rw [← hMM] at q1; have HG2 := hide (HG1.out.next q1 q2 q3); clear q1 q2 q3)
          all_goals
            go_wp2_with fail
            go_roundw
            case rel => exact ⟨j + 1, by omega, by go_num, HG2⟩
            case measure => simp [intOf]; omega
        · have hli : ¬ (j : Int) < 80 := by omega
          have ej : j = 80 := by omega
          subst ej
          have HWS1 := hide (HWS.out _ HG.out.tr)
          have HCG : Hid (∀ h i, Cl (.slice a5 (M.length + 80) c5) h i → Rm (.slice a n c) h i ∨ w.heap.size ≤ h) := hide fun h i q => by rw [← HS1.out]; exact HG.out.cl q
          have hk2 := below_alloc w2 (.cells #[.slice a n c] 46)
          have HWS2 := hide (HWS1.out.calm hk2)
          have HEL2 := hide (HG.out.l.below hk2)
          have HEG2 := hide (HG.out.r.below hk2)
          obtain ⟨ka, kc, ke⟩ := vrow_form HWS1.out.bw.k
          obtain ⟨ta, tc, te⟩ := vrow_form HWS1.out.bw.t
          subst ke
          subst te
          have k2 := HWS1.out.bw.c2
          have HN1 := hide (show (w2.alloc (.cells #[.slice a n c] 46)).cell? ⟨w2.heap.size, 0, none⟩ = some (.slice a n c) by rw [cell_of_row _ _ _ _ _ _ (Go.heap_alloc_new w2 _)]; rfl)
          have hlm := HML.out
          clear hk2 HG HC4 HWS HWS1
          have HLG : Hid ((M ++ List.replicate 80 ((-((mk : Int) + 1), (mk : Int) + 1, -1) : En)).length = M.length + 80) := hide (by simp)
          generalize hMM : M ++ List.replicate 80 ((-((mk : Int) + 1), (mk : Int) + 1, -1) : En) = MM at *
          clear hMM
          generalize hng5 : M.length + 80 = ng at *
          have hng6 : ng ≤ 2080 := by omega
          clear hng5
          go_wp2_with (at_builtin; refine wpList_appendV _ rfl (.tmp 56) (.tmp 58) rfl _ K rfl HWS2.out.bw.k ⟨w2.heap.size, 0, none⟩ 1 (.slice a n c, M) rfl rfl HN1.out (by omega) ?_; intro v6 w6 q1 q2; obtain ⟨p1, p2, p3, p4⟩ := HWS2.out.pushK q1 q2; have HWS3 := hide p1; have HEL3 := hide (p2 _ _ HEL2.out); have HEG3 := hide (p2 _ _ HEG2.out); obtain ⟨a7, c7, e7⟩ := vrow_form q1; rw [List.length_append, List.length_singleton] at e7; subst e7; clear q1 q2 p1 p2)
          clear HWS2 HEL2 HEG2 HN1 k2 p3 p4
          generalize w6.setCell ⟨b, 2, none⟩ _ = w7 at *
          have HK1 : Hid ((K ++ [((Value.slice a n c), M)]).length = K.length + 1) := hide (by simp)
          generalize hKL : (K ++ [((Value.slice a n c), M)]) = K1 at *
          have t3 := HWS3.out.bw.c3
          have t3a := cell_alloc (.cells #[] 56) t3
          have hb7 : Below w7.heap.size w7 (w7.drew.alloc (.cells #[] 56)) := ((Below.refl _ w7).drew).alloc (Nat.le_refl _) _
          have HX8 := hide (HEL3.out.below hb7)
          have HG8 : Hid ((w7.drew.alloc (.cells #[] 56)).heap[w7.heap.size]? = some (.cells #[] 56 (0, 0))) := hide (Go.heap_alloc_new w7.drew _)
          have HB8 : Hid (∀ v8 w8, App (w7.drew.alloc (.cells #[] 56)) w8 (.slice (some ⟨w7.heap.size, 0, none⟩) 0 0) v8 → Below w7.heap.size w7 w8 ∧ ∀ g, v8.ownBlock = some g → w.heap.size ≤ g) := hide fun v8 w8 q => ⟨hb7.trans (q.chg.below hb7.size fun g e => by simp only [Value.ownBlock, Option.some.injEq] at e; omega), fun g e => by
            have := HWS3.out.chg.size
            have := hb7.size
            rcases q.loc g e with e2 | e2
            · simp only [Value.ownBlock, Option.some.injEq] at e2; omega
            · omega⟩
          clear hb7
          go_region_law (first
            | (refine step_copyE rfl (.tmp 67) (.tmp 68) rfl w7.heap.size rfl HG8.out (.slice a n c) M rfl HX8.out (by omega) ?_; intro v8 w8 q1 q2; obtain ⟨q3, q4⟩ := HB8.out v8 w8 q2; have HT1 := hide q1; have HNW := hide q4; have HW8 := hide q3; have HWS8 := hide (HWS3.out.calm HW8.out); have t8 := HWS8.out.bw.c3; obtain ⟨a8, c8, e8, -, -, -⟩ := q1.form; subst e8; have t8a := cell_alloc (.cells #[.slice a8 M.length c8] 46) t8; have hk9 := below_alloc w8 (.cells #[.slice a8 M.length c8] 46); have HWS9 := hide (HWS8.out.calm hk9); have HEL9 := hide ((HEL3.out.below HW8.out).below hk9); have HEG9 := hide ((HEG3.out.below HW8.out).below hk9); have HT9 := hide (HT1.out.below hk9); have HN9 := hide (show (w8.alloc (.cells #[.slice a8 M.length c8] 46)).cell? ⟨w8.heap.size, 0, none⟩ = some (.slice a8 M.length c8) by rw [cell_of_row _ _ _ _ _ _ (Go.heap_alloc_new w8 _)]; rfl); clear q1 q2 q3 q4 hk9)
            | (refine step_appendV rfl (.tmp 66) (.tmp 70) rfl _ T rfl HWS9.out.bw.t ⟨w8.heap.size, 0, none⟩ 1 (.slice a8 M.length c8, M) rfl rfl HN9.out (by omega) ?_; intro v9 w9 q1 q2; obtain ⟨p1, p2, p3, p4⟩ := HWS9.out.pushT q1 q2; have HWS10 := hide p1; have HEL10 := hide (p2 _ _ HEL9.out); have HEG10 := hide (p2 _ _ HEG9.out); have HT10 := hide (p2 _ _ HT9.out); obtain ⟨a10, c10, e10⟩ := vrow_form q1; rw [List.length_append, List.length_singleton] at e10; subst e10; clear q1 q2 p1 p2))
          all_goals
            clear HB8 HG8 HX8 t3 t3a HWS3 HEL3 HEG3 HT1 HW8 HWS8 t8 t8a HWS9 HEL9 HEG9 HT9 HN9
            try clear p3 p4
            generalize w9.setCell ⟨b, 3, none⟩ _ = w10 at *
            have HTL1 : Hid ((T ++ [((Value.slice a8 M.length c8), M)]).length = T.length + 1) := hide (by simp)
            generalize hTL : (T ++ [((Value.slice a8 M.length c8), M)]) = T1 at *
            have k2 := HWS10.out.bw.c2
            have hk11 := below_alloc w10 (.cells #[.slice a5 ng c5] 46)
            have HWS11 := hide (HWS10.out.calm hk11)
            have HEL11 := hide (HEL10.out.below hk11)
            have HEG11 := hide (HEG10.out.below hk11)
            have HT11 := hide (HT10.out.below hk11)
            have HN11 := hide (show (w10.alloc (.cells #[.slice a5 ng c5] 46)).cell? ⟨w10.heap.size, 0, none⟩ = some (.slice a5 ng c5) by rw [cell_of_row _ _ _ _ _ _ (Go.heap_alloc_new w10 _)]; rfl)
            clear hk11 HWS10 HEL10 HEG10 HT10
            have HOW : Hid ((w10.alloc (.cells #[.slice a5 ng c5] 46)).ownsRow 0 46 1 (.slice a7 (K.length + 1) c7) K1.length (K1.map Prod.fst)) := hide HWS11.out.bw.k
            go_wp2_with (at_builtin; refine wpList_appendV _ rfl (.tmp 78) (.tmp 80) rfl _ K1 rfl HOW.out ⟨w10.heap.size, 0, none⟩ 1 (.slice a5 ng c5, MM) rfl rfl HN11.out (by rw [HK1.out]; omega) ?_; intro v12 w12 q1 q2; obtain ⟨p1, p2, p3, p4⟩ := HWS11.out.pushK q1 q2; have HWS13 := hide p1; have HEL13 := hide (p2 _ _ HEL11.out); have HEG13 := hide (p2 _ _ HEG11.out); have HT13 := hide (p2 _ _ HT11.out); obtain ⟨a13, c13, e13⟩ := vrow_form q1; rw [List.length_append, List.length_singleton, HK1.out] at e13; subst e13; clear q1 q2 p1 p2)
            clear HWS11 HEL11 HEG11 HT11 HN11 k2 p3 p4 HOW
            generalize w12.setCell ⟨b, 2, none⟩ _ = w17 at *
            have t13 := HWS13.out.bw.c3
            have t13a := cell_alloc (.cells #[] 56) t13
            have hb17 : Below w17.heap.size w17 (w17.drew.alloc (.cells #[] 56)) := ((Below.refl _ w17).drew).alloc (Nat.le_refl _) _
            have HX18 := hide (HEG13.out.below hb17)
            have HG18 : Hid ((w17.drew.alloc (.cells #[] 56)).heap[w17.heap.size]? = some (.cells #[] 56 (0, 0))) := hide (Go.heap_alloc_new w17.drew _)
            have HB18 : Hid (∀ v8 w8, App (w17.drew.alloc (.cells #[] 56)) w8 (.slice (some ⟨w17.heap.size, 0, none⟩) 0 0) v8 → Below w17.heap.size w17 w8 ∧ ∀ g, v8.ownBlock = some g → w.heap.size ≤ g) := hide fun v8 w8 q => ⟨hb17.trans (q.chg.below hb17.size fun g e => by simp only [Value.ownBlock, Option.some.injEq] at e; omega), fun g e => by
              have := HWS13.out.chg.size
              have := hb17.size
              rcases q.loc g e with e2 | e2
              · simp only [Value.ownBlock, Option.some.injEq] at e2; omega
              · omega⟩
            clear hb17
            go_region_law (first
              | (refine step_copyE rfl (.tmp 89) (.tmp 90) rfl w17.heap.size rfl HG18.out (.slice a5 ng c5) MM rfl HX18.out (by rw [HLG.out]; omega) ?_; intro v8 w18 q1 q2; obtain ⟨q3, q4⟩ := HB18.out v8 w18 q2; have HT2 := hide q1; have HNX := hide q4; have HW18 := hide q3; have HWS18 := hide (HWS13.out.calm HW18.out); have t18 := HWS18.out.bw.c3; obtain ⟨a18, c18, e18, -, -, -⟩ := q1.form; rw [HLG.out] at e18; subst e18; have t18a := cell_alloc (.cells #[.slice a18 ng c18] 46) t18; have hk19 := below_alloc w18 (.cells #[.slice a18 ng c18] 46); have HWS19 := hide (HWS18.out.calm hk19); have HEL19 := hide ((HEL13.out.below HW18.out).below hk19); have HEG19 := hide ((HEG13.out.below HW18.out).below hk19); have HT19 := hide ((HT13.out.below HW18.out).below hk19); have HTT19 := hide (HT2.out.below hk19); have HN19 := hide (show (w18.alloc (.cells #[.slice a18 ng c18] 46)).cell? ⟨w18.heap.size, 0, none⟩ = some (.slice a18 ng c18) by rw [cell_of_row _ _ _ _ _ _ (Go.heap_alloc_new w18 _)]; rfl); have HOX : Hid ((w18.alloc (.cells #[.slice a18 ng c18] 46)).ownsRow 0 46 1 (.slice a10 (T.length + 1) c10) T1.length (T1.map Prod.fst)) := hide HWS19.out.bw.t; clear q1 q2 q3 q4 hk19)
              | (refine step_appendV rfl (.tmp 88) (.tmp 92) rfl _ T1 rfl HOX.out ⟨w18.heap.size, 0, none⟩ 1 (.slice a18 ng c18, MM) rfl rfl HN19.out (by rw [HTL1.out]; omega) ?_; intro v9 w19 q1 q2; obtain ⟨p1, p2, p3, p4⟩ := HWS19.out.pushT q1 q2; have HWS20 := hide p1; have HEL20 := hide (p2 _ _ HEL19.out); have HEG20 := hide (p2 _ _ HEG19.out); have HT20 := hide (p2 _ _ HT19.out); have HTT20 := hide (p2 _ _ HTT19.out); obtain ⟨a20, c20, e20⟩ := vrow_form q1; rw [List.length_append, List.length_singleton, HTL1.out] at e20; subst e20; clear q1 q2 p1 p2))
            all_goals
              go_end0
              subst hKL
              subst hTL
              exact ⟨_, _, _, _, _, _, _, rfl, ⟨HWS20.out, HEL20.out, HEG20.out, HT20.out, HTT20.out, HCG.out, HNW.out, HNX.out, HMN.out⟩⟩
end Go.Proofs.Ytcdmkbjibcahcab
