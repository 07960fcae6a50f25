import Derived.Test.YtdjdcpldofmdjaaCRs
namespace Go.Proofs.Ytdjdcpldofmdjaa
open Go.RowKit
set_option linter.unusedVariables false
set_option linter.unusedSimpArgs false
set_option maxRecDepth 20000

theorem Try.infoI : (Try.prog.info? 3).map (fun i => (i.zero, i.size, i.bytes)) = some (some (.int .i64 0), 1, 8) := by kernel_rfl
theorem infoIs : ∃ i, Try.prog.info? 3 = some i ∧ i.zero = some (.int .i64 0) ∧ i.size = 1 ∧ i.bytes = 8 := by
  have h := Try.infoI
  cases hi : Try.prog.info? 3 with
  | none => rw [hi] at h; simp at h
  | some i => rw [hi] at h; simp at h; exact ⟨i, rfl, h.1, h.2.1, h.2.2⟩
/-- between two of the document's parts -/
structure QI (w1 W : World) (nv : Value) (ns : List Int) : Prop where
  row : IRw W nv ns
  bel : Below w1.heap.size w1 W
  loc : ∀ b, nv.ownBlock = some b → w1.heap.size ≤ b
theorem QI.on {w1 W W' : World} {nv : Value} {ns : List Int} (h : QI w1 W nv ns) (hb : Below W.heap.size W W') : QI w1 W' nv ns :=
  ⟨rowKept h.row fun b e => hb.block b (World.ownsRow.lt h.row b e).2, h.bel.trans (hb.mono h.bel.size), h.loc⟩
theorem QI.upon {w1 W W' : World} {nv v' : Value} {ns : List Int} {x : Int} (h : QI w1 W nv ns) (hu : Upon W W' nv v') (ho : W'.ownsRow 0 3 1 v' (ns.length + 1) (ns.map (fun x => Value.int .i64 x) ++ [.int .i64 x])) : QI w1 W' v' (ns ++ [x]) := by
  obtain ⟨h1, h2⟩ := below_upon h.bel (Nat.le_refl _) hu h.loc
  refine ⟨?_, h1, h2⟩
  unfold IRw
  rw [List.length_append, List.map_append]
  exact ho
theorem rwv_shape {w : World} {d : Option Nm} {x : Value} (h : RwV w d x) : ∃ al n c, x = .slice al n c := by
  cases d with
  | none => exact ⟨_, _, _, h⟩
  | some ns => obtain ⟨g, cap, e, -⟩ := h; exact ⟨_, _, _, e⟩
theorem rtx_emp {j : Nat} (hj : j < 30) : (rtx j).toList.isEmpty = decide (j % 2 = 1) := by
  rw [emp_eq]
  unfold rtx
  by_cases h : j % 2 = 0
  · rw [if_pos h]
    have := leads_some (j / 2) (by omega)
    generalize leadsL.getD (j / 2) ⟨#[]⟩ = s at *
    rw [Bool.eq_iff_iff, decide_eq_true_eq, decide_eq_true_eq]
    omega
  · rw [if_neg h, Bool.eq_iff_iff, decide_eq_true_eq, decide_eq_true_eq]
    have : (⟨#[]⟩ : ByteArray).size = 0 := rfl
    omega
set_option maxHeartbeats 2000000 in
theorem rparse_any (t : ByteArray) (w : World) (ht : t.size ≤ maxLen) : Calls Try.prog 10 #[.string t] w (PsP w (dR t.size (dAll (tx t) 30 0 0 []))) := by
  have HT := hide ht
  unfold maxLen at ht
  obtain ⟨R, hR⟩ : ∃ R, dAll (tx t) 30 0 0 [] = R := ⟨_, rfl⟩
  rw [hR]
  have HR := hide hR
  clear hR
  obtain ⟨w0, hw0⟩ : ∃ w0, w.alloc (Obj.cells (inv zS) 23) = w0 := ⟨_, rfl⟩
  have hs0 : w0.heap.size = w.heap.size + 1 := by rw [← hw0]; simp
  have hb0 : Below w.heap.size w w0 := by rw [← hw0]; exact (Below.refl _ _).alloc (Nat.le_refl _) _
  have q0 : w0.heap[w.heap.size]? = some (.cells (inv zS) 23 (0, 0)) := by rw [← hw0]; exact Go.heap_alloc_new w _
  simp only [inv, zS, List.replicate, List.map_cons, List.map_nil] at hw0
  have HW0 := hide hw0
  have HQ0 := hide q0
  have HB0 := hide hb0
  have HS0 := hide hs0
  clear hw0 q0 hb0 hs0
  go_enter Try.func10, Try.ntmps10
  go_wp2_with (go_at_call 20; rw [HW0.out]; refine (parts_any _).mono ?_; rintro e w1 ⟨v, rfl, hL1, hB1⟩; have HL1' := hide hL1; obtain ⟨g, cap, rfl, hcap, hcm, -⟩ := hL1; have HBB := hide hB1; clear hB1)
  unfold maxLen at hcm
  obtain ⟨i0, hi0, hz0, hz1, hz2⟩ := infoIs
  have HQ1 : Hid (w1.heap[w.heap.size]? = some (.cells (inv zS) 23 (0, 0))) := hide ((HBB.out.block _ (by have := HS0.out; omega)).trans HQ0.out)
  have HB1 : Hid (Below w.heap.size w w1) := hide (HB0.out.trans (HBB.out.mono (by have := HS0.out; omega)))
  have HN1 : Hid (w.heap.size < w1.heap.size) := hide (by have := HS0.out; have := HBB.out.size; omega)
  have HST : Hid (QI w1 w1 (.slice none 0 0) []) := hide ⟨⟨rfl, .inl ⟨rfl, rfl⟩⟩, Below.refl _ _, fun b e => by simp [Value.ownBlock] at e⟩
  clear HBB HQ0 HB0 HS0 HW0
  generalize hN : w.heap.size = N at *
  have HNN := hide hN
  clear hN
  go_loopw [6, 7, 8] (fun nv z y wr => ∃ (i at_ : Nat) (ns : List Int), i ≤ 30 ∧ at_ ≤ t.size ∧ ns.length = i / 2 ∧ z = .int .i64 (at_ : Int) ∧ y = .int .i64 (i : Int) ∧ QI w1 wr nv ns ∧ Hid (R = dAll (tx t) (30 - i) i at_ ns)) (fun _ _ y _ => 30 - (intOf y).toNat)
  case atStart => exact ⟨0, 0, [], by omega, by omega, rfl, rfl, rfl, HST.out, hide HR.out.symm⟩
  case round =>
    obtain ⟨i, at_, ns, hi, hat, hnl, rfl, rfl, hP, H⟩ := hrel
    have HP := hide hP
    clear HR HST
    obtain ⟨al, cl, rfl, hl1, hl2⟩ := rowForm hP.row
    have HNL := hide hnl
    have HL1 := hide hl1
    have HL2 := hide hl2
    clear hnl hl1 hl2
    by_cases hlt : i < 30
    · obtain ⟨g', cap', eg, -, -, hcs⟩ := HL1'.out.below hP.bel
      cases eg
      obtain ⟨c1, ⟨x, c2, hx⟩, c3⟩ := hcs i hlt
      have HX := hide hx
      obtain ⟨xa, xn, xc, rfl⟩ := rwv_shape hx
      have HO := hide (one_any t at_ i hlt hx HT.out hat)
      have hii : 0 ≤ (i : Int) ∧ (i : Int) < (30 : Int) := ⟨by omega, by omega⟩
      have hile : (i : Int) < 30 := by omega
      have hati : (at_ : Int) ≤ (t.size : Int) := by omega
      have hple := rOne_le i ((tx t).drop at_)
      rw [List.length_drop, tx_len] at hple
      have HGO := hide fun h => dAll_go (l := tx t) (at_ := at_) (vs := ns) hlt h
      have HNO := hide fun h => dAll_no (l := tx t) (at_ := at_) (vs := ns) hlt h
      have HEM := hide (rtx_emp hlt)
      generalize rOne i ((tx t).drop at_) = r at *
      obtain ⟨rl, rb, rd⟩ := r
      dsimp only at HO hple HGO HNO
      generalize rtx i = s at *
      generalize rnb i = bb at *
      have HC1 : Hid (∀ W, Below wr.heap.size wr W → W.cell? ⟨g, i * 3, none⟩ = some (.string s)) := hide fun W hW => cell_bel hW c1
      clear hP hcs hx HX
      cases rb with
      | true =>
        have H2 : Hid (R = dAll (tx t) (30 - (i + 1)) (i + 1) (at_ + rl) (addO ns i rd)) := hide (by rw [H.out]; exact HGO.out rfl)
        clear H HGO HNO
        by_cases hpar : i % 2 = 1
        · have hem : s.toList.isEmpty = true := by rw [HEM.out]; simpa using hpar
          have HPA := hide hpar
          clear hpar
          go_wp2_with (first
            | (go_at_call 21; refine HO.out.mono ?_; clear HO; rintro e w8 ⟨rfl, h8⟩; have c8 := HC1.out _ h8; have HP8 := hide (HP.out.on h8); clear h8 HC1 HP c1 c2 c3; have HP9 := hide (HP8.out.on ((Below.refl _ _).alloc (Nat.le_refl _) (.cells #[.int .i64 rd] 3))); have o9 := HP9.out.row; unfold IRw at o9)
            | (at_builtin; refine wpList_appendC _ rfl (.tmp 43) (.tmp 45) 51 rfl 3 i0 (.int .i64 0) 1 8 Try.underlying51 hi0 hz0 hz1 hz2 rfl (by decide) _ _ _ rfl o9 ⟨w8.heap.size, 0, none⟩ 1 1 [.int .i64 rd] rfl rfl (by decide) (cells_new _ _ _ _ rfl) (by simp [Value.oneCell']) (by have := HNL.out; unfold maxLen; omega) (by have := HNL.out; omega) ?_))
          intro v' w10 ho hup
          have HPn := hide (HP9.out.upon hup ho)
          clear ho hup o9 HP9 HP8
          obtain ⟨an, cn, rfl, hn1, hn2⟩ := rowForm HPn.out.row
          clear hn1 hn2
          go_wp2_with fail
          go_roundw
          case rel => exact ⟨i + 1, at_ + rl, ns ++ [rd], by omega, by omega, by have := HNL.out; have := HPA.out; simp; omega, by go_num, by go_num, HPn.out, hide (by rw [H2.out]; unfold addO; rw [if_neg (by have := HPA.out; omega)])⟩
          case measure => simp [intOf]; omega
        · have hem : s.toList.isEmpty = false := by rw [HEM.out]; simpa using hpar
          have HPA := hide hpar
          clear hpar
          go_wp2_with (go_at_call 21; refine HO.out.mono ?_; clear HO; rintro e w8 ⟨rfl, h8⟩; have c8 := HC1.out _ h8; have HP8 := hide (HP.out.on h8); clear h8 HC1 HP c1 c2 c3)
          go_roundw
          case rel => exact ⟨i + 1, at_ + rl, ns, by omega, by omega, by have := HNL.out; have := HPA.out; omega, by go_num, by go_num, HP8.out, hide (by rw [H2.out]; unfold addO; rw [if_pos (by have := HPA.out; omega)])⟩
          case measure => simp [intOf]; omega
      | false =>
        have H2 : Hid (R = (ns, at_ + rl, false)) := hide (by rw [H.out]; exact HNO.out rfl)
        clear H HGO HNO
        go_wp2_with (first
          | (go_at_call 21; refine HO.out.mono ?_; clear HO; rintro e w8 ⟨rfl, h8⟩; have HP8 := hide (HP.out.on h8); have HR8 : Hid (w8.heap[N]? = some (.cells (inv zS) 23 (0, 0))) := hide ((HP8.out.bel.block _ HN1.out).trans HQ1.out); clear h8 HC1 HP c1 c2 c3)
          | (refine wpList_store_row rfl 23 (.tmp 2) _ rfl N (inv zS) rfl rfl 23 (inv zS) HR8.out (inv_size rfl) rfl (inv_one zS) ?_))
        have k9 := setRow_heap w8 N (inv zS) (inv zS) 23 (0, 0) HR8.out
        refine bodyPost_ret (results_row_tmp2 rfl _ _ N 23 (inv zS) (0, 0) _ rfl k9 Try.underlying23 rfl (inv_size rfl)) rfl ?_
        rw [H2.out]
        exact ⟨rfl, by rw [HNN.out]; exact setRow_bel (HB1.out.trans (HP8.out.bel.mono (Nat.le_of_lt HN1.out)))⟩
    · have hnl : ¬ (i : Int) < 30 := by omega
      have hi30 : i = 30 := by omega
      have H2 : Hid (R = (ns, at_, true)) := hide (by rw [H.out, hi30]; rfl)
      have HLE : Hid (ns.length = 15) := hide (by rw [HNL.out, hi30])
      have HRW : Hid (wr.heap[N]? = some (.cells (inv zS) 23 (0, 0))) := hide ((HP.out.bel.block _ HN1.out).trans HQ1.out)
      have HBW : Hid (Below N w wr) := hide (HB1.out.trans (HP.out.bel.mono (Nat.le_of_lt HN1.out)))
      clear H hi30
      by_cases hend : at_ < t.size
      · have hendi : (at_ : Int) < (t.size : Int) := by omega
        have HE := hide hend
        clear hP
        go_wp2_with (refine wpList_store_row rfl 23 (.tmp 2) _ rfl N (inv zS) rfl rfl 23 (inv zS) HRW.out (inv_size rfl) rfl (inv_one zS) ?_)
        have k9 := setRow_heap wr N (inv zS) (inv zS) 23 (0, 0) HRW.out
        refine bodyPost_ret (results_row_tmp2 rfl _ _ N 23 (inv zS) (0, 0) _ rfl k9 Try.underlying23 rfl (inv_size rfl)) rfl ?_
        rw [H2.out]
        unfold dR
        rw [if_neg (by simp; exact HE.out)]
        exact ⟨rfl, by rw [HNN.out]; exact setRow_bel HBW.out⟩
      · have hendi : ¬ (at_ : Int) < (t.size : Int) := by omega
        have HE := hide hend
        have HSA := hide (status_any _ ns HLE.out hP.row)
        have hz15 : (inv (shl ns)).size = (inv zS).size := by simp [inv, shl_len, HLE.out, zS]
        have HZ := hide hz15
        have HIS := hide (inv_size (vs := shl ns) (by rw [shl_len]; exact HLE.out))
        have HBE : Hid (∀ W, Below wr.heap.size wr W → Below N w W ∧ W.heap[N]? = some (.cells (inv zS) 23 (0, 0))) := hide fun W hW => ⟨HBW.out.trans (hW.mono (by have := HBW.out.size; have := HNN.out; omega)), (hW.block _ (Array.getElem?_eq_some_iff.1 HRW.out).1).trans HRW.out⟩
        clear hP hz15
        generalize hsl : inv (shl ns) = row at *
        have HSL := hide hsl
        clear hsl
        have hrs : ∀ W : World, W.heap[N]? = some (.cells (inv zS) 23 (0, 0)) → (W.setRow N row).heap[N]? = some (.cells row 23 (0, 0)) := fun W h => setRow_heap W N (inv zS) row 23 (0, 0) h
        have HRS := hide hrs
        have HON : Hid (row.all (·.oneCell') = true) := hide (by rw [← HSL.out]; exact inv_one _)
        clear hrs
        go_wp2_with (first
          | (go_at_call 22; refine HSA.out.mono ?_; clear HSA; rintro e w8 ⟨rfl, h8⟩; obtain ⟨hb8, hr8⟩ := HBE.out _ h8; have HB8 := hide hb8; have HR8 := hide hr8; clear h8 hb8 hr8 HBE)
          | (refine wpList_store_row rfl 23 (.tmp 2) _ rfl N row rfl rfl 23 (inv zS) HR8.out HIS.out HZ.out.symm HON.out ?_))
        refine bodyPost_ret (results_row_tmp2 rfl _ _ N 23 row (0, 0) _ rfl (HRS.out _ HR8.out) Try.underlying23 rfl HIS.out) rfl ?_
        rw [H2.out]
        unfold dR
        rw [if_pos ⟨rfl, HE.out⟩]
        exact ⟨by rw [← HSL.out]; rfl, by rw [HNN.out]; exact setRow_bel HB8.out⟩
end Go.Proofs.Ytdjdcpldofmdjaa
