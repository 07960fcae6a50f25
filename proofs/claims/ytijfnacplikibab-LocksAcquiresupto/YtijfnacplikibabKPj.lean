import Derived.Test.YtijfnacplikibabKPi
namespace Go.Proofs.Ytijfnacplikibab
open Go.RowKit
set_option linter.unusedVariables false
set_option linter.unusedSimpArgs false
set_option maxRecDepth 20000

theorem wp_still_tail {P : Program} {id : Nat} {Q : Exit → Act → World → Prop} {a : Act} {w : World} {l : List Oper} (n : Nat) (hm : P.follows .mixedOrders = true) (hB : Region.lexTailB .any l.toArray n = true)
    (h : wpStill P l.toArray w.drew (fun a' => wpList P l.toArray Q (l.drop n) a' w.drew) (l.take n) a) : (Code.region id l.toArray true).wp P Q a w :=
  wp_region_still_tail n hm hB h
theorem LI.below {w wr y : World} {q : Nat} {v vr : Value} {n room : Nat} {L1 : LL} {e j : Nat} {iv : Value} {N K : Nat} (h : LI w wr q v vr n room L1 e j iv N K) (hb : Below wr.heap.size wr y) : LI w y q v vr n room L1 e j iv N K := by
  obtain ⟨P, T, h1, h2⟩ := h.ex
  exact ⟨⟨P, T, h1.below hb, h2⟩, h.chg.trans (Chg.ofBelow hb), h.vn, h.row.below' hb, h.new, h.cnt, h.alike⟩
theorem LI.wl {w wr : World} {q : Nat} {v vr : Value} {n room : Nat} {L1 : LL} {e : Nat} {iv : Value} {N K : Nat} (h : LI w wr q v vr n room L1 e 0 iv N K) (he : e < n) : (L1 (e * 2 + 1)).length ≤ N := by
  obtain ⟨P, T, h1, h2, h3, -⟩ := h.ex
  have := congrArg List.length (h2.wt e he)
  rw [mvL_w, List.drop_zero] at this
  rw [← this]
  unfold wtP
  rw [List.length_map]
  exact Nat.le_trans (List.length_filter_le _ _) h3
theorem LI.done {w wr : World} {q : Nat} {v vr : Value} {n room : Nat} {L1 : LL} {e j : Nat} {iv : Value} {N K : Nat} (h : LI w wr q v vr n room L1 e j iv N K) (hK : K = j) : RA w wr q v n room (mvL L1 e K) N ∧ IRow wr iv (((L1 (e * 2 + 1)).take K).map Prod.fst) ∧ ∀ g, iv.ownBlock = some g → w.heap.size ≤ g := by
  subst hK
  obtain ⟨P, T, h1, h2, h3, h4⟩ := h.ex
  exact ⟨⟨vr, P, T, ⟨h1, h.chg, fun g e => .inr (h.vn g e)⟩, h2, h3, h4⟩, h.row, h.new⟩
set_option maxHeartbeats 4000000 in
theorem rrel_in {w : World} {q : Nat} {v : Value} {n room : Nat} {P : List Pc} {T N : Nat} {L : LL} (h : RT w q v n room P T) (sm : Sm n L P T) (ok : Ok n L) (hl : P.length ≤ N) (ht : T + wtN P ≤ N) (hN : N ≤ 9000000) {e : Nat} (he : e < n) (o : Int) {k : Nat} (hk : ixB (fnd (e : Int) o) P = (k : Int)) : Calls Try.prog 18 #[.pointer (some ⟨q, 0, none⟩), .int .i64 (e : Int), .int .i64 o] w fun e' w' => ∃ rv, e' = .returned (.tuple #[rv, .int .i64 0]) ∧ RA w w' q v n room (relL L e o) N ∧ IRow w' rv (relIn L e o) ∧ ∀ g, rv.ownBlock = some g → w.heap.size ≤ g := by
  have HT := hide (there_any w q (n : Int) (e : Int) h.c0)
  rw [show (decide (0 ≤ (e : Int)) && decide ((e : Int) < (n : Int))) = true by simp; omega] at HT
  have HF := hide (rfind_any h (by omega) (e : Int) o)
  rw [hk] at HF
  obtain ⟨hkl, -⟩ := ixB_split hk
  have HRT := hide h
  obtain ⟨a, c, ev, b1, b2, -⟩ := h.own.form
  subst ev
  unfold maxLen at b2
  have HC : Hid (∀ x, Below w.heap.size w x → x.cell? ⟨q, 2, none⟩ = some (.slice a P.length c) ∧ ∀ j, j < P.length → ∃ g, a = some ⟨g, 0, none⟩ ∧ pcAt x g j (P.getD j p0)) := hide fun x hb => by
    have hx := h.below hb
    refine ⟨hx.c2, fun j hj => ?_⟩
    obtain ⟨a', c', e', -, -, hq⟩ := hx.own.form
    simp only [Value.slice.injEq, true_and] at e'
    obtain ⟨rfl, rfl⟩ := e'
    exact hq j hj
  have HLS : Hid (∀ y v1, RTt w y q (.slice a P.length c) v1 n room (del k P) T → (∀ g, v1.ownBlock = some g → w.heap.size ≤ g) → LI w y q (.slice a P.length c) v1 n room (leaveL L e o) e 0 (.slice none 0 0) N (relK L e o)) := hide fun y v1 t hv => LI.start sm ok he hk t hv hl ht
  have HCS : Hid (∀ wr v0 vr j iv, LI w wr q v0 vr n room (leaveL L e o) e j iv N (relK L e o) → _) := hide fun wr v0 vr j iv (hx : LI w wr q v0 vr n room (leaveL L e o) e j iv N (relK L e o)) => hx.cases he fun c hc => by
    rcases List.mem_append.1 hc with q | q
    · exact (ok e he).md c (List.mem_append_left _ (leave_mem q))
    · exact (ok e he).md c (List.mem_append_right _ (leave_mem q))
  have HS := hide fun (i : Nat) (hi : i < P.length) => del_step P k hi
  have HDL := hide fun i => del_len (P.take i) k
  obtain ⟨F, hF⟩ : ∃ F : Nat → List Pc, ∀ i, F i = del k (P.take i) := ⟨_, fun _ => rfl⟩
  have HZ : Hid (F 0 = []) := hide (by rw [hF]; simp [del])
  have HL : Hid (∀ i, (F i).length ≤ 10000000) := hide fun i => by
    have := HDL.out i
    rw [hF]
    rw [List.length_take] at this
    omega
  simp only [← hF] at HS
  have HFN : Hid (F P.length = del k P) := hide (by rw [hF, List.take_length])
  clear hF HDL
  obtain ⟨c2, -⟩ := HC.out w (Below.refl _ _)
  clear h hk
  have HPL : Hid (P.length ≤ N) := hide hl
  generalize hnp : P.length = M at *
  have hk0 : ¬ (k : Int) < 0 := by omega
  rw [show relL L e o = mvL (leaveL L e o) e (relK L e o) from rfl, show relIn L e o = ((leaveL L e o (e * 2 + 1)).take (relK L e o)).map Prod.fst from rfl]
  clear sm ok
  generalize relK L e o = KK at *
  generalize leaveL L e o = L1 at *
  go_enter Try.func18, Try.ntmps18
  go_wp2_with (first
    | (go_at_call 33; refine HT.out.mono ?_; rintro e' w2 ⟨rfl, h9⟩; have h9s := h9.symm; clear h9; subst h9s; clear HT)
    | (go_at_call 34; refine HF.out.mono ?_; rintro e' w2 ⟨rfl, h9⟩; have h9s := h9.symm; clear h9; subst h9s; clear HF))
  go_loopw [10, 11] (fun x y wr => ∃ i : Nat, i ≤ M ∧ y = .int .i64 (i : Int) ∧ Hid (NP w wr x (F i))) (fun _ y _ => M - (intOf y).toNat)
  case atStart => exact ⟨0, Nat.zero_le _, rfl, by rw [HZ.out]; exact hide (NP.nil w)⟩
  case round =>
    clear c2 HZ
    obtain ⟨i, hi, rfl, HI⟩ := hrel
    obtain ⟨c2, hq⟩ := HC.out _ HI.out.bel
    obtain ⟨oa, oc, oe, -, -, -⟩ := HI.out.row.form
    subst oe
    by_cases hlt : i < M
    · obtain ⟨g, rfl, d0, d1, d2, d3, d4⟩ := hq i hlt
      have hs := HS.out i hlt
      have hli : (i : Int) < (M : Int) := by omega
      have hlk := HL.out i
      clear HC HS hq
      by_cases h1 : i = k
      · subst h1
        rw [if_pos rfl] at hs
        have hne : ((i : Int) != (i : Int)) = false := by simp
        have HNN := hide hs
        clear hs HL
        go_wp2_with fail
        go_roundw
        case rel => exact ⟨i + 1, by omega, by go_num, by rw [HNN.out]; exact HI⟩
        case measure => simp [intOf]; omega
      · rw [if_neg h1] at hs
        have hne : ((i : Int) != (k : Int)) = true := by simp; omega
        have HNN := hide hs
        clear hs HL
        generalize P.getD i p0 = z at *
        have HI1 := hide (HI.out.calm (below_alloc wr (.cells #[.int .i64 z.ext, .int .i64 z.mode, .int .i64 z.own, .bool z.held, .int .i64 z.turn] 83)))
        have HO1 := hide (new_pc wr z)
        clear HI
        go_wp2_with (at_builtin; refine wpList_appendP _ rfl (.tmp 38) (.tmp 46) rfl _ (F i) rfl HI1.out.row ⟨wr.heap.size, 0, none⟩ 1 [z] (by simp) rfl HO1.out (by simp; omega) ?_; intro v6 w6 q1 q2; have HI2 := hide (HI1.out.app q1 q2); clear q1 q2)
        go_roundw
        case rel => exact ⟨i + 1, by omega, by go_num, by rw [HNN.out]; exact HI2⟩
        case measure => simp [intOf]; omega
    · have ek : i = M := by omega
      subst ek
      have hli : ¬ (i : Int) < (i : Int) := by omega
      obtain ⟨e1, e2, e3⟩ := HRT.out.setL HI.out.bel HI.out.row HI.out.new
      rw [HFN.out] at e3
      have hnew := HI.out.new
      rw [HFN.out] at hnew
      have HLI := hide (HLS.out _ _ e3 hnew)
      rw [← HFN.out] at HLI
      have HWL := hide (HLI.out.wl he)
      clear e3 HC HS hq HL HI c2 HLS HFN HRT hnew
      go_wp2_with fail
      generalize hv1 : Value.slice oa (F i).length oc = v1 at *
      generalize wr.setCell ⟨q, 2, none⟩ v1 = y0 at *
      clear hv1
      go_loopw [12] (fun x wr => ∃ j : Nat, j ≤ (L1 (e * 2 + 1)).length ∧ lenV x = j ∧ Hid (LI w wr q (.slice a i c) v1 n room L1 e j x N KK)) (fun x _ => (L1 (e * 2 + 1)).length - lenV x)
      case atStart => exact ⟨0, Nat.zero_le _, rfl, HLI⟩
      case round =>
        clear HLI
        obtain ⟨j, hjw, hj, HI⟩ := hrel
        obtain ⟨P1, T1, rt, hl1, ht1, hcs⟩ := HCS.out _ _ _ _ _ HI.out
        rcases hcs with ⟨hd, hf, hK⟩ | ⟨cc, r, f, g, c9, hf, hd, hfx, hvr, hgw, hmo, hgo, hown, hno, hyes⟩
        · have HFI := hide (rfirst_any rt (by omega) (e : Int))
          rw [hf] at HFI
          clear HCS
          go_wp2_with (go_at_call 36; refine HFI.out.mono ?_; rintro e' w2 ⟨rfl, h9⟩; have h9s := h9.symm; clear h9; subst h9s)
          (try simp only [Exit.inBlock, Exit.then]); refine bodyPost_ret (results_tmp2 rfl _ _ _) rfl ?_
          exact ⟨_, rfl, HI.out.done hK⟩
        · have HFI := hide (rfirst_any rt (by omega) (e : Int))
          rw [hfx] at HFI
          subst hvr
          have HGO := hide (rgoes_any rt (by omega) (e : Int) P1[f].mode)
          rw [hgo] at HGO
          have hfi : (f : Int) < (P1.length : Int) := by omega
          have hf0 : ¬ (f : Int) < 0 := by omega
          have c2 := rt.c2
          have HRT := hide rt
          clear HCS hgo rt hfx
          cases hgg : goesB (L1 (e * 2) ++ (L1 (e * 2 + 1)).take j) cc.2 with
          | false =>
            rw [hgg] at HGO
            have hK := hno hgg
            clear hyes hno
            go_wp2_with (first
              | (go_at_call 36; refine HFI.out.mono ?_; rintro e' w2 ⟨rfl, h9⟩; have h9s := h9.symm; clear h9; subst h9s)
              | (go_at_call 35; refine HGO.out.mono ?_; rintro e' w3 ⟨rfl, k3⟩; have HI3 := hide (HI.out.below k3); clear k3))
            (try simp only [Exit.inBlock, Exit.then]); refine bodyPost_ret (results_tmp2 rfl _ _ _) rfl ?_
            exact ⟨_, rfl, HI3.out.done hK⟩
          | true =>
            rw [hgg] at HGO
            have HYES := hide (hyes hgg)
            clear hyes hno
            have hwT : IntKind.i64.wrap ((T1 : Int) + 1) = (T1 : Int) + 1 := by simp [IntKind.wrap, IntKind.bits, IntKind.signed]; omega
            obtain ⟨ia, ic, ie⟩ := HI.out.row.form'
            subst ie
            have HOWN := hide hown
            have HJL : Hid ((((L1 (e * 2 + 1)).take j).map Prod.fst).length = j) := hide hj
            have hjW : j < (L1 (e * 2 + 1)).length := by
              have := congrArg List.length hd
              simp at this
              omega
            have HRW : Hid (IRow wr (.slice ia (((L1 (e * 2 + 1)).take j).map Prod.fst).length ic) (((L1 (e * 2 + 1)).take j).map Prod.fst)) := hide HI.out.row
            clear hown hd hj
            generalize ((L1 (e * 2 + 1)).take j).map Prod.fst = IL at *
            have HLT := hide fun w1 hb => let_in (w1 := w1) HRT.out hf hb
            go_wp2_with (first
              | (go_at_call 36; refine HFI.out.mono ?_; rintro e' w2 ⟨rfl, h9⟩; have h9s := h9.symm; clear h9; subst h9s)
              | (go_at_call 35; refine HGO.out.mono ?_; rintro e' w3 ⟨rfl, k3⟩; obtain ⟨⟨⟨s1, s2⟩, s3, s4, s5⟩, ⟨s6, s7, s8, s9⟩, ⟨s10, s11⟩, s12, s13⟩ := HLT.out w3 k3; have s0 := (HRT.out.below k3).c2; have H12 := hide s12; have H13 := hide s13; have HI3 := hide (HI.out.below k3); clear k3 s12 s13))
            have hbz : Below (((w3.setCell ⟨q, 3, none⟩ (.int .i64 ((T1 : Int) + 1))).setCell ⟨g, f * 5 + 3, none⟩ (.bool true)).setCell ⟨g, f * 5 + 4, none⟩ (.int .i64 ((T1 : Int) + 1))).heap.size (((w3.setCell ⟨q, 3, none⟩ (.int .i64 ((T1 : Int) + 1))).setCell ⟨g, f * 5 + 3, none⟩ (.bool true)).setCell ⟨g, f * 5 + 4, none⟩ (.int .i64 ((T1 : Int) + 1))) (((((w3.setCell ⟨q, 3, none⟩ (.int .i64 ((T1 : Int) + 1))).setCell ⟨g, f * 5 + 3, none⟩ (.bool true)).setCell ⟨g, f * 5 + 4, none⟩ (.int .i64 ((T1 : Int) + 1))).drewN 1).alloc (.cells #[.int .i64 P1[f].own] 3)) := ⟨rfl, rfl, rfl, by simp [World.alloc, World.drewN], fun b hb => Below.heap_alloc _ _ _ hb⟩
            have HROW : Hid (IRow (((((w3.setCell ⟨q, 3, none⟩ (.int .i64 ((T1 : Int) + 1))).setCell ⟨g, f * 5 + 3, none⟩ (.bool true)).setCell ⟨g, f * 5 + 4, none⟩ (.int .i64 ((T1 : Int) + 1))).drewN 1).alloc (.cells #[.int .i64 P1[f].own] 3)) (.slice ia IL.length ic) IL) := hide (IRow.below' (rowKept HRW.out fun b eb => H13.out.keep b (HRW.out.lt' eb) (by
              obtain ⟨cs, hcs⟩ := HRW.out.cellsOf eb
              obtain ⟨ds, hds⟩ := PRow.cellsOf HRT.out.own (g := g) rfl
              rintro (e9 | e9)
              · exact neType hcs HRT.out.row (by decide) e9
              · exact neType hcs hds (by decide) e9)) hbz)
            have HRZ := hide (H12.out.below hbz)
            have HCZ : Hid (Chg (fun b => b = q ∨ (Value.slice a i c).ownBlock = some b) w (((((w3.setCell ⟨q, 3, none⟩ (.int .i64 ((T1 : Int) + 1))).setCell ⟨g, f * 5 + 3, none⟩ (.bool true)).setCell ⟨g, f * 5 + 4, none⟩ (.int .i64 ((T1 : Int) + 1))).drewN 1).alloc (.cells #[.int .i64 P1[f].own] 3))) := hide ((HI.out.chg.trans2 H13.out fun b hb e9 => by
              rcases e9 with e9 | e9
              · exact .inl e9
              · omega).trans (Chg.ofBelow hbz))
            have hsz : ((((w3.setCell ⟨q, 3, none⟩ (.int .i64 ((T1 : Int) + 1))).setCell ⟨g, f * 5 + 3, none⟩ (.bool true)).setCell ⟨g, f * 5 + 4, none⟩ (.int .i64 ((T1 : Int) + 1))).drewN 1).heap.size = w3.heap.size := by show (((w3.setCell ⟨q, 3, none⟩ (.int .i64 ((T1 : Int) + 1))).setCell ⟨g, f * 5 + 3, none⟩ (.bool true)).setCell ⟨g, f * 5 + 4, none⟩ (.int .i64 ((T1 : Int) + 1))).heap.size = _; rw [World.size_setCell, World.size_setCell, World.size_setCell]
            have hoz := one_int ((((w3.setCell ⟨q, 3, none⟩ (.int .i64 ((T1 : Int) + 1))).setCell ⟨g, f * 5 + 3, none⟩ (.bool true)).setCell ⟨g, f * 5 + 4, none⟩ (.int .i64 ((T1 : Int) + 1))).drewN 1) P1[f].own
            rw [hsz] at hoz
            have HOZ := hide hoz
            clear hoz hsz
            have HNW := hide HI.out.new
            clear hbz HI H12 H13 HRT HGO HFI HLT HI3
            refine wp_still_tail 11 (by kernel_rfl) (by kernel_rfl) ?_
            simp only [List.take_succ_cons, List.take_zero, List.drop_succ_cons, List.drop_zero]
            repeat still_step
            refine wpStill_nil ?_
            go_wp2_with (at_builtin; refine wpList_appendI _ rfl (.tmp 97) (.tmp 106) rfl _ _ IL [P1[f].own] rfl rfl HROW.out HOZ.out (by have := HJL.out; have := HWL.out; simp; omega) ?_; intro v6 w6 q1 q2; have HQ1 := hide q1; have HQ2 := hide q2; obtain ⟨ia6, ic6, ie6⟩ := q1.form'; rw [List.length_append, List.length_singleton] at ie6; subst ie6; clear q1 q2)
            go_roundw
            case rel =>
              refine ⟨j + 1, by omega, by have := HJL.out; simp [lenV]; omega, hide (HYES.out _ _ HQ1.out (fun b eb => ?_) (HRZ.out.byApp HROW.out HQ2.out) (HCZ.out.trans2 HQ2.out.chg fun b hb e9 => ?_))⟩
              · rcases HQ2.out.loc b eb with e9 | e9
                · exact HNW.out b e9
                · exact Nat.le_trans HCZ.out.size e9
              · have := HNW.out b e9
                omega
            case measure => have := HJL.out; simp [lenV]; omega
end Go.Proofs.Ytijfnacplikibab
