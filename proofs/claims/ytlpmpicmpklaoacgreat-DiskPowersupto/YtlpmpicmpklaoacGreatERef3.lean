import Derived.Test.YtlpmpicmpklaoacGreatERef2
namespace Go.Proofs.YtlpmpicmpklaoacGreat
open Go.RowKit Go.Maps
set_option linter.unusedVariables false
set_option linter.unusedSimpArgs false
set_option maxRecDepth 20000

theorem of_eq (R : RSt) (k : Nat) : R.of (k : Int) = R.items.filter fun x => x.1 == k := by
  unfold RSt.of
  congr 1
  funext x
  by_cases h : x.1 = k
  · simp [h]
  · have : ¬ ((x.1 : Int) = (k : Int)) := by omega
    simp [h, this]
theorem Sim.cacheOf {S : St} {R : RSt} (h : Sim S R) (k : Nat) : S.cache k = (R.of (k : Int)).map fun x => x.2.l := by
  rw [of_eq]; exact h.cache k
theorem of_len (R : RSt) (b : Int) : (R.of b).length ≤ R.items.length := List.length_filter_le _ _
theorem of_mem {R : RSt} {b : Int} {x : Nat × Pc} (h : x ∈ R.of b) : x ∈ R.items := (List.mem_filter.1 h).1
def Small (w : World) (L : RLay) (S : St) (n : Nat) : Prop := ∀ R, RRep w L R → Sim S R → R.items.length ≤ n

/-- bytes that are new -/
def New (w w' : World) (v : Value) (l : List Nat) : Prop := ∃ g, v = sl g l.length ∧ w.heap.size ≤ g ∧ PieceAt w' g l

structure RdPost (w : World) (L : RLay) (S S' : St) (n : Int) (o : Option (List Nat)) (b : Int) (e : Ending) (w' : World) : Prop where
  mk' ::
  val : ∃ v, e = .returned (.tuple #[v, .int .i64 n]) ∧ (n = 0 → ∃ l, o = some l ∧ New w w' v l) ∧ (n ≠ 0 → v = nilS)
  rd : RD w' L S' (if n = 0 then -1 else b)
  gr : Grow w w' L.U L.U

theorem RD.addRd {w : World} {L : RLay} {S : St} {wh : Int} (h : RD w L S wh) : RD (w.setCell ⟨L.p, 7, none⟩ (.int .i64 (wrap64 (S.rd + 1)))) L S.addRd wh ∧ Grow w (w.setCell ⟨L.p, 7, none⟩ (.int .i64 (wrap64 (S.rd + 1)))) L.U L.U ∧ (w.setCell ⟨L.p, 7, none⟩ (.int .i64 (wrap64 (S.rd + 1)))).heap.size = w.heap.size :=
  h.store 7 _ S.off S.fuse (wrap64 (S.rd + 1)) S.wr S.th S.fl wh h.fz (fun R h1 h2 h3 h4 h5 h6 h7 => by simp only [refRow, ← h1, ← h2, ← h4, ← h5, ← h6, ← h7]; rfl)

theorem rCopyP {w : World} {U : Nat → Prop} {sz : Nat} {x : Pc} (h : x.ok w U sz) (hs : sz ≤ 1024) :
    Calls Tryz.prog 41 #[sl x.g sz] w fun e w' => e = .returned (sl w.heap.size sz) ∧ PieceAt w' w.heap.size x.l ∧ Below w.heap.size w w' ∧ w'.heap.size = w.heap.size + 1 := by
  have hl := h.len
  have := rCopy_any _ x.l w h.pc.bsl (by omega) h.pc.2.2.2
  rw [hl] at this
  exact this
theorem cellOther {w : World} {a b i j : Nat} {v u : Value} (h : w.cell? ⟨b, j, none⟩ = some u) (hne : b ≠ a) (hb : ∃ cs t, w.heap[b]? = some (.cells cs t (0, 0))) : (w.setCell ⟨a, i, none⟩ v).cell? ⟨b, j, none⟩ = some u := by
  obtain ⟨cs, t, hb⟩ := hb
  rw [cell_of_row _ _ _ _ _ _ ((Go.heap_setCell_other _ _ _ _ hne).trans hb)]
  rw [cell_of_row _ _ _ _ _ _ hb] at h
  exact h

set_option maxHeartbeats 1000000 in
theorem rRead {w : World} {L : RLay} {R : RSt} {S : St} (hR : RRep w L R) (hS : Sim S R) (b : Int) (hb : -9223372036854775808 ≤ b ∧ b ≤ 9223372036854775807) (hlen : R.items.length + 1 ≤ 4398046511104) :
    Calls Tryz.prog 24 #[PR L, .int .i64 b] w fun e w' => RdPost w L S (S.read b) (S.readErr b) (S.val b.toNat) b e w' := by
  have h : RD w L S R.wh := ⟨R, hR, hS, rfl⟩
  have HD := hide h
  have HT := hide (rthere h b)
  have HCA := hide (rcached hR b hb hlen)
  have c5 := h.cells.1.c5
  have hnb := h.nb.2
  clear h
  unfold PR at *
  by_cases hr : 0 ≤ b ∧ b < S.nb
  · have e0 : decide (0 ≤ b ∧ b < (S.nb : Int)) = true := decide_eq_true hr
    rw [e0] at HT
    obtain ⟨k, rfl⟩ : ∃ k : Nat, b = (k : Int) := ⟨b.toNat, by omega⟩
    have hk : k < S.nb := by omega
    rw [Int.toNat_natCast]
    cases ho : S.off with
    | true =>
      have e1 : S.readErr k = 22 := by unfold St.readErr; rw [if_neg (not_not_intro hr), if_pos ho]
      have e2 : S.read k = S := by unfold St.read; rw [e1]; rfl
      rw [e1, e2]
      rw [ho] at c5
      have HN := hide (rnone HD.out 22 k)
      unfold PR at HN
      go_enter Tryz.func24, Tryz.ntmps24
      go_wp2_with (first
        | (go_at_call 68; refine HT.out.mono ?_; rintro e w' ⟨rfl, hw⟩; cases hw)
        | (go_at_call 69; refine HN.out.mono ?_; rintro e w2 ⟨rfl, hx, hy⟩))
      go_ret2
      exact ⟨⟨_, rfl, fun h => absurd h (by decide), fun _ => rfl⟩, hx, hy⟩
    | false =>
      rw [ho] at c5
      have HCK := hide (hS.cacheOf k)
      have HPI : Hid (∀ x ∈ R.of (k : Int), x.2.ok w L.U R.sz) := hide fun x hx => (hR.pi x (of_mem hx)).2
      have hol := of_len R (k : Int)
      have HSZ := hide hS.sz
      by_cases hne : R.of (k : Int) = []
      · have HCE : Hid (S.cache k = []) := hide (by rw [HCK.out, hne]; rfl)
        have HVM : Hid (S.val k = S.med k) := hide (by unfold St.val; rw [HCE.out]; rfl)
        have HMD := hide (hS.med k)
        rw [hne] at HCA
        have hkR : k < R.nb := by rw [hS.nb]; exact hk
        have hs : R.sz ≤ 1024 := by have := hR.szs; omega
        have HMO := hide (hR.pm k hkR)
        have HM1 : Hid (∀ w', RRep w' L R → w'.cell? ⟨L.mb, k, none⟩ = some (sl (R.med k).g R.sz) ∧ w'.cell? ⟨L.sb, k, none⟩ = some (.bool (R.sp k))) := hide fun w' h' => ⟨(h'.medAt hkR).1, (h'.spAt hkR).1⟩
        have HRR := hide hR
        obtain ⟨m1, m2⟩ := hR.mc
        obtain ⟨s1, s2⟩ := hR.sc
        rw [hS.nb] at m1 s1
        unfold maxLen at m2 s2
        have HNM : Hid (L.mb ≠ L.p) := hide (by obtain ⟨ms, h1, _⟩ := hR.hm; exact neType h1 hR.hp (by decide))
        have HSM := hide hS
        clear hR hS hol
        cases hsp : R.sp k with
        | true =>
          have e0 : S.val k = none := by rw [HVM.out, HMD.out, hsp]; rfl
          have e1 : S.readErr k = 21 := by unfold St.readErr; rw [if_neg (not_not_intro hr), if_neg (by rw [ho]; simp), Int.toNat_natCast, e0]; rfl
          have e2 : S.read k = S := by unfold St.read; rw [e1]; rfl
          rw [e1, e2]
          clear e0 e1 e2
          go_enter Tryz.func24, Tryz.ntmps24
          go_wp2_with (first
            | (go_at_call 68; refine HT.out.mono ?_; rintro e w' ⟨rfl, hw⟩; cases hw)
            | (go_at_call 70; refine HCA.out.mono ?_; rintro e w2 ⟨v, rfl, hown, hb2⟩; have HD2 := hide (HD.out.below hb2); obtain ⟨av, cv, ev, hv1, hv2⟩ := rowForm hown; subst ev; unfold maxLen at hv2; obtain ⟨-, k2⟩ := HM1.out w2 (HRR.out.below hb2); rw [hsp] at k2; have c3 := HD2.out.cells.1.c3; have HB2 := hide hb2; simp only [List.length_nil] at *; clear hb2 hown)
            | (go_at_call 69; have HN := hide (rnone HD2.out 21 k); unfold PR at HN; refine HN.out.mono ?_; rintro e w3 ⟨rfl, hx, hy⟩))
          go_ret2
          exact ⟨⟨_, rfl, fun h => absurd h (by decide), fun _ => rfl⟩, hx, (Grow.ofBelow L.U HB2.out).trans hy⟩
        | false =>
          have e0 : S.val k = some (R.med k).l := by rw [HVM.out, HMD.out, hsp]; rfl
          have HV := hide e0
          have e1 : S.readErr k = 0 := by unfold St.readErr; rw [if_neg (not_not_intro hr), if_neg (by rw [ho]; simp), Int.toNat_natCast, e0]; rfl
          have e2 : S.read k = S.addRd := by unfold St.read; rw [e1]; rfl
          rw [e1, e2]
          clear e0 e1 e2
          go_enter Tryz.func24, Tryz.ntmps24
          go_wp2_with (first
            | (go_at_call 68; refine HT.out.mono ?_; rintro e w' ⟨rfl, hw⟩; cases hw)
            | (go_at_call 70; refine HCA.out.mono ?_; rintro e w2 ⟨v, rfl, hown, hb2⟩; have HD2 := hide (HD.out.below hb2); obtain ⟨av, cv, ev, hv1, hv2⟩ := rowForm hown; subst ev; unfold maxLen at hv2; obtain ⟨-, k2⟩ := HM1.out w2 (HRR.out.below hb2); rw [hsp] at k2; have c3 := HD2.out.cells.1.c3; have HB2 := hide hb2; obtain ⟨q1, q2, q3⟩ := HD2.out.addRd; have k1 : (w2.setCell ⟨L.p, 7, none⟩ (.int .i64 (wrap64 (S.rd + 1)))).cell? ⟨L.mb, k, none⟩ = some (sl (R.med k).g R.sz) := (cellOther (HM1.out w2 (HRR.out.below hb2)).1 HNM.out (by obtain ⟨ms, h1, _⟩ := (HRR.out.below hb2).hm; exact ⟨_, _, h1⟩)); have c2 := q1.cells.1.c2; have d7 := HD2.out.cells.1.c7; have f7 := HD2.out.cells.1.free 7; have HXO2 := hide (HMO.out.kept (hb2.block _ HMO.out.pc.lt) id); have HQ1 := hide q1; have HQ2 := hide q2; have HQ3 := hide q3; simp only [List.length_nil] at *; clear hb2 hown q1 q2 q3)
            | (go_at_call 41; refine (rCopyP (HXO2.out.kept (Go.heap_setCell_other _ _ _ _ (by obtain ⟨R', hR', _⟩ := HD2.out; exact (hR'.pieceNe HXO2.out.pc).1)) id) hs).mono ?_; rintro e w4 ⟨rfl, hp4, hb4, hz4⟩; have HD4 := hide (HQ1.out.below hb4); have HB4 := hide hb4; have HP4 := hide hp4; clear hp4 hb4 hz4)
            | (go_at_call 71; have HF := hide (rfine HD4.out); unfold PR at HF; refine HF.out.mono ?_; rintro e w5 ⟨rfl, hx, hy⟩))
          go_ret2
          have hp5 := HP4.out
          rw [HQ3.out] at hp5
          have hnu : ¬ L.U w2.heap.size := fun hu => by have := HD.out.uLt _ hu; have := HB2.out.size; omega
          exact ⟨⟨sl w2.heap.size R.sz, rfl, fun _ => ⟨(R.med k).l, HV.out, w2.heap.size, by rw [HMO.out.len], HB2.out.size, hp5.kept (hy.keep _ hp5.lt hnu)⟩, fun h => absurd rfl h⟩, hx, ((Grow.ofBelow L.U HB2.out).trans HQ2.out).trans ((Grow.ofBelow L.U HB4.out).trans hy)⟩
      · have hpos : 0 < (R.of (k : Int)).length := List.length_pos_iff.2 hne
        obtain ⟨X, hX⟩ : ∃ X, (R.of (k : Int))[(R.of (k : Int)).length - 1]? = some X := ⟨_, List.getElem?_eq_getElem (by omega)⟩
        have HV : Hid (S.val k = some X.2.l) := hide (by
          unfold St.val
          rw [HCK.out, List.getLast?_eq_getElem?, List.length_map, List.getElem?_map, hX]; rfl)
        have e1 : S.readErr k = 0 := by unfold St.readErr; rw [if_neg (not_not_intro hr), if_neg (by rw [ho]; simp), Int.toNat_natCast, HV.out]; rfl
        have e2 : S.read k = S.addRd := by unfold St.read; rw [e1]; rfl
        rw [e1, e2]
        have HXO : Hid (X.2.ok w L.U R.sz) := hide (HPI.out X (List.mem_of_getElem? hX))
        have HVX : Hid ((slOf R.sz (R.of (k : Int)))[(R.of (k : Int)).length - 1]? = some (sl X.2.g R.sz)) := hide (by rw [slOf, List.getElem?_map, hX]; rfl)
        clear e1 e2 hX hne
        generalize R.of (k : Int) = F at *
        have hs : R.sz ≤ 1024 := by have := hR.szs; omega
        have hpl := HD.out.uLt _ hR.uP
        clear hR hS
        go_enter Tryz.func24, Tryz.ntmps24
        go_wp2_with (first
          | (go_at_call 68; refine HT.out.mono ?_; rintro e w' ⟨rfl, hw⟩; cases hw)
          | (go_at_call 70; refine HCA.out.mono ?_; rintro e w2 ⟨v, rfl, hown, hb2⟩; have HD2 := hide (HD.out.below hb2); have HXO2 := hide (HXO.out.kept (hb2.block _ HXO.out.pc.lt) id); obtain ⟨av, cv, ev, hv1, hv2⟩ := rowForm hown; subst ev; obtain ⟨gv, rfl, hcv⟩ := rowAt hown hpos; have hgl := (hown.lt gv rfl).1; obtain ⟨cs0, hcs0⟩ := rowCells hown (g := gv) rfl; have kv := cellOther (i := 7) (v := .int .i64 (wrap64 (S.rd + 1))) (hcv _ _ HVX.out) (show gv ≠ L.p by omega) ⟨_, _, hcs0⟩; have HB2 := hide hb2; unfold maxLen at hv2; have d7 := HD2.out.cells.1.c7; have f7 := HD2.out.cells.1.free 7; clear hb2 hcv hown hcs0)
          | (go_at_call 41; obtain ⟨q1, q2, q3⟩ := HD2.out.addRd; have HQ1 := hide q1; have HQ2 := hide q2; refine (rCopyP (HXO2.out.kept (Go.heap_setCell_other _ _ _ _ (by obtain ⟨R', hR', _⟩ := HD2.out; exact (hR'.pieceNe HXO2.out.pc).1)) id) hs).mono ?_; rintro e w4 ⟨rfl, hp4, hb4, hz4⟩; have HD4 := hide (HQ1.out.below hb4); have HB4 := hide hb4; have HP4 := hide hp4; clear q1 q2 hp4 hb4 hz4)
          | (go_at_call 71; have HF := hide (rfine HD4.out); unfold PR at HF; refine HF.out.mono ?_; rintro e w5 ⟨rfl, hx, hy⟩))
        go_ret2
        have hp5 := HP4.out
        rw [q3] at hp5
        have hnu : ¬ L.U w2.heap.size := fun hu => by have := HD.out.uLt _ hu; have := HB2.out.size; omega
        exact ⟨⟨sl w2.heap.size R.sz, rfl, fun _ => ⟨X.2.l, HV.out, w2.heap.size, by rw [HXO.out.len], HB2.out.size, hp5.kept (hy.keep _ hp5.lt hnu)⟩, fun h => absurd rfl h⟩, hx, ((Grow.ofBelow L.U HB2.out).trans HQ2.out).trans ((Grow.ofBelow L.U HB4.out).trans hy)⟩
  · have e1 : S.readErr b = 2 := by unfold St.readErr; rw [if_pos hr]
    have e2 : S.read b = S := by unfold St.read; rw [e1]; rfl
    have e0 : decide (0 ≤ b ∧ b < (S.nb : Int)) = false := decide_eq_false hr
    rw [e0] at HT
    rw [e1, e2]
    have HN := hide (rnone HD.out 2 b)
    unfold PR at HN
    go_enter Tryz.func24, Tryz.ntmps24
    go_wp2_with (first
      | (go_at_call 68; refine HT.out.mono ?_; rintro e w' ⟨rfl, hw⟩; cases hw)
      | (go_at_call 69; refine HN.out.mono ?_; rintro e w2 ⟨rfl, hx, hy⟩))
    go_ret2
    exact ⟨⟨_, rfl, fun h => absurd h (by decide), fun _ => rfl⟩, hx, hy⟩
end Go.Proofs.YtlpmpicmpklaoacGreat
