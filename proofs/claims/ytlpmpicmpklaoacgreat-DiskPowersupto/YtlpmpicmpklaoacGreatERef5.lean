import Derived.Test.YtlpmpicmpklaoacGreatERef4
namespace Go.Proofs.YtlpmpicmpklaoacGreat
open Go.RowKit Go.Maps
set_option linter.unusedVariables false
set_option linter.unusedSimpArgs false
set_option maxRecDepth 20000

def RSt.less (R : RSt) (k : Nat) : List (Nat × Pc) := R.items.filter fun x => !(x.1 == k)
set_option maxHeartbeats 1000000 in
theorem rforget {w : World} {L : RLay} {R : RSt} (h : RRep w L R) (k : Nat) (hk : k < R.nb) (hlen : R.items.length + 1 < 4398046511104) :
    Calls Tryz.prog 82 #[PR L, .int .i64 (k : Int)] w fun e w' => e = .returned (.tuple #[]) ∧ ∃ L' : RLay, L'.p = L.p ∧ L'.mb = L.mb ∧ L'.sb = L.sb ∧ RRep w' L' { R with items := R.less k } ∧ Grow w w' L.U L'.U := by
  obtain ⟨i0, hi, hz0, hz1, hz2⟩ := info_parts info_item
  have H := hide h
  have hnb := h.nb2
  obtain ⟨ac, cc, ec, hc1, hc2⟩ := rowForm h.hc
  unfold maxLen at hc2
  clear h
  unfold PR
  go_enter Tryz.func82, Tryz.ntmps82
  go_wp2
  go_loopw [4, 5] (fun lv x wr => ∃ i : Nat, i ≤ R.items.length ∧ x = .int .i64 (i : Int) ∧ Below w.heap.size w wr ∧ wr.ownsRow w.heap.size 114 2 lv ((R.items.take i).filter fun x => !(x.1 == k)).length (itemVals R.sz ((R.items.take i).filter fun x => !(x.1 == k)))) (fun _ x _ => R.items.length - (intOf x).toNat)
  case atStart => exact ⟨0, Nat.zero_le _, rfl, Below.refl _ _, World.ownsRow_nil _ _ _ _⟩
  case round =>
    obtain ⟨i, hi', rfl, hbr, hown⟩ := hrel
    have HOW := hide hown
    clear hown
    have HRr := hide (H.out.below hbr)
    have c4 : wr.cell? ⟨L.p, 4, none⟩ = some (.slice ac R.items.length cc) := by rw [← ec]; exact HRr.out.cell 4
    by_cases hlt : i < R.items.length
    · obtain ⟨g, cap, eg, -, -, k0, k1⟩ := HRr.out.itemAt hlt
      rw [ec] at eg
      simp only [Value.slice.injEq] at eg
      obtain ⟨rfl, -, rfl⟩ := eg
      have HSN := hide (filter_snoc (fun x : Nat × Pc => !(x.1 == k)) R.items hlt)
      have hml : ((R.items.take i).filter fun x => !(x.1 == k)).length ≤ i := by
        have := List.length_filter_le (fun x : Nat × Pc => !(x.1 == k)) (R.items.take i)
        simp only [List.length_take] at this
        omega
      have hxb := (H.out.pi _ (List.getElem_mem hlt)).1
      generalize R.items[i] = X at *
      obtain ⟨j, pc⟩ := X
      generalize (R.items.take i).filter (fun x => !(x.1 == k)) = F at *
      simp only at k0 k1 hxb
      by_cases heq : j = k
      · have HSN2 : Hid ((R.items.take (i + 1)).filter (fun x => !(x.1 == k)) = F) := hide (by rw [HSN.out]; simp [heq])
        subst heq
        go_wp2
        go_roundw
        case rel => exact ⟨i + 1, by omega, by go_num, hbr, by rw [HSN2.out]; exact HOW.out⟩
        case measure => simp [intOf]; omega
      · have r3a := HOW.out.alloc (.cells #[.int .i64 (j : Int), sl pc.g R.sz] 114)
        have HSN2 : Hid ((R.items.take (i + 1)).filter (fun x => !(x.1 == k)) = F ++ [(j, pc)]) := hide (by rw [HSN.out]; simp [heq])
        have hsz := hbr.size
        have hne : ¬ (j : Int) = (k : Int) := by omega
        go_wp2_with (at_builtin; refine wpList_append_own_at _ rfl (.tmp 25) (.tmp 33) 68 rfl w.heap.size 114 i0 (.agg #[.int .i64 0, .slice none 0 0]) 2 32 Tryz.underlying68 hi hz0 hz1 hz2 rfl (by decide) _ _ _ rfl r3a ⟨wr.heap.size, 0, none⟩ 1 1 [.int .i64 (j : Int), sl pc.g R.sz] rfl rfl (cell_two_new _ _ _ _) (by intro u hu; simp only [List.mem_cons, List.not_mem_nil, or_false] at hu; rcases hu with rfl | rfl <;> rfl) (by unfold maxLen; omega) (by omega) (by simp; omega) ?_)
        intro lv' w4 ho4 hg4 _ hloc4
        have hb4 : Below w.heap.size w w4 := (hbr.alloc hbr.size _).grown hg4 (by simp; omega) (fun g hg => (r3a.lt g hg).1)
        go_wp2
        go_roundw
        case rel => exact ⟨i + 1, by omega, by go_num, hb4, by rw [HSN2.out, itemVals_snoc, List.length_append]; exact ho4⟩
        case measure => simp [intOf]; omega
    · have e : R.items.take i = R.items := List.take_of_length_le (by omega)
      rw [e] at HOW
      have HLE : Hid (R.less k = R.items.filter fun x => !(x.1 == k)) := hide rfl
      rw [← HLE.out] at HOW
      obtain ⟨al, cl, el, hl1, hl2⟩ := rowForm HOW.out
      subst el
      have f4 := HRr.out.free 4
      have hlow : wr.ownsRow 0 114 2 (.slice al (R.less k).length cl) (R.less k).length (itemVals R.sz (R.less k)) := by
        refine ⟨HOW.out.1, ?_⟩
        rcases HOW.out.2 with h0 | ⟨g, cap, cur, h1, _, r⟩
        · exact .inl h0
        · exact .inr ⟨g, cap, cur, h1, Nat.zero_le _, r⟩
      have HPU := hide (HRr.out.push (w6 := wr) (fun _ _ _ => rfl) (.slice al (R.less k).length cl) (R.less k) (fun b => L.U b ∨ (Value.slice al (R.less k).length cl).ownBlock = some b) (fun b hb => .inl hb) (fun b hb => hb.elim (HRr.out.uLt b) fun e => (HOW.out.lt b e).2) hlow (fun g hg => .inr hg) (fun x hx => by
        obtain ⟨a, b⟩ := HRr.out.pi x (List.mem_filter.1 hx).1
        exact ⟨a, ⟨b.pc, b.len, .inl b.u⟩⟩))
      have HGR : Hid (Grow w (wr.setCell ⟨L.p, 4, none⟩ (.slice al (R.less k).length cl)) L.U (fun b => L.U b ∨ (Value.slice al (R.less k).length cl).ownBlock = some b)) := hide
        ⟨hbr.os, hbr.tape, hbr.output, by simp [World.setCell]; exact hbr.size, fun b hb hu => by
          have hbp : b ≠ L.p := fun e => hu (e ▸ H.out.uP)
          rw [Go.heap_setCell_other _ _ _ _ hbp]
          exact hbr.block b hb, fun b hb hu => hu.elim id fun e => by have := (HOW.out.lt b e).1; omega, fun b hb => .inl hb⟩
      clear hlow hl1 hl2 e HOW HLE
      obtain ⟨F, hF⟩ : ∃ F, R.less k = F := ⟨_, rfl⟩
      rw [hF] at HPU HGR ⊢
      have HF := hide hF
      clear hF
      go_wp2
      go_end0
      exact ⟨rfl, { L with cv := .slice al F.length cl, U := fun b => L.U b ∨ (Value.slice al F.length cl).ownBlock = some b }, rfl, rfl, rfl, by rw [HF.out]; exact HPU.out, HGR.out⟩

theorem Sim.dropped {S : St} {R : RSt} (h : Sim S R) (k : Nat) : Sim (S.dropped k) { R with items := R.less k } :=
  ⟨h.nb, h.sz, h.on, h.left, h.rd, h.wr, h.th, h.fl, fun j => by
    show updF S.cache k [] j = ((R.items.filter fun x => !(x.1 == k)).filter fun y => y.1 == j).map fun y => y.2.l
    rw [List.filter_filter]
    by_cases e : j = k
    · subst e
      rw [updF_same]
      have : (R.items.filter fun a => a.1 == j && !(a.1 == j)) = [] := by rw [List.filter_eq_nil_iff]; intro x _; simp
      rw [this]; rfl
    · rw [updF_other _ _ e, h.cache j]
      congr 1
      apply List.filter_congr
      intro x _
      by_cases hx : x.1 = j
      · subst hx; simp [e]
      · simp [hx], h.med⟩
theorem Sim.laid {S : St} {R : RSt} (h : Sim S R) (k : Nat) (x : Pc) : Sim (S.laid k (some x.l)) { R with med := updF R.med k x, sp := updF R.sp k false } :=
  ⟨h.nb, h.sz, h.on, h.left, h.rd, h.wr, h.th, h.fl, h.cache, fun j => by
    show updF S.med k (some x.l) j = if updF R.sp k false j then none else some (updF R.med k x j).l
    by_cases e : j = k
    · subst e; simp [updF_same]
    · rw [updF_other _ _ e, updF_other _ _ e, updF_other _ _ e]; exact h.med j⟩
theorem RD.addTh {w : World} {L : RLay} {S : St} {wh : Int} (h : RD w L S wh) : RD (w.setCell ⟨L.p, 9, none⟩ (.int .i64 (wrap64 (S.th + 1)))) L S.addTh wh ∧ Grow w (w.setCell ⟨L.p, 9, none⟩ (.int .i64 (wrap64 (S.th + 1)))) L.U L.U ∧ (w.setCell ⟨L.p, 9, none⟩ (.int .i64 (wrap64 (S.th + 1)))).heap.size = w.heap.size :=
  h.store 9 _ S.off S.fuse S.rd S.wr (wrap64 (S.th + 1)) S.fl wh h.fz (fun R h1 h2 h3 h4 h5 h6 h7 => by simp only [refRow, ← h1, ← h2, ← h3, ← h4, ← h6, ← h7]; rfl)

set_option maxHeartbeats 1000000 in
theorem rThrough {w : World} {L : RLay} {S : St} {wh : Int} (h : RD w L S wh) (b : Int) (v : Value) {l : List Nat} (hv : BSl w v l) (hvU : 0 < l.length → ∀ g, blockOf v = some g → ¬ L.U g) (hb : ∀ k, (S.cache k).length + 1 ≤ 268435456) :
    Calls Tryz.prog 54 #[PR L, .int .i64 b, v] w fun e w' => WPost w L (S.through b l) (S.putErr b l.length) b e w' := by
  have HD := hide h
  have HF := hide (rfits h b v hv)
  have HS := hide (rstep h)
  have HV := hide hv
  have HVU := hide hvU
  have HCB := hide hb
  clear h hv hvU hb
  unfold PR at *
  by_cases hf : S.fitErr b l.length = 0
  · have hbr : 0 ≤ b ∧ b < S.nb := by
      unfold St.fitErr at hf
      split at hf
      · simp at hf
      · rename_i h; exact Decidable.not_not.1 h
    have hll : l.length = S.sz := by
      unfold St.fitErr at hf
      rw [if_neg (not_not_intro hbr)] at hf
      split at hf
      · simp at hf
      · rename_i h; exact Decidable.not_not.1 h
    obtain ⟨k, rfl⟩ : ∃ k : Nat, b = (k : Int) := ⟨b.toNat, by omega⟩
    have hk : k < S.nb := by omega
    rw [hf] at HF
    have e0 : S.putErr k l.length = if S.stepOk = false then 22 else 0 := by
      unfold St.putErr
      rw [if_neg (not_not_intro hbr), if_neg (not_not_intro hll)]
    cases hok : S.stepOk with
    | false =>
      have e1 : S.putErr k l.length = 22 := by rw [e0, hok]; rfl
      have e2 : S.through k l = S.step := by rw [St.through, St.putSt, e1]; rfl
      rw [e1, e2]
      rw [hok] at HS
      clear e0 e1 e2
      go_enter Tryz.func54, Tryz.ntmps54
      go_wp2_with (first
        | (go_at_call 79; refine HF.out.mono ?_; rintro e w' ⟨rfl, hw⟩; cases hw)
        | (go_at_call 81; refine HS.out.mono ?_; rintro e w2 ⟨rfl, hx, hy, hz⟩; have HN := hide (rrefuse hx 22 k); unfold PR at HN)
        | (go_at_call 80; refine HN.out.mono ?_; rintro e w3 ⟨rfl, hx3, hy3⟩))
      go_ret
      exact ⟨rfl, L, rfl, hx3, hy.trans hy3⟩
    | true =>
      have e1 : S.putErr k l.length = 0 := by rw [e0, hok]; rfl
      have e2 : S.through k l = ((S.step.laid k (some l)).dropped k).addTh := by rw [St.through, St.putSt, e1]; rfl
      rw [e1, e2]
      rw [hok] at HS
      have hsz : l.length ≤ 1024 := by have := HD.out.szs; omega
      have hl0 : 0 < l.length := by have := HD.out.szs; omega
      have hnb := HD.out.nb.2
      have HLL := hide hll
      have HK := hide hk
      clear e0 e1 e2 hll
      go_enter Tryz.func54, Tryz.ntmps54
      go_wp2_with (first
        | (go_at_call 79; refine HF.out.mono ?_; rintro e w' ⟨rfl, hw⟩; cases hw)
        | (go_at_call 81; refine HS.out.mono ?_; rintro e w2 ⟨rfl, hx, hy, hz⟩))
      obtain ⟨R2, r1, r2, r3⟩ := hx
      have hb2 : ∀ k, (S.step.cache k).length + 1 ≤ 268435456 := fun k => by rw [step_cache]; exact HCB.out k
      have hil := items_lt r1 r2 hb2
      have HFO := hide (rforget r1 k (by rw [r2.nb, step_nb]; exact hk) hil)
      unfold PR at HFO
      have HSM := hide r2
      have HWH := hide r3
      have HY := hide hy
      have HZ := hide hz
      clear r1 r2 r3 hb2 hil hy hz
      refine HFO.out.mono ?_
      rintro e w3 ⟨rfl, L', eL, eM, eS, hR3, hG3⟩
      have HG3 := hide (HY.out.trans hG3)
      have HR3 := hide hR3
      have HSD := hide (HSM.out.dropped k)
      clear hR3 hG3 HFO
      generalize hRR : ({ R2 with items := R2.less k } : RSt) = R3 at *
      clear hRR
      have hk3 : k < R3.nb := by rw [HSD.out.nb]; show k < S.step.nb; rw [step_nb]; exact HK.out
      have hszR : R3.sz = l.length := by rw [HSD.out.sz]; show S.step.sz = _; rw [step_sz]; exact HLL.out.symm
      have hnbR : R3.nb = S.nb := by rw [HSD.out.nb]; show S.step.nb = _; rw [step_nb]
      obtain ⟨m1, m2⟩ := HR3.out.mc
      obtain ⟨s1, s2⟩ := HR3.out.sc
      unfold maxLen at m2 s2
      have HVr : Hid (BSl w3.drew v l) := hide (HV.out.keptIf (w' := w3.drew) fun g hg hlt => HG3.out.keep g hlt (HVU.out hl0 g hg))
      have HCP : Hid (Calls Tryz.prog 41 #[v] w3.drew fun e w' => e = .returned (sl w3.heap.size l.length) ∧ PieceAt w' w3.heap.size l ∧ Below w3.heap.size w3.drew w' ∧ w'.heap.size = w3.heap.size + 1) := hide (rCopy_any v l w3.drew HVr.out (by omega) hl0)
      rw [← hszR] at HCP
      have HB0 := hide (Below.drew (Below.refl w3.heap.size w3))
      have HR0 := hide (HR3.out.below HB0.out)
      have HCE : Hid (∀ w', RRep w' L' R3 → w'.cell? ⟨L.p, 2, none⟩ = some (.slice (some ⟨L'.mb, 0, none⟩) R3.nb L'.mc) ∧ w'.cell? ⟨L.p, 3, none⟩ = some (.slice (some ⟨L'.sb, 0, none⟩) R3.nb L'.sc)) := hide fun w' h' => by rw [← eL]; exact ⟨h'.cell 2, h'.cell 3⟩
      obtain ⟨k0, -⟩ := HCE.out _ HR0.out
      have HNE : Hid (L.p ≠ L'.mb ∧ L.p ≠ L'.sb) := hide (by rw [← eL]; obtain ⟨ms, h1, _⟩ := HR3.out.hm; obtain ⟨ss, h2, _⟩ := HR3.out.hs; exact ⟨neType HR3.out.hp h1 (by decide), neType HR3.out.hp h2 (by decide)⟩)
      have HK3 := hide hk3
      have HSR := hide hszR
      clear hszR hk3 eM eS
      have hkn : (k : Int) < (R3.nb : Int) := by have := HK3.out; omega
      go_wp2_with fail
      go_region_held3 (fun w' => w'.cell? ⟨L.p, 2, none⟩ = some (.slice (some ⟨L'.mb, 0, none⟩) R3.nb L'.mc)) (first | exact k0 | assumption)
        (first
          | (go_at_call 41; refine HCP.out.mono ?_; rintro e w4 ⟨rfl, hp4, hb4, hz4⟩; have HR4 := hide (HR0.out.below hb4); obtain ⟨k4, -⟩ := HCE.out _ HR4.out; obtain ⟨n4, f4⟩ := HR4.out.medAt HK3.out; have hq4 := HR4.out.wider (U' := fun b => L'.U b ∨ b = w3.heap.size) (fun b hb => .inl hb) (fun b hb => hb.elim (HR4.out.uLt b) (fun e => by omega)); have hx4 : Pc.ok w4 (fun b => L'.U b ∨ b = w3.heap.size) R3.sz ⟨w3.heap.size, l⟩ := ⟨hp4, HSR.out.symm, .inr rfl⟩; obtain ⟨t1, t2, t3⟩ := hq4.setMed HK3.out ⟨w3.heap.size, l⟩ hx4; have HX4 := hide hx4; have k5 : (w4.setCell ⟨L'.mb, k, none⟩ (sl w3.heap.size R3.sz)).cell? ⟨L.p, 2, none⟩ = some (.slice (some ⟨L'.mb, 0, none⟩) R3.nb L'.mc) := (by rw [← eL]; exact t1.cell 2); have HT1 := hide t1; have HT2 := hide t2; have HZ4 := hide hz4; have HB4 := hide hb4; clear hz4 hb4 hp4 hq4 hx4 t1 t2 t3))
      have c3 : (w4.setCell ⟨L'.mb, k, none⟩ (sl w3.heap.size R3.sz)).cell? ⟨L.p, 3, none⟩ = some (.slice (some ⟨L'.sb, 0, none⟩) R3.nb L'.sc) := (by rw [← eL]; exact HT1.out.cell 3)
      obtain ⟨s5, g5⟩ := HT1.out.spAt HK3.out
      have s5 : (w4.setCell ⟨L'.mb, k, none⟩ (sl w3.heap.size R3.sz)).cell? ⟨L'.sb, k, none⟩ = _ := s5
      have g5 : (w4.setCell ⟨L'.mb, k, none⟩ (sl w3.heap.size R3.sz)).frozen? ⟨L'.sb, k, none⟩ = _ := g5
      obtain ⟨u1, u2, u3⟩ := HT1.out.setSp HK3.out false
      have hD6 : RD ((w4.setCell ⟨L'.mb, k, none⟩ (sl w3.heap.size R3.sz)).setCell ⟨L'.sb, k, none⟩ (.bool false)) { L' with U := fun b => L'.U b ∨ b = w3.heap.size } ((S.step.laid k (some l)).dropped k) R3.wh := ⟨_, u1, HSD.out.laid k ⟨w3.heap.size, l⟩, rfl⟩
      have HG6 : Hid (Grow w ((w4.setCell ⟨L'.mb, k, none⟩ (sl w3.heap.size R3.sz)).setCell ⟨L'.sb, k, none⟩ (.bool false)) L.U (fun b => L'.U b ∨ b = w3.heap.size)) := hide (HG3.out.trans ((Grow.trans (Grow.trans (U1 := fun b => L'.U b ∨ b = w3.heap.size) ⟨HB4.out.os.trans HB0.out.os, HB4.out.tape.trans HB0.out.tape, HB4.out.output.trans HB0.out.output, by have := HZ4.out; omega, fun b hb _ => (HB4.out.block b hb).trans (HB0.out.block b hb), fun b hb hu => hu.elim id fun e => by omega, fun b hb => .inl hb⟩ HT2.out) u2)))
      have HD6 := hide hD6
      have c9 := hD6.cells.1.c9
      have f9 := hD6.cells.1.free 9
      simp only [eL] at c9 f9
      obtain ⟨q1, q2, q3⟩ := hD6.addTh
      have HQ2 := hide q2
      have HF9 := hide (rfine q1)
      unfold PR at HF9
      simp only [eL] at HF9 HQ2
      clear hD6 q1 q2 q3 u1 u2 u3 HT1 HT2
      go_wp2_with (go_at_call 71; refine HF9.out.mono ?_; rintro e w9 ⟨rfl, hx9, hy9⟩)
      go_ret
      exact ⟨rfl, { p := L.p, mb := L'.mb, mc := L'.mc, sb := L'.sb, sc := L'.sc, cv := L'.cv, U := fun b => L'.U b ∨ b = w3.heap.size }, rfl, hx9, HG6.out.trans (HQ2.out.trans hy9)⟩
  · have hf2 : S.putErr b l.length = S.fitErr b l.length := by
      unfold St.putErr
      unfold St.fitErr at hf ⊢
      split
      · rfl
      · rename_i h1
        split
        · rfl
        · rename_i h2
          rw [if_neg h1, if_neg h2] at hf
          exact absurd rfl hf
    have hne22 : S.fitErr b l.length ≠ 22 := by
      unfold St.fitErr
      split
      · decide
      · split <;> decide
    have e2 : S.through b l = S := by rw [St.through, St.putSt, hf2, if_neg hf, if_neg hne22]
    rw [hf2, e2]
    have HN := hide (rrefuse HD.out (S.fitErr b l.length) b)
    unfold PR at HN
    have HNE := hide hf
    have HPO : Hid (∀ e w', e = .returned (.int .i64 (S.fitErr b l.length)) ∧ RD w' L S b ∧ Grow w w' L.U L.U → WPost w L S (S.fitErr b l.length) b e w') := hide fun e w' h => ⟨h.1, L, rfl, by rw [if_neg HNE.out]; exact h.2.1, h.2.2⟩
    clear hf2 hne22 e2
    generalize S.fitErr b l.length = en at *
    go_enter Tryz.func54, Tryz.ntmps54
    go_wp2_with (first
      | (go_at_call 79; refine HF.out.mono ?_; rintro e w' ⟨rfl, hw⟩; cases hw)
      | (go_at_call 80; refine HN.out.mono ?_; rintro e w3 ⟨rfl, hx3, hy3⟩))
    go_ret
    exact HPO.out _ _ ⟨rfl, hx3, hy3⟩
end Go.Proofs.YtlpmpicmpklaoacGreat
