import Derived.Test.YtijfnacplikibaaKOut
namespace Go.Proofs.Ytijfnacplikibaa
open Go.RowKit
set_option linter.unusedVariables false
set_option linter.unusedSimpArgs false
set_option maxRecDepth 20000

def ComeP (N q : Nat) (x : World) (wv mv hv : Value) (P H : List (Int × Int)) (k : Nat) (e : Ending) (y : World) : Prop := e = .returned (.bool true) ∧ ∃ v1 v2 v3, LG N y q v1 v2 v3 ((P.drop k).map Prod.fst) ((P.drop k).map Prod.snd) ((H ++ P.take k).map Prod.fst) ∧ Chg (LU q wv mv hv) x y
/-- while they come in -/
structure CI (N : Nat) (x y : World) (q : Nat) (wv mv hv hi : Value) (P H : List (Int × Int)) (i : Nat) : Prop where
  lg : LG N y q wv mv hi (P.map Prod.fst) (P.map Prod.snd) ((H ++ P.take i).map Prod.fst)
  chg : Chg (LU q wv mv hv) x y
  loc : ∀ g, hi.ownBlock = some g → hv.ownBlock = some g ∨ x.heap.size ≤ g
theorem CI.step {N q i : Nat} {x y z : World} {wv mv hv hi hi' : Value} {P H : List (Int × Int)} (h : CI N x y q wv mv hv hi P H i) (hN : N ≤ x.heap.size) (hk : i < P.length) {y' : World} (hy : Below y.heap.size y y') (ho : ORow z hi' ((H ++ P.take i).map Prod.fst ++ [(P.getD i (0, 0)).1])) (ha : App y' z hi hi') :
    z.cell? ⟨q, 2, none⟩ = some hi ∧ z.frozen? ⟨q, 2, none⟩ = false ∧ (∃ a m c, hi' = .slice a m c) ∧ Hid (CI N x (z.setCell ⟨q, 2, none⟩ hi') q wv mv hv hi' P H (i + 1)) := by
  have h0 := h.lg.below hy
  have hs := h.chg.size
  have hsz := hy.size
  obtain ⟨p1, p2, p3, p4⟩ := h0.appH (by omega) ho ha
  have e : (H ++ P.take (i + 1)).map Prod.fst = (H ++ P.take i).map Prod.fst ++ [(P.getD i (0, 0)).1] := by
    have hg : P.getD i (0, 0) = P[i] := by simp [List.getD, hk]
    have ht : P.take (i + 1) = P.take i ++ [P.getD i (0, 0)] := by
      rw [hg, List.take_add_one, List.getElem?_eq_getElem hk]
      rfl
    rw [ht, ← List.append_assoc, List.map_append]
    rfl
  refine ⟨p3, p4, ?_, hide ⟨by rw [e]; exact p1, ?_, ?_⟩⟩
  · obtain ⟨a, c, e2, -⟩ := ho.form
    exact ⟨a, _, c, e2⟩
  · refine ⟨p2.os.trans (hy.os.trans h.chg.os), p2.tape.trans (hy.tape.trans h.chg.tape), p2.output.trans (hy.output.trans h.chg.output), by have := p2.size; omega, fun g hg hn => ?_⟩
    refine ((p2.keep g (by omega) fun hu => ?_).trans (hy.block g (by omega))).trans (h.chg.keep g hg hn)
    rcases hu with e1 | e1 | e1 | e1
    · exact hn (.inl e1)
    · exact hn (.inr (.inl e1))
    · exact hn (.inr (.inr (.inl e1)))
    · rcases h.loc g e1 with e2 | e2
      · exact hn (.inr (.inr (.inr e2)))
      · omega
  · intro g e1
    rcases ha.loc g e1 with e2 | e2
    · exact h.loc g e2
    · right
      omega
theorem CI.calm {N q i : Nat} {x y z : World} {wv mv hv hi : Value} {P H : List (Int × Int)} (h : CI N x y q wv mv hv hi P H i) (hb : Below y.heap.size y z) : CI N x z q wv mv hv hi P H i :=
  ⟨h.lg.below hb, h.chg.trans (Chg.ofBelow hb), h.loc⟩
theorem drew_calm (w : World) : Below w.heap.size w w.drew := ⟨rfl, rfl, rfl, Nat.le_refl _, fun _ _ => rfl⟩
theorem drewN_calm (w : World) (k : Nat) : Below w.heap.size w (w.drewN k) := ⟨rfl, rfl, rfl, Nat.le_refl _, fun _ _ => rfl⟩
theorem ORow.cut {w : World} {a : Option Addr} {L c k : Nat} {l : List Int} (h : ORow w (.slice a L c) l) (hl : l.length = L) (hk : k ≤ L) : ∃ v', ORow w v' (l.drop k) ∧ (∀ g, v'.ownBlock = some g → (Value.slice a L c).ownBlock = some g) ∧
    ((a = none ∧ L = 0 ∧ c = 0 ∧ k = 0 ∧ v' = .slice none 0 0) ∨ (∃ g f s, a = some ⟨g, f, none⟩ ∧ c = k + (s + 1) ∧ v' = .slice (some ⟨g, f + k, none⟩) (L - k) (s + 1)) ∨ (∃ g f, a = some ⟨g, f, none⟩ ∧ c = k ∧ L = k ∧ v' = .slice (some ⟨g, f, none⟩) 0 0)) := by
  subst hl
  have h' := h
  rcases h with ⟨e, rfl⟩ | ⟨g, f, cap, cur, e, hg, h1, h2, h3, h4⟩
  · simp only [Value.slice.injEq] at e
    obtain ⟨rfl, -, rfl⟩ := e
    exact ⟨.slice none 0 0, .inl ⟨rfl, by simp⟩, fun g e => by simp [Value.ownBlock] at e, .inl ⟨rfl, rfl, rfl, by simpa using hk, rfl⟩⟩
  · simp only [Value.slice.injEq] at e
    obtain ⟨rfl, -, rfl⟩ := e
    by_cases hc : k < c
    · have := h'.tail hk hc
      exact ⟨_, this, fun g e => e, .inr (.inl ⟨g, f, c - k - 1, rfl, by omega, by rw [show c - k - 1 + 1 = c - k by omega]⟩)⟩
    · have e1 : l.length = k := by omega
      exact ⟨.slice (some ⟨g, f, none⟩) 0 0, by rw [List.drop_of_length_le (by omega)]; exact h'.gone, fun g e => e, .inr (.inr ⟨g, f, rfl, by omega, e1, rfl⟩)⟩
theorem CI.fin {N q k : Nat} {x y : World} {wv mv hv hi v1 v2 : Value} {P H : List (Int × Int)} (h : CI N x y q wv mv hv hi P H k) (o1 : ORow y v1 ((P.drop k).map Prod.fst)) (o2 : ORow y v2 ((P.drop k).map Prod.snd)) (b1 : ∀ g, v1.ownBlock = some g → wv.ownBlock = some g) (b2 : ∀ g, v2.ownBlock = some g → mv.ownBlock = some g) :
    ComeP N q x wv mv hv P H k (.returned (.bool true)) ((y.setCell ⟨q, 0, none⟩ v1).setCell ⟨q, 1, none⟩ v2) ∧ (y.setCell ⟨q, 0, none⟩ v1).cell? ⟨q, 1, none⟩ = some mv ∧ (y.setCell ⟨q, 0, none⟩ v1).frozen? ⟨q, 1, none⟩ = false ∧ ((y.setCell ⟨q, 0, none⟩ v1).setCell ⟨q, 1, none⟩ v2).cell? ⟨q, 0, none⟩ = some v1 ∧ ((y.setCell ⟨q, 0, none⟩ v1).setCell ⟨q, 1, none⟩ v2).cell? ⟨q, 2, none⟩ = some hi := by
  obtain ⟨n1, n2, n3⟩ := h.lg.qne
  obtain ⟨p1, p2, -, -⟩ := h.lg.putW o1 (Chg.refl _ _) fun g e => ⟨h.lg.lo g (.inr (.inl (b1 g e))), fun e2 => n1 (e2 ▸ b1 g e), h.lg.a1 g (b1 g e)⟩
  obtain ⟨r1, r2, r3, r4⟩ := p1.putM (o2.kept fun g e => Go.heap_setCell_other _ _ _ _ (show g ≠ q from fun e2 => n2 (by rw [← e2]; exact b2 g e))) (Chg.refl _ _) fun g e => ⟨h.lg.lo g (.inr (.inr (.inl (b2 g e)))), fun e2 => n2 (by rw [← e2]; exact b2 g e), fun e2 => (h.lg.a1 g (b1 g e2)).1 (b2 g e), h.lg.a2 g (b2 g e)⟩
  refine ⟨⟨rfl, v1, v2, hi, r1, ?_⟩, r3, r4, r1.c0, r1.c2⟩
  have s2 := p2.size
  have s0 := h.chg.size
  refine ⟨r2.os.trans (p2.os.trans h.chg.os), r2.tape.trans (p2.tape.trans h.chg.tape), r2.output.trans (p2.output.trans h.chg.output), Nat.le_trans s0 (Nat.le_trans s2 r2.size), fun g hg hn => ?_⟩
  refine ((r2.keep g (by omega) fun hu => ?_).trans (p2.keep g (by omega) fun hu => ?_)).trans (h.chg.keep g hg hn)
  · rcases hu with e1 | e1 | e1 | e1
    · exact hn (.inl e1)
    · exact hn (.inr (.inl (b1 g e1)))
    · exact hn (.inr (.inr (.inl e1)))
    · rcases h.loc g e1 with e2 | e2
      · exact hn (.inr (.inr (.inr e2)))
      · omega
  · rcases hu with e1 | e1 | e1 | e1
    · exact hn (.inl e1)
    · exact hn (.inr (.inl e1))
    · exact hn (.inr (.inr (.inl e1)))
    · rcases h.loc g e1 with e2 | e2
      · exact hn (.inr (.inr (.inr e2)))
      · omega
set_option maxHeartbeats 4000000 in
theorem come_any {N q : Nat} {x : World} {wv mv hv iv : Value} {P H : List (Int × Int)} {k : Nat} (h : LG N x q wv mv hv (P.map Prod.fst) (P.map Prod.snd) (H.map Prod.fst)) (hN : N ≤ x.heap.size) (hi : ORow x iv ((P.take k).map Prod.fst)) (hap : ∀ g, iv.ownBlock = some g → ¬ LU q wv mv hv g) (hk : k ≤ P.length) (hP : P.length ≤ 1000000) (hH : H.length ≤ 1000000)
    (hgo : ∀ i, i < k → ¬ ((P.getD i (0, 0)).2 = 2 ∧ 0 < (H ++ P.take i).length)) (hend : P.drop k = [] ∨ H ++ P.take k ≠ []) :
    Calls Try.prog 32 #[.pointer (some ⟨q, 0, none⟩), iv] x (ComeP N q x wv mv hv P H k) := by
  obtain ⟨wa, wc, rfl, w1, w2, -⟩ := h.ow.form
  obtain ⟨ma, mc, rfl, m1, m2, -⟩ := h.om.form
  obtain ⟨ia, ic, rfl, i1, i2, -⟩ := hi.form
  unfold maxLen at w2 m2 i2
  have HG := hide h
  have HN := hide hN
  rw [List.length_map] at w1 m1 i1
  have hkl : (P.take k).length = k := by rw [List.length_take]; omega
  rw [hkl] at i1
  have c0 := h.c0
  rw [List.length_map] at c0
  rw [List.length_map, hkl]
  have HHI := hide hi
  have HAP := hide hap
  clear h hN hi hap
  have HPM := hide (map_getD P)
  have HGO := hide hgo
  have HCW : Hid (∀ wr hi i, CI N x wr q (.slice wa P.length wc) (.slice ma P.length mc) hv hi P H i → ∀ j, j < P.length → (∃ g off, wa = some ⟨g, off, none⟩ ∧ wr.cell? ⟨g, off + j, none⟩ = some (.int .i64 (P.getD j (0, 0)).1)) ∧ ∃ g off, ma = some ⟨g, off, none⟩ ∧ wr.cell? ⟨g, off + j, none⟩ = some (.int .i64 (P.getD j (0, 0)).2)) := hide fun wr hi i hc j hj => by
    obtain ⟨g, off, cap, e, -, hcl⟩ := hc.lg.ow.cell (j := j) (by rw [List.length_map]; exact hj)
    obtain ⟨g1, off1, cap1, e1, -, hcl1⟩ := hc.lg.om.cell (j := j) (by rw [List.length_map]; exact hj)
    injection e with e2 _ _
    injection e1 with e3 _ _
    exact ⟨⟨g, off, e2, by rw [hcl, (HPM.out j).1]⟩, ⟨g1, off1, e3, by rw [hcl1, (HPM.out j).2]⟩⟩
  have HCI : Hid (∀ wr hi i, CI N x wr q (.slice wa P.length wc) (.slice ma P.length mc) hv hi P H i → ∀ j, j < k → ∃ g off, ia = some ⟨g, off, none⟩ ∧ wr.cell? ⟨g, off + j, none⟩ = some (.int .i64 (P.getD j (0, 0)).1)) := hide fun wr hi i hc j hj => by
    have hr := HHI.out
    rw [List.length_map, hkl] at hr
    have hr2 : ORow wr (.slice ia k ic) ((P.take k).map Prod.fst) := hr.kept fun g e => hc.chg.keep g (hr.lt e) (by
      have := HAP.out g (by rw [List.length_map, hkl]; exact e)
      simpa using this)
    obtain ⟨g, off, cap, e, -, hcl⟩ := hr2.cell (j := j) (by rw [List.length_map, hkl]; exact hj)
    injection e with e1 _ _
    refine ⟨g, off, e1, ?_⟩
    rw [hcl, (map_getD (P.take k) j).1]
    simp [List.getD, List.getElem?_take_of_lt hj]
  have HC0 : Hid (CI N x x q (.slice wa P.length wc) (.slice ma P.length mc) hv hv P H 0) := hide ⟨by have := HG.out; rw [List.length_map, List.length_map] at this; simpa using this, Chg.refl _ _, fun g e => .inl e⟩
  rw [List.length_map, List.length_map]
  have hle : ¬ ((P.length : Nat) : Int) < ((k : Nat) : Int) := by omega
  clear hkl hgo HG HHI HAP
  go_enter Try.func32, Try.ntmps32
  go_wp2_with fail
  go_loopw [5] (fun y wr => ∃ i : Nat, i ≤ k ∧ y = .int .i64 (i : Int) ∧ Hid (∃ hi, CI N x wr q (.slice wa P.length wc) (.slice ma P.length mc) hv hi P H i)) (fun y _ => k - (intOf y).toNat)
  case atStart => exact ⟨0, Nat.zero_le _, rfl, hide ⟨_, HC0.out⟩⟩
  case round =>
    clear HC0 c0
    obtain ⟨i, hik, rfl, HI⟩ := hrel
    obtain ⟨hi, hci⟩ := HI.out
    have HC := hide hci
    clear HI hci
    obtain ⟨w2, hw2⟩ : ∃ w2, wr = w2 := ⟨_, rfl⟩
    rw [hw2] at HC ⊢
    clear hw2
    have c0 := HC.out.lg.c0
    have c1 := HC.out.lg.c1
    have c2 := HC.out.lg.c2
    obtain ⟨ka, kc, rfl, k1, k2, -⟩ := HC.out.lg.oh.form
    rw [List.length_map] at c2
    by_cases hlt : i < k
    · have hli : (i : Int) < (k : Int) := by omega
      obtain ⟨⟨g0, f0, rfl, d0⟩, ⟨g1, f1, rfl, d1⟩⟩ := HCW.out _ _ _ HC.out i (by omega)
      obtain ⟨g2, f2, rfl, d2⟩ := HCI.out _ _ _ HC.out i hlt
      have hgo := HGO.out i hlt
      have hpi : i < P.length := by omega
      have hpl : (i : Int) < ((P.length : Nat) : Int) := by omega
      have HAE : Hid ((P.getD i (0, 0)).1 = (P.getD i (0, 0)).1) := hide rfl
      obtain ⟨a, ha⟩ : ∃ a, (P.getD i (0, 0)).1 = a := ⟨_, rfl⟩
      obtain ⟨b, hb⟩ : ∃ b, (P.getD i (0, 0)).2 = b := ⟨_, rfl⟩
      obtain ⟨hn, hhn⟩ : ∃ hn, ((H ++ P.take i).map Prod.fst).length = hn := ⟨_, rfl⟩
      have hhn2 : (H ++ P.take i).length = hn := by rw [← hhn, List.length_map]
      rw [ha] at d0 d2 HAE
      rw [hb] at d1 hgo
      rw [hhn2] at hgo c2
      clear HAE
      have HAE := hide ha
      have HHN := hide hhn
      have hhb : hn ≤ 3000000 := by rw [← hhn2, List.length_append, List.length_take]; omega
      clear ha hb hhn hhn2
      have haa : ((a : Int) != (a : Int)) = false := by simp
      by_cases hb2 : b = 2
      · subst hb2
        have hz : hn = 0 := by omega
        have hzi : ¬ (0 : Int) < (hn : Int) := by omega
        clear hz hgo
        go_wp2_with fail
        go_quiet (fail)
        have HC3 := hide (HC.out.calm (drewN_calm w2 nq))
        generalize w2.drewN nq = w3 at *
        clear c0 c1 c2 d0 d1 d2 HC
        obtain ⟨g2', f2', e2, d2⟩ := HCI.out _ _ _ HC3.out i hlt
        simp only [Option.some.injEq, Addr.mk.injEq, and_true] at e2
        obtain ⟨rfl, rfl⟩ := e2
        have c2 := HC3.out.lg.c2
        rw [HHN.out] at c2
        have hyy : Below w3.heap.size w3 (w3.alloc (.cells #[.int .i64 a] 3)).drew := (alloc_calm w3 (.cells #[.int .i64 a] 3)).drew
        have HST := hide fun (z : World) (hi' : Value) ho ha => HC3.out.step (z := z) (hi' := hi') HN.out hpi hyy ho ha
        have o3 := (HC3.out.lg.below hyy).oh
        have c2x := (HC3.out.lg.below hyy).c2
        have d2x : (w3.alloc (.cells #[.int .i64 a] 3)).cell? ⟨g2, f2 + i, none⟩ = w3.cell? ⟨g2, f2 + i, none⟩ := World.cell?_of_block (hyy.block g2 (World.block_lt_of_cell? _ _ d2))
        clear d2x hyy
        rw [HHN.out] at c2x
        rw [HHN.out] at HST o3
        rw [HAE.out] at HST d2
        have hll : ((H ++ P.take i).map Prod.fst).length ≤ 3000000 := by rw [List.length_map, List.length_append, List.length_take]; omega
        go_wp2_with fail
        go_region_law (refine step_appendO rfl (.tmp 54) (.tmp 59) rfl _ _ rfl o3 ⟨w3.heap.size, 0, none⟩ 1 a rfl (new_int w3 _) (by omega) ?_; intro v4 w4 ho4 ha4; obtain ⟨z0, z1, ⟨a4, m4, k4, rfl⟩, HC4⟩ := HST.out w4 v4 ho4 ha4; clear ho4 ha4)
        all_goals
          go_wp2_with fail
          go_roundw
          case rel => exact ⟨i + 1, by omega, by go_num, hide ⟨_, HC4.out⟩⟩
          case measure => simp [intOf]; omega
      · have hbn : (b == 2) = false := by simpa using hb2
        clear hgo
        go_wp2_with fail
        go_quiet (fail)
        have HC3 := hide (HC.out.calm (drewN_calm w2 nq))
        generalize w2.drewN nq = w3 at *
        clear c0 c1 c2 d0 d1 d2 HC
        obtain ⟨g2', f2', e2, d2⟩ := HCI.out _ _ _ HC3.out i hlt
        simp only [Option.some.injEq, Addr.mk.injEq, and_true] at e2
        obtain ⟨rfl, rfl⟩ := e2
        have c2 := HC3.out.lg.c2
        rw [HHN.out] at c2
        have hyy : Below w3.heap.size w3 (w3.alloc (.cells #[.int .i64 a] 3)).drew := (alloc_calm w3 (.cells #[.int .i64 a] 3)).drew
        have HST := hide fun (z : World) (hi' : Value) ho ha => HC3.out.step (z := z) (hi' := hi') HN.out hpi hyy ho ha
        have o3 := (HC3.out.lg.below hyy).oh
        have c2x := (HC3.out.lg.below hyy).c2
        have d2x : (w3.alloc (.cells #[.int .i64 a] 3)).cell? ⟨g2, f2 + i, none⟩ = w3.cell? ⟨g2, f2 + i, none⟩ := World.cell?_of_block (hyy.block g2 (World.block_lt_of_cell? _ _ d2))
        clear d2x hyy
        rw [HHN.out] at c2x
        rw [HHN.out] at HST o3
        rw [HAE.out] at HST d2
        have hll : ((H ++ P.take i).map Prod.fst).length ≤ 3000000 := by rw [List.length_map, List.length_append, List.length_take]; omega
        go_wp2_with fail
        go_region_law (refine step_appendO rfl (.tmp 54) (.tmp 59) rfl _ _ rfl o3 ⟨w3.heap.size, 0, none⟩ 1 a rfl (new_int w3 _) (by omega) ?_; intro v4 w4 ho4 ha4; obtain ⟨z0, z1, ⟨a4, m4, k4, rfl⟩, HC4⟩ := HST.out w4 v4 ho4 ha4; clear ho4 ha4)
        all_goals
          go_wp2_with fail
          go_roundw
          case rel => exact ⟨i + 1, by omega, by go_num, hide ⟨_, HC4.out⟩⟩
          case measure => simp [intOf]; omega
    · have hli : ¬ (i : Int) < (k : Int) := by omega
      have ei : i = k := by omega
      have HC5 : Hid (CI N x w2 q (.slice wa P.length wc) (.slice ma P.length mc) hv (.slice ka ((H ++ P.take i).map Prod.fst).length kc) P H k) := hide (by have := HC.out; rwa [ei] at this ⊢)
      rw [ei, List.length_append, List.length_take, Nat.min_eq_left hk] at c2
      rw [ei, List.length_map, List.length_append, List.length_take, Nat.min_eq_left hk] at HC5
      have f0 := HC.out.lg.f 0
      obtain ⟨x1, o1, b1, hWC⟩ := ORow.cut (k := k) HC5.out.lg.ow (by rw [List.length_map]) hk
      obtain ⟨x2, o2, b2, hMC⟩ := ORow.cut (k := k) HC5.out.lg.om (by rw [List.length_map]) hk
      rw [← List.map_drop] at o1 o2
      obtain ⟨hfin, z1, z2, z3, z4⟩ := HC5.out.fin o1 o2 b1 b2
      have HFI := hide hfin
      have hen : P.length - k = 0 ∨ 0 < H.length + k := by
        rcases hend with e | e
        · left
          have := congrArg List.length e
          simpa using this
        · right
          have := List.length_pos_iff.2 e
          rw [List.length_append, List.length_take] at this
          omega
      clear HC HCW HCI HGO HPM ei hend hfin o1 o2 b1 b2 HC5
      obtain ⟨L, hL⟩ : ∃ L, P.length = L := ⟨_, rfl⟩
      obtain ⟨HL, hHL⟩ : ∃ HL, H.length = HL := ⟨_, rfl⟩
      rw [hL] at c0 c1 hk w1 m1 hle hWC hMC hen z1
      rw [hHL] at c2 hen z4
      obtain ⟨r, hr⟩ : ∃ r, L = k + r := ⟨L - k, by omega⟩
      have hrk : L - k = r := by omega
      rw [hrk] at hWC hMC hen
      have hLb : L ≤ 1000000 := by omega
      have hHb : HL ≤ 1000000 := by omega
      clear hrk hL hHL hP hH
      subst hr
      obtain ⟨t, ht⟩ : ∃ t, HL + k = t := ⟨_, rfl⟩
      rw [ht] at hen c2 z4
      have htb : t ≤ 3000000 := by omega
      clear ht k1 k2 hHb
      by_cases h0 : r = 0
      · subst h0
        clear hen
        rcases hWC with ⟨rfl, e1, rfl, rfl, rfl⟩ | ⟨g1, d1, s1, rfl, rfl, rfl⟩ | ⟨g1, d1, rfl, rfl, e1, rfl⟩ <;> rcases hMC with ⟨rfl, e3, rfl, e4, rfl⟩ | ⟨g2, d2, s2, rfl, rfl, rfl⟩ | ⟨g2, d2, rfl, e3, e4, rfl⟩
        all_goals (first | subst e4 | subst e3 | skip)
        all_goals (try simp only [Nat.add_zero] at z1)
        all_goals (try simp only [Nat.add_zero] at z2)
        all_goals (try simp only [Nat.add_zero] at z3)
        all_goals (try simp only [Nat.add_zero] at z4)
        all_goals
          go_wp2_with fail
        all_goals first
          | (go_ret; exact HFI.out)
          | (go_ret; simpa using HFI.out)
      · have ht0 : 0 < t := by omega
        have hti : (0 : Int) < (t : Int) := by omega
        have hr0 : ((r : Int) == 0) = false := by simpa using h0
        clear hen
        rcases hWC with ⟨-, e1, -⟩ | ⟨g1, d1, s1, rfl, rfl, rfl⟩ | ⟨-, -, -, -, e1, -⟩
        · omega
        · rcases hMC with ⟨-, e3, -⟩ | ⟨g2, d2, s2, rfl, rfl, rfl⟩ | ⟨-, -, -, -, e3, -⟩
          · omega
          · go_wp2_with fail
            go_ret
            simpa [ht0] using HFI.out
          · omega
        · omega
end Go.Proofs.Ytijfnacplikibaa
