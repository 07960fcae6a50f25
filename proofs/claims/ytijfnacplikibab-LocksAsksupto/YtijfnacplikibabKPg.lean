import Derived.Test.YtijfnacplikibabKPd
namespace Go.Proofs.Ytijfnacplikibab
open Go.RowKit
set_option linter.unusedVariables false
set_option linter.unusedSimpArgs false
set_option maxRecDepth 20000

/-- a list of ints in memory made since w -/
structure NI (w wr : World) (ov : Value) (l : List Int) : Prop where
  bel : Below w.heap.size w wr
  row : IRow wr ov l
  new : ∀ g, ov.ownBlock = some g → w.heap.size ≤ g
theorem NI.nil (w : World) : NI w w (.slice none 0 0) [] := ⟨Below.refl _ _, ⟨rfl, .inl ⟨rfl, rfl⟩⟩, fun g e => by simp [Value.ownBlock] at e⟩
theorem IRow.lt' {w : World} {v : Value} {l : List Int} (h : IRow w v l) {g : Nat} (e : v.ownBlock = some g) : g < w.heap.size := (World.ownsRow.lt h g e).2
theorem IRow.below' {w w' : World} {v : Value} {l : List Int} (h : IRow w v l) (hb : Below w.heap.size w w') : IRow w' v l := rowKept h fun g e => hb.block g (h.lt' e)
theorem NI.calm {w wr z : World} {ov : Value} {l : List Int} (h : NI w wr ov l) (hb : Below wr.heap.size wr z) : NI w z ov l := ⟨h.bel.trans (hb.mono h.bel.size), h.row.below' hb, h.new⟩
theorem NI.app {w wr z : World} {ov ov' : Value} {l l' : List Int} (h : NI w wr ov l) (ho : IRow z ov' l') (ha : App wr z ov ov') : NI w z ov' l' := by
  refine ⟨h.bel.trans (ha.chg.below h.bel.size h.new), ho, fun g e => ?_⟩
  rcases ha.loc g e with e | e
  · exact h.new g e
  · exact Nat.le_trans h.bel.size e
theorem IRow.form' {w : World} {v : Value} {l : List Int} (h : IRow w v l) : ∃ a c, v = .slice a l.length c := by
  rcases h.2 with ⟨rfl, hz⟩ | ⟨g', cap, cur, rfl, _, hg, _⟩
  · exact ⟨none, 0, by rw [hz]⟩
  · exact ⟨_, _, rfl⟩
/-- one int in new memory -/
theorem one_int (w : World) (x : Int) : IRow (w.alloc (.cells #[.int .i64 x] 3)) (.slice (some ⟨w.heap.size, 0, none⟩) 1 1) [x] :=
  ⟨rfl, .inr ⟨w.heap.size, 1, #[.int .i64 x], rfl, Nat.zero_le _, Go.heap_alloc_new w _, Nat.le_refl _, by unfold maxLen; omega, by simp, by simp [iV]⟩⟩
theorem wt_take (P : List Pc) (e : Int) {k : Nat} (hk : k < P.length) : ((P.take (k + 1)).filter (fst1 e)).map Pc.own = if fst1 e (P.getD k p0) = true then ((P.take k).filter (fst1 e)).map Pc.own ++ [(P.getD k p0).own] else ((P.take k).filter (fst1 e)).map Pc.own := by
  have e1 : P.take (k + 1) = P.take k ++ [P.getD k p0] := by
    rw [List.take_add_one]
    simp [List.getD, hk]
  rw [e1, filter_snoc]
  by_cases h : fst1 e (P.getD k p0) = true
  · rw [if_pos h, if_pos h, List.map_append]
    rfl
  · rw [if_neg h, if_neg h]
set_option maxHeartbeats 2000000 in
theorem rwaiters_in {w : World} {q : Nat} {v : Value} {n room : Nat} {P : List Pc} {T : Nat} (h : RT w q v n room P T) (hl : P.length ≤ 10000000) {e : Int} (he : 0 ≤ e ∧ e < (n : Int)) : Calls Try.prog 28 #[.pointer (some ⟨q, 0, none⟩), .int .i64 e] w fun e' w' => ∃ rv, e' = .returned (.tuple #[rv, .int .i64 0]) ∧ NI w w' rv ((P.filter (fst1 e)).map Pc.own) := by
  obtain ⟨a, c, ev, b1, b2, -⟩ := h.own.form
  subst ev
  unfold maxLen at b2
  have HC : Hid (∀ x, Below w.heap.size w x → x.cell? ⟨q, 2, none⟩ = some (.slice a P.length c) ∧ ∀ j, j < P.length → ∃ g, a = some ⟨g, 0, none⟩ ∧ pcAt x g j (P.getD j p0)) := hide fun x hb => by
    have hx := h.below hb
    refine ⟨hx.c2, fun j hj => ?_⟩
    obtain ⟨a', c', e', -, -, hq⟩ := hx.own.form
    simp only [Value.slice.injEq, true_and] at e'
    obtain ⟨rfl, rfl⟩ := e'
    exact hq j hj
  have HS := hide fun (k : Nat) (hk : k < P.length) => wt_take P e hk
  have HT := hide (there_any w q (n : Int) e h.c0)
  rw [show (decide (0 ≤ e) && decide (e < (n : Int))) = true by simp [he]] at HT
  obtain ⟨F, hF⟩ : ∃ F : Nat → List Int, ∀ k, F k = ((P.take k).filter (fst1 e)).map Pc.own := ⟨_, fun _ => rfl⟩
  have HE : Hid ((P.filter (fst1 e)).map Pc.own = F P.length) := hide (by rw [hF, List.take_length])
  have HZ : Hid (F 0 = []) := hide (by rw [hF]; rfl)
  have HL : Hid (∀ k, (F k).length ≤ 10000000) := hide fun k => by
    rw [hF, List.length_map]
    have := List.length_filter_le (fst1 e) (P.take k)
    rw [List.length_take] at this
    omega
  simp only [← hF] at HS
  rw [HE.out]
  clear hF HE
  obtain ⟨c2, -⟩ := HC.out w (Below.refl _ _)
  clear h
  generalize P.length = N at *
  go_enter Try.func28, Try.ntmps28
  go_wp2_with (go_at_call 33; refine HT.out.mono ?_; rintro e' w2 ⟨rfl, h9⟩; have h9s := h9.symm; clear h9; subst h9s; clear HT)
  go_loopw [7, 8] (fun x y wr => ∃ k : Nat, k ≤ N ∧ y = .int .i64 (k : Int) ∧ Hid (NI w wr x (F k))) (fun _ y _ => N - (intOf y).toNat)
  case atStart => exact ⟨0, Nat.zero_le _, rfl, by rw [HZ.out]; exact hide (NI.nil w)⟩
  case round =>
    clear c2 HZ
    obtain ⟨k, hk, rfl, HI⟩ := hrel
    obtain ⟨c2, hq⟩ := HC.out _ HI.out.bel
    obtain ⟨oa, oc, oe⟩ := HI.out.row.form'
    subst oe
    by_cases hlt : k < N
    · obtain ⟨g, rfl, d0, d1, d2, d3, d4⟩ := hq k hlt
      have hs := HS.out k hlt
      have hli : (k : Int) < (N : Int) := by omega
      have hlk := HL.out k
      clear HC HS hq
      by_cases h1 : (P.getD k p0).ext = e
      · have h1e : ((P.getD k p0).ext == e) = true := by simpa using h1
        by_cases h2 : (P.getD k p0).held = false
        · rw [if_pos (by unfold fst1; rw [h1e, h2]; rfl)] at hs
          have HN := hide hs
          rw [h2] at d3
          clear hs h1 h2 HL
          generalize P.getD k p0 = z at *
          have HI1 := hide (HI.out.calm (below_alloc wr (.cells #[.int .i64 z.own] 3)))
          have HO1 := hide (one_int wr z.own)
          clear HI
          go_wp2_with (at_builtin; refine wpList_appendI _ rfl (.tmp 44) (.tmp 53) rfl _ _ (F k) [z.own] rfl rfl HI1.out.row HO1.out (by simp; omega) ?_; intro v6 w6 q1 q2; have HI2 := hide (HI1.out.app q1 q2); clear q1 q2)
          go_roundw
          case rel => exact ⟨k + 1, by omega, by go_num, by rw [HN.out]; exact HI2⟩
          case measure => simp [intOf]; omega
        · have h2e : (P.getD k p0).held = true := by simpa using h2
          rw [if_neg (by unfold fst1; rw [h1e, h2e]; simp)] at hs
          have HN := hide hs
          rw [h2e] at d3
          clear hs h1 h2 h2e HL
          generalize P.getD k p0 = z at *
          go_wp2_with fail
          go_roundw
          case rel => exact ⟨k + 1, by omega, by go_num, by rw [HN.out]; exact HI⟩
          case measure => simp [intOf]; omega
      · have h1e : ((P.getD k p0).ext == e) = false := by simpa using h1
        rw [if_neg (by unfold fst1; rw [h1e]; simp)] at hs
        have HN := hide hs
        clear hs h1 HL
        generalize P.getD k p0 = z at *
        go_wp2_with fail
        go_roundw
        case rel => exact ⟨k + 1, by omega, by go_num, by rw [HN.out]; exact HI⟩
        case measure => simp [intOf]; omega
    · have ek : k = N := by omega
      subst ek
      have hli : ¬ (k : Int) < (k : Int) := by omega
      clear HC HS hq HL
      go_wp2_with fail
      (try simp only [Exit.inBlock, Exit.then]); refine bodyPost_ret (results_tmp2 rfl _ _ _) rfl ?_
      exact ⟨_, rfl, HI.out⟩
set_option maxHeartbeats 1000000 in
theorem rwaiters_no {w : World} {q : Nat} {v : Value} {n room : Nat} {P : List Pc} {T : Nat} (h : RT w q v n room P T) {e : Int} (he : ¬ (0 ≤ e ∧ e < (n : Int))) : Calls Try.prog 28 #[.pointer (some ⟨q, 0, none⟩), .int .i64 e] w fun e' w' => ∃ rv, e' = .returned (.tuple #[rv, .int .i64 2]) ∧ NI w w' rv [] := by
  have HT := hide (there_any w q (n : Int) e h.c0)
  rw [show (decide (0 ≤ e) && decide (e < (n : Int))) = false by rw [← Bool.not_eq_true, Bool.and_eq_true, decide_eq_true_eq, decide_eq_true_eq]; exact he] at HT
  clear h he
  go_enter Try.func28, Try.ntmps28
  go_wp2_with (go_at_call 33; refine HT.out.mono ?_; rintro e' w2 ⟨rfl, h9⟩; have h9s := h9.symm; clear h9; subst h9s; clear HT)
  (try simp only [Exit.inBlock, Exit.then]); refine bodyPost_ret (results_tmp2 rfl _ _ _) rfl ?_
  exact ⟨_, rfl, NI.nil _⟩
theorem ixB_lt' (f : Pc → Bool) (l : List Pc) : ixB f l < 0 ∨ ixB f l < (l.length : Int) := by
  unfold ixB
  split
  · exact .inr (by omega)
  · exact .inl (by omega)
set_option maxHeartbeats 1000000 in
theorem rholds_any {w : World} {q : Nat} {v : Value} {n room : Nat} {P : List Pc} {T : Nat} (h : RT w q v n room P T) (hl : P.length ≤ 10000000) (e o : Int) : Calls Try.prog 24 #[.pointer (some ⟨q, 0, none⟩), .int .i64 e, .int .i64 o] w fun e' w' => e' = .returned (.bool (decide (0 ≤ ixB (fnd e o) P) && (P.getD (ixB (fnd e o) P).toNat p0).held)) ∧ Below w.heap.size w w' := by
  have HF := hide (rfind_any h hl e o)
  have hlt := ixB_lt' (fnd e o) P
  obtain ⟨a, c, ev, b1, b2, hc⟩ := h.own.form
  subst ev
  unfold maxLen at b2
  have c2 := h.c2
  generalize ixB (fnd e o) P = fi at *
  by_cases h0 : 0 ≤ fi
  · obtain ⟨k, rfl⟩ : ∃ k : Nat, fi = (k : Int) := ⟨fi.toNat, by omega⟩
    have hk : k < P.length := by omega
    obtain ⟨g, rfl, d0, d1, d2, d3, d4⟩ := hc k hk
    have hki : (k : Int) < (P.length : Int) := by omega
    rw [decide_eq_true h0, Bool.true_and, Int.toNat_natCast]
    clear h hc
    generalize P.length = N at *
    generalize P.getD k p0 = z at *
    go_enter Try.func24, Try.ntmps24
    go_wp2_with (go_at_call 34; refine HF.out.mono ?_; rintro e' w2 ⟨rfl, h9⟩; have h9s := h9.symm; clear h9; subst h9s)
    go_ret
    exact ⟨rfl, Below.refl _ _⟩
  · rw [decide_eq_false h0, Bool.false_and]
    have h0' : ¬ fi ≥ 0 := h0
    clear h hc
    go_enter Try.func24, Try.ntmps24
    go_wp2_with (go_at_call 34; refine HF.out.mono ?_; rintro e' w2 ⟨rfl, h9⟩; have h9s := h9.symm; clear h9; subst h9s)
    go_ret
    exact ⟨rfl, Below.refl _ _⟩
end Go.Proofs.Ytijfnacplikibab
