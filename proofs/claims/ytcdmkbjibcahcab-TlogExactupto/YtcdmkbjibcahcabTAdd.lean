import Derived.Test.YtcdmkbjibcahcabTLg4
namespace Go.Proofs.Ytcdmkbjibcahcab
open Go.RowKit
set_option linter.unusedVariables false
set_option linter.unusedSimpArgs false
set_option maxRecDepth 20000

def addS (S : LS) (id blk : Int) : LS := { S with ls := S.ls ++ [((id, blk, (S.now : Int)), false)] }
theorem addS_es (S : LS) (id blk : Int) : (addS S id blk).es = S.es ++ [(id, blk, (S.now : Int))] := by simp [addS, LS.es]
set_option maxHeartbeats 1000000 in
theorem Add_no (w : World) (p bm : Nat) (v : Value) (S : LS) (id blk : Int) (h : LRep w p bm v S) (hb : S.Bd) (hid : i64ok id) (hr : refE S id blk ≠ 0) : Calls Try.prog 23 #[.pointer (some ⟨p, 0, none⟩), .int .i64 id, .int .i64 blk] w fun e w' =>
    e = .returned (.tuple #[.int .i64 0, .bool false, .int .i64 (refE S id blk)]) ∧ Tn w w' p bm v v S := by
  have HF := hide (refuses_any w p bm v S id blk h hb hid)
  have HH := hide h
  have hne : (refE S id blk != 0) = true := by simpa using hr
  clear h hb hid hr
  generalize refE S id blk = R at *
  go_enter Try.func23, Try.ntmps23
  go_wp2_with (go_at_call 38; refine HF.out.mono ?_; rintro e w1 ⟨rfl, hb⟩; have HB := hide hb; clear hb)
  (try simp only [Exit.inBlock, Exit.then]); refine bodyPost_ret (results_tmpT rfl _ _ _) rfl ?_
  exact ⟨rfl, (Tn.refl HH.out).below HB.out⟩
/-- 'm[k] = v' of the stands -/
theorem wpList_put (w : World) {ops : Array Oper} {rest : List Oper} {o : Oper} {a : Act} {Q : Exit → Act → World → Prop} (hg : o.guard = none) (m x v : Operand) (hop : o.op = Op.mapUpdate 67 m x v) (b n : Nat) (D : DataW Unit)
    (hm : a.eval m = .map (some b)) (hown : w.ownsMap Try.prog 3 stR b n D) (hn : n < maxLen) (z t : Int) (c : Bool) (hx : a.eval x = .int .i64 z) (hv : a.eval v = .agg #[.int .i64 t, .bool c]) (hz : i64ok z)
    (hK : ∀ w', w'.ownsMap Try.prog 3 stR b (n + 1) (D.put (kL z) (stD t c)) → w.grownBy w' (some b) → wpList Try.prog ops Q rest (a.put o.dst undef) w') :
    wpList Try.prog ops Q (o :: rest) a w :=
  wpList_mapUpdate_own w hg m x v 67 hop 3 72 kInt Try.underlying67 stR b n D hm hown hn _ _ _ hx hv (keyI hz) (stD t c) [] (stR_mk t c) hK
/-- the list turns: its new value is stored; x the world ahead of the append, w3 behind it -/
theorem LRep.push {w w2 x w3 : World} {p bm : Nat} {v v' : Value} {S : LS} {ls' : Ls} {es' : List En} (h : LRep w p bm v S) (hch : Chg (fun g => g = bm) w w2) (hmp : MS w2 bm S.gone ls') (hx : Below w2.heap.size w2 x) (he : ERow w3 v' es') (ha : App x w3 v v') (hfr : Fr x w3 v v') (hes : ls'.map Prod.fst = es') :
    Tn w (w3.setCell ⟨p, 3, none⟩ v') p bm v v' { S with ls := ls' } ∧ w3.cell? ⟨p, 3, none⟩ = some v ∧ w3.frozen? ⟨p, 3, none⟩ = false := by
  have hp := h.lt p (.inl rfl)
  have hbm := h.lt bm (.inr (.inl rfl))
  have hs1 := hch.size
  have hs2 := hx.size
  have kp : ∀ g, g < w.heap.size → g ≠ bm → v.ownBlock ≠ some g → w3.heap[g]? = w.heap[g]? := fun g hg h1 h2 =>
    (ha.chg.keep g (by omega) h2).trans ((hx.block g (by omega)).trans (hch.keep g hg h1))
  have hvp : v.ownBlock ≠ some p := fun e => (h.ap.2 p e).1 rfl
  have hvb : v.ownBlock ≠ some bm := fun e => (h.ap.2 bm e).2 rfl
  have hrow := (kp p hp h.ap.1 hvp).trans h.row
  have hbmw : w3.heap[bm]? = w2.heap[bm]? := (ha.chg.keep bm (by omega) hvb).trans (hx.block bm (by omega))
  have hloc : ∀ g, v'.ownBlock = some g → v.ownBlock = some g ∨ w.heap.size ≤ g := fun g e => (ha.loc g e).imp id fun h => by omega
  have hvp' : ∀ g, v'.ownBlock = some g → g ≠ p := fun g e e2 => by
    subst e2
    rcases hloc g e with e | e
    · exact hvp e
    · omega
  refine ⟨⟨⟨Go.heap_setCell_same w3 _ 3 _ 69 _ hrow, ?_, ?_⟩, ⟨?_, ?_, ?_, ?_, ?_⟩, hloc, ((Fr.same (fun g e hg => (hx.block g (by omega)).trans (hch.keep g hg (h.ap.2 g e).2)) (Fr.rfl1 v)).pre hfr).set p 3 _ fun g e _ => (h.ap.2 g e).1⟩, (cell_of_row _ _ _ _ _ _ hrow).trans rfl, frozen_of_row _ _ _ _ 69 hrow⟩
  · show ERow _ v' (ls'.map Prod.fst)
    rw [hes]
    exact he.kept fun g e => Go.heap_setCell_other _ _ _ _ (by exact hvp' g e)
  · exact (hmp.kept hbmw).kept (Go.heap_setCell_other _ _ _ _ (by exact h.ap.1.symm))
  · exact ha.chg.os.trans (hx.os.trans hch.os)
  · exact ha.chg.tape.trans (hx.tape.trans hch.tape)
  · exact ha.chg.output.trans (hx.output.trans hch.output)
  · rw [World.size_setCell]
    have := ha.chg.size
    omega
  · intro g hg hn
    rw [Go.heap_setCell_other _ _ _ _ (show g ≠ p from fun e => hn (.inl e))]
    exact kp g hg (fun e => hn (.inr (.inl e))) fun e => hn (.inr (.inr e))
set_option maxHeartbeats 1000000 in
theorem Add_ok (w : World) (p bm : Nat) (v : Value) (S : LS) (id blk : Int) (h : LRep w p bm v S) (hb : S.Bd) (hid : i64ok id) (hr : refE S id blk = 0) (hn : S.now ≤ 16000000000000) (hg : S.gone ≤ 16000000000000) : Calls Try.prog 23 #[.pointer (some ⟨p, 0, none⟩), .int .i64 id, .int .i64 blk] w fun e w' =>
    e = .returned (.tuple #[.int .i64 (S.now : Int), .bool (decide (joinN (addS S id blk) = S.ep)), .int .i64 0]) ∧ ∃ v', Tn w w' p bm v v' (addS S id blk) := by
  have HF := hide (refuses_any w p bm v S id blk h hb hid)
  rw [hr] at HF
  have HH := hide h
  have HBD := hide hb
  have hel := hb.es
  have HNI : Hid (id ∉ ids S.ls) := hide fun e => by
    unfold refE at hr
    split at hr
    · simp at hr
    · split at hr
      · simp at hr
      · simp [e] at hr
  clear h hb hr
  go_enter Try.func23, Try.ntmps23
  go_wp2_with (first
    | (go_at_call 38; refine HF.out.mono ?_; rintro e w1 ⟨rfl, hb⟩; have HB := hide hb; have h1 := HH.out.below hb; obtain ⟨a, c, rfl, b1, b2, hc⟩ := h1.lst.form; have c2 := h1.c2; have c3 := h1.c3; have c4 := h1.c4; have c5 := h1.c5; have H1 := hide h1; unfold maxLen at b2; have b2 := b2; clear hb h1 hc))
  obtain ⟨D, hown, hDs, hD1, hD2⟩ := H1.out.mp
  have HOWN : Hid (w1.drew.ownsMap Try.prog 3 stR bm S.ls.length D) := hide hown
  have HD := hide (And.intro hDs (And.intro hD1 hD2))
  have hsl : S.ls.length < maxLen := by
    have := HBD.out.l2; have := HBD.out.ln; unfold maxLen; omega
  clear hown hDs hD1 hD2 HF
  refine wp_still_tail 16 (by kernel_rfl) (by kernel_rfl) ?_
  simp only [List.take_succ_cons, List.take_zero, List.drop_succ_cons, List.drop_zero]
  repeat still_step
  refine wpStill_nil ?_
  go_wp2_with (first
    | (at_mapUpdate; refine wpList_put _ rfl _ _ _ rfl bm _ D rfl HOWN.out hsl id _ false rfl rfl hid ?_; intro w2 hown2 hg2; have HO2 := hide hown2; have HG2 := hide hg2; clear hown2 hg2))
  have HCH : Hid (Chg (fun g => g = bm) w1 w2) := hide ⟨HG2.out.os, HG2.out.tape, HG2.out.output, HG2.out.size, fun g hg hn => HG2.out.block g hg fun e => hn (Option.some.inj e)⟩
  have HE2 : Hid (ERow w2 (.slice a S.es.length c) S.es) := hide (H1.out.lst.kept fun g e => HCH.out.keep g (H1.out.lst.lt e) (H1.out.ap.2 g e).2)
  have d3 : w2.cell? ⟨p, 3, none⟩ = some (.slice a S.es.length c) := by
    rw [World.cell?_of_block (a := ⟨p, 3, none⟩) (HCH.out.keep p (H1.out.lt p (.inl rfl)) H1.out.ap.1)]; exact c3
  have d2 : w2.cell? ⟨p, 2, none⟩ = some (.int .i64 (S.now : Int)) := by
    rw [World.cell?_of_block (a := ⟨p, 2, none⟩) (HCH.out.keep p (H1.out.lt p (.inl rfl)) H1.out.ap.1)]; exact c2
  have HMS : Hid (MS w2 bm S.gone (addS S id blk).ls) := hide (by
    obtain ⟨q1, q2, q3⟩ := HD.out
    refine MS.put (e := (id, blk, (S.now : Int))) q1 q2 q3 (HOWN.out.tidy kInt) HNI.out ?_
    have q := HO2.out
    rw [show IntKind.i64.wrap ((S.gone : Int) + (S.es.length : Int)) = ((S.gone + S.ls.length : Nat) : Int) by rw [LS.es_len] at *; simp [IntKind.wrap, IntKind.bits, IntKind.signed]; omega] at q
    exact q)
  clear HO2 HG2 HOWN HD c2 c3 c4 c5
  have HP : Hid (∀ v' w3, ERow w3 v' (S.es ++ [(id, blk, (S.now : Int))]) → App (w2.drew.alloc (.cells #[.int .i64 id, .int .i64 blk, .int .i64 (S.now : Int)] 56)) w3 (.slice a S.es.length c) v' → Fr (w2.drew.alloc (.cells #[.int .i64 id, .int .i64 blk, .int .i64 (S.now : Int)] 56)) w3 (.slice a S.es.length c) v' → Tn w1 (w3.setCell ⟨p, 3, none⟩ v') p bm (.slice a S.es.length c) v' (addS S id blk) ∧ w3.cell? ⟨p, 3, none⟩ = some (.slice a S.es.length c) ∧ w3.frozen? ⟨p, 3, none⟩ = false) := hide fun v' w3 q1 q2 q3 =>
    H1.out.push HCH.out HMS.out (((Below.refl _ w2).drew).alloc (Nat.le_refl _) _) q1 q2 q3 (addS_es S id blk)
  have HEx : Hid (ERow (w2.drew.alloc (.cells #[.int .i64 id, .int .i64 blk, .int .i64 (S.now : Int)] 56)) (.slice a S.es.length c) S.es) := hide (HE2.out.below (((Below.refl _ w2).drew).alloc (Nat.le_refl _) _))
  have hp2 : p < w2.heap.size := Nat.lt_of_lt_of_le (H1.out.lt p (.inl rfl)) HCH.out.size
  have d3a : (w2.alloc (.cells #[.int .i64 id, .int .i64 blk, .int .i64 (S.now : Int)] 56)).cell? ⟨p, 3, none⟩ = some (.slice a S.es.length c) := by
    rw [World.cell?_of_block (a := ⟨p, 3, none⟩) (RowKit.Below.heap_alloc _ _ _ hp2)]; exact d3
  clear HMS HCH HE2 hp2
  go_region_law (refine step_appendF rfl (.tmp 37) (.tmp 45) rfl _ S.es rfl HEx.out ⟨w2.heap.size, 0, none⟩ 1 [(id, blk, (S.now : Int))] (by simp) rfl (cells_new _ #[.int .i64 id, .int .i64 blk, .int .i64 (S.now : Int)] _ _ rfl) (by simp; omega) ?_; intro v' w3 q1 q2 q3; obtain ⟨t1, f1, f2⟩ := HP.out v' w3 q1 q2 q3; have HT := hide t1; obtain ⟨a7, c7, e7, -, -, -⟩ := q1.form; rw [List.length_append, List.length_singleton] at e7; subst e7; clear t1 q1 q2 q3)
  all_goals
    have HT2 := hide (show Tn w (w3.setCell ⟨p, 3, none⟩ _) p bm _ _ (addS S id blk) from ⟨HT.out.rep, (Chg.ofBelow HB.out).trans HT.out.chg, fun g e => (HT.out.loc g e).imp (fun h => h) fun h => by have := HB.out.size; omega, (Fr.ofBelow _ HB.out).pre HT.out.fr⟩)
    have HJ : Hid (∀ k, _) := hide fun k => joined_any ((w3.setCell ⟨p, 3, none⟩ _).drewN k) p bm _ (addS S id blk) (HT.out.rep.drewN k) (by rw [addS_es, List.length_append, List.length_singleton]; have := HBD.out.l2; have := HBD.out.ln; rw [LS.es_len] at *; omega)
    have g1 := HT.out.rep.c1
    have g2 := HT.out.rep.c2
    have hje := joinN_le (addS S id blk)
    rw [addS_es, List.length_append, List.length_singleton] at hje
    have he2 := HBD.out.e2
    clear HT HP HEx d2 d3 d3a
    generalize w3.setCell ⟨p, 3, none⟩ _ = w4 at *
    change w4.cell? ⟨p, 1, none⟩ = some (.int .i64 (S.ep : Int)) at g1
    change w4.cell? ⟨p, 2, none⟩ = some (.int .i64 (S.now : Int)) at g2
    obtain ⟨jn, hjn⟩ : ∃ jn, joinN (addS S id blk) = jn := ⟨_, rfl⟩
    rw [hjn] at HJ hje
    have HJN := hide hjn
    clear hjn
    go_wp2_with fail
    go_quiet ((go_at_call 39; exact Calls.quiet_of (HJ.out _)))
    go_wp2_with fail
    (try simp only [Exit.inBlock, Exit.then]); refine bodyPost_ret (results_tmpT rfl _ _ _) rfl ?_
    have hbe : decide (jn = S.ep) = ((jn : Int) == (S.ep : Int)) := by rw [Bool.eq_iff_iff]; simp; omega
    exact ⟨by rw [HJN.out, hbe]; rfl, _, HT2.out.below (below_drew0 _ _)⟩
end Go.Proofs.Ytcdmkbjibcahcab
