import Derived.Test.YtcdmkbjibcahcabTRn
namespace Go.Proofs.Ytcdmkbjibcahcab
open Go.RowKit
set_option linter.unusedVariables false
set_option linter.unusedSimpArgs false
set_option maxRecDepth 20000

theorem Try.infoLn : (Try.prog.info? 64).map (fun i => (i.zero, i.size, i.bytes)) = some (some (.agg #[.int .i64 0, .int .i64 0, .int .i64 0, .bool false]), 4, 32) := by kernel_rfl
theorem infoL : ∃ i, Try.prog.info? 64 = some i ∧ i.zero = some (.agg #[.int .i64 0, .int .i64 0, .int .i64 0, .bool false]) ∧ i.size = 4 ∧ i.bytes = 32 := by
  have h := Try.infoLn
  cases hi : Try.prog.info? 64 with
  | none => rw [hi] at h; simp at h
  | some i => rw [hi] at h; simp at h; exact ⟨i, rfl, h.1, h.2.1, h.2.2⟩
theorem run_appendL (w : World) (ty : TypeId) (tv : Value) (tl : Ls) (ht : DRow w tv tl) (a : Addr) (c : Nat) (k : Ls) (hk : 0 < k.length) (hx : ∀ j u, (lnvs k)[j]? = some u → w.cell? (a.add j) = some u) (hb : tl.length + k.length ≤ 4000000000000) :
    ∃ v' w', (Builtin.append_ #[60, 60] ty #[tv, .slice (some a) k.length c]).run Try.prog w = .ok v' w' ∧ DRow w' v' (tl ++ k) ∧ App w w' tv v' := by
  obtain ⟨i, hi, hz0, hz1, hz2⟩ := infoL
  have hone : ∀ u ∈ lnvs k, u.oneCell' = true := lnvs_one
  have hel := lnvs_length k
  have hul : Try.prog.underlying 60 = some (.slice 64) := Try.underlying60
  obtain ⟨v', w', hr, ho, hu⟩ := run_appendC (P := Try.prog) w 60 ty 64 i (.agg #[.int .i64 0, .int .i64 0, .int .i64 0, .bool false]) 4 32 hul hi hz0 hz1 hz2 rfl (by decide) tv tl.length (lnvs tl) ht a k.length c (lnvs k) hel hk hx hone (by unfold maxLen; omega) (by omega)
  refine ⟨v', w', hr, ?_, ⟨⟨hu.same.1, hu.same.2.1, hu.same.2.2, hu.size, fun g hg hn => hu.block g hg hn⟩, fun g e => (hu.loc g e).elim .inl fun e => .inr (by omega)⟩⟩
  unfold DRow
  rw [List.length_append, lnvs_append]
  exact ho
theorem wpList_appendL (w : World) {ops : Array Oper} {rest : List Oper} {o : Oper} {a : Act} {Q : Exit → Act → World → Prop} (hgd : o.guard = none) (s x : Operand)
    (ho : o.op = .call { callee := .builtin .append, args := #[s, x], argTypes := #[60, 60] })
    (tv : Value) (tl : Ls) (hs : a.eval s = tv) (ht : DRow w tv tl) (ad : Addr) (c : Nat) (k : Ls) (hk : 0 < k.length) (hx : a.eval x = .slice (some ad) k.length c) (hz : ∀ j u, (lnvs k)[j]? = some u → w.cell? (ad.add j) = some u) (hb : tl.length + k.length ≤ 4000000000000)
    (h : ∀ v' w', DRow w' v' (tl ++ k) → App w w' tv v' → wpList Try.prog ops Q rest (a.put o.dst v') w') :
    wpList Try.prog ops Q (o :: rest) a w := by
  refine wpList_plain hgd fun K hK => ?_
  obtain ⟨v', w', hr, h2, h3⟩ := run_appendL w o.type tv tl ht ad c k hk hz hb
  unfold Oper.wp execOp
  simp only [ho, resolve, invoke, builtin, Sem.run_bind, Sem.run_pure, Result.andThen_ok, List.map_toArray, List.map_cons, List.map_nil, hs, hx, hr]
  exact hK _ _ (h v' w' h2 h3)
theorem step_appendL {w : World} {ops : Array Oper} {o : Oper} {a : Act} {K : Act → World → Prop} {Q : Exit → Act → World → Prop} {E : Prop} (hgd : o.guard = none) (s x : Operand)
    (ho : o.op = .call { callee := .builtin .append, args := #[s, x], argTypes := #[60, 60] })
    (tv : Value) (tl : Ls) (hs : a.eval s = tv) (ht : DRow w tv tl) (ad : Addr) (c : Nat) (k : Ls) (hk : 0 < k.length) (hx : a.eval x = .slice (some ad) k.length c) (hz : ∀ j u, (lnvs k)[j]? = some u → w.cell? (ad.add j) = some u) (hb : tl.length + k.length ≤ 4000000000000)
    (h : ∀ v' w', DRow w' v' (tl ++ k) → App w w' tv v' → K (a.put o.dst v') w') :
    if Region.wanted o (yielded ops a.tmps) = true then Oper.wp Try.prog o a w K Q else E := by
  have hw : Region.wanted o (yielded ops a.tmps) = true := by simp [Region.wanted, hgd]
  rw [if_pos hw]
  obtain ⟨v', w', hr, h2, h3⟩ := run_appendL w o.type tv tl ht ad c k hk hz hb
  unfold Oper.wp execOp
  simp only [ho, resolve, invoke, builtin, Sem.run_bind, Sem.run_pure, Result.andThen_ok, List.map_toArray, List.map_cons, List.map_nil, hs, hx, hr]
  exact h v' w' h2 h3
theorem new_ln (w : World) (x : En × Bool) : ∀ j u, (lnvs [x])[j]? = some u → (w.alloc (.cells #[.int .i64 x.1.1, .int .i64 x.1.2.1, .int .i64 x.1.2.2, .bool x.2] 64)).cell? ((⟨w.heap.size, 0, none⟩ : Addr).add j) = some u := fun j u h => by
  have : (w.alloc (.cells #[.int .i64 x.1.1, .int .i64 x.1.2.1, .int .i64 x.1.2.2, .bool x.2] 64)).heap[w.heap.size]? = some (.cells #[.int .i64 x.1.1, .int .i64 x.1.2.1, .int .i64 x.1.2.2, .bool x.2] 64 (0, 0)) := Go.heap_alloc_new _ _
  rw [Addr.add_lit, cell_of_row _ _ _ _ _ _ this]
  simpa [lnvs, lnV] using h
theorem DT.below {w w' z : World} {q : Nat} {v v' : Value} {S : LS} (h : DT w w' q v v' S) (hb : Below w'.heap.size w' z) : DT w z q v v' S := ⟨h.l.below hb, h.chg.trans (Chg.ofBelow hb), h.loc⟩
/-- the list of lines turns: its new value is stored; x the world ahead of the append, w3 behind it -/
theorem DL.push {w x w3 : World} {q : Nat} {v v' : Value} {S : LS} {ls' : Ls} (h : DL w q v S) (hx : Below w.heap.size w x) (he : DRow w3 v' ls') (ha : App x w3 v v') :
    DT w (w3.setCell ⟨q, 0, none⟩ v') q v v' { S with ls := ls' } ∧ w3.cell? ⟨q, 0, none⟩ = some v ∧ w3.frozen? ⟨q, 0, none⟩ = false := by
  have hq := h.lt
  have hs := hx.size
  have kp : ∀ g, g < w.heap.size → v.ownBlock ≠ some g → w3.heap[g]? = w.heap[g]? := fun g hg h2 => (ha.chg.keep g (by omega) h2).trans (hx.block g hg)
  have hrow := (kp q hq h.vq).trans h.row
  have hloc : ∀ g, v'.ownBlock = some g → v.ownBlock = some g ∨ w.heap.size ≤ g := fun g e => (ha.loc g e).imp id fun h => by omega
  have hvq' : ∀ g, v'.ownBlock = some g → g ≠ q := fun g e e2 => by
    subst e2
    rcases hloc g e with e | e
    · exact h.vq e
    · omega
  refine ⟨⟨⟨Go.heap_setCell_same w3 _ 0 _ 62 _ hrow, rowKept he fun g e => Go.heap_setCell_other _ _ _ _ (by exact hvq' g e)⟩, ⟨ha.chg.os.trans hx.os, ha.chg.tape.trans hx.tape, ha.chg.output.trans hx.output, ?_, fun g hg hn => ?_⟩, hloc⟩, (cell_of_row _ _ _ _ _ _ hrow).trans rfl, frozen_of_row _ _ _ _ 62 hrow⟩
  · rw [World.size_setCell]
    have := ha.chg.size
    omega
  · rw [Go.heap_setCell_other _ _ _ _ (show g ≠ q from fun e => hn (.inl e))]
    exact kp g hg fun e => hn (.inr e)
theorem rfE_ok {S : LS} {id blk : Int} (h : rfE S id blk = 0) : (¬ id < 1 ∧ ¬ blk < 0 ∧ ¬ (4096 : Int) ≤ blk) ∧ id ∉ ids S.ls ∧ ¬ S.lim ≤ S.ls.length ∧ ¬ S.ep ≤ ofN S.ls (S.now : Int) := by
  unfold rfE at h
  by_cases e1 : id < 1
  · rw [if_pos e1] at h; exact absurd h (by decide)
  rw [if_neg e1] at h
  by_cases e2 : blk < 0 ∨ 4096 ≤ blk
  · rw [if_pos e2] at h; exact absurd h (by decide)
  rw [if_neg e2] at h
  by_cases e3 : id ∈ ids S.ls
  · rw [if_pos e3] at h; exact absurd h (by decide)
  rw [if_neg e3] at h
  by_cases e4 : S.lim ≤ S.ls.length ∨ S.ep ≤ ofN S.ls (S.now : Int)
  · rw [if_pos e4] at h; exact absurd h (by decide)
  exact ⟨⟨e1, by omega, by omega⟩, e3, by omega, by omega⟩
theorem ofN_app (l : Ls) (x : En × Bool) : ofN (l ++ [x]) x.1.2.2 = ofN l x.1.2.2 + 1 := by
  unfold ofN
  rw [List.filter_append]
  simp
set_option maxHeartbeats 2000000 in
theorem radd_ok {w : World} {q : Nat} {v : Value} {S : LS} (h : DL w q v S) (hl : S.ls.length < 2000) (id blk : Int) (hr : rfE S id blk = 0) : Calls Try.prog 24 #[.pointer (some ⟨q, 0, none⟩), .int .i64 id, .int .i64 blk] w fun e' w' => e' = .returned (.tuple #[.int .i64 (S.now : Int), .bool (decide (ofN (addS S id blk).ls (S.now : Int) = S.ep)), .int .i64 0]) ∧ ∃ v', DT w w' q v v' (addS S id blk) := by
  obtain ⟨a, c, rfl, b1, b2, -⟩ := h.own.form
  unfold maxLen at b2
  obtain ⟨⟨e1, e21, e22⟩, e3, e5, e6⟩ := rfE_ok hr
  have h0 : ¬ 0 ≤ ixI S.ls id := fun h => e3 (ixI_mem.1 h)
  have HO := hide fun m => rof_any (h.drewN m) (by omega) (S.now : Int)
  have HF := hide (rfind_any h (by omega) id)
  have HH := hide h
  have c0 := h.c0
  have c1 := h.c1
  have c2 := h.c2
  have c3 := h.c3
  have hob := ofN_le S.ls (S.now : Int)
  have HL := hide hl
  clear h hr e3
  generalize hz : ixI S.ls id = z at *
  clear hz
  generalize hk : ofN S.ls (S.now : Int) = k at *
  clear hk
  have e5i : ¬ (S.lim : Int) ≤ (S.ls.length : Int) := by omega
  have e6i : ¬ (S.ep : Int) ≤ (k : Int) := by omega
  go_enter Try.func24, Try.ntmps24
  go_wp2_with (go_at_call 40; refine HF.out.mono ?_; rintro e w2 ⟨rfl, hw⟩; have hw2 := hw.symm; clear hw; subst hw2)
  clear HF
  go_quiet (first | (go_at_call 41; with_reducible exact Calls.quiet_of_same (HO.out _)))
  clear HO
  go_wp2_with fail
  have HB1 := hide (below_drew0 w nq)
  have HH1 := hide (HH.out.drewN nq)
  clear c0 c1 c2 c3 e5 e6 e5i e6i
  generalize w.drewN nq = w1 at *
  have c0 := HH1.out.c0
  have c1 := HH1.out.c1
  have c3 := HH1.out.c3
  have HP : Hid (∀ v' w3, DRow w3 v' (S.ls ++ [((id, blk, (S.now : Int)), false)]) → App (w1.drew.alloc (.cells #[.int .i64 id, .int .i64 blk, .int .i64 (S.now : Int), .bool false] 64)) w3 (.slice a S.ls.length c) v' → DT w1 (w3.setCell ⟨q, 0, none⟩ v') q (.slice a S.ls.length c) v' (addS S id blk) ∧ w3.cell? ⟨q, 0, none⟩ = some (.slice a S.ls.length c) ∧ w3.frozen? ⟨q, 0, none⟩ = false) := hide fun v' w3 q1 q2 =>
    HH1.out.push (((Below.refl _ w1).drew).alloc (Nat.le_refl _) _) q1 q2
  have HEx : Hid (DRow (w1.drew.alloc (.cells #[.int .i64 id, .int .i64 blk, .int .i64 (S.now : Int), .bool false] 64)) (.slice a S.ls.length c) S.ls) := hide (HH1.out.below (((Below.refl _ w1).drew).alloc (Nat.le_refl _) _)).own
  have d0 : (w1.alloc (.cells #[.int .i64 id, .int .i64 blk, .int .i64 (S.now : Int), .bool false] 64)).cell? ⟨q, 0, none⟩ = some (.slice a S.ls.length c) := by
    rw [World.cell?_of_block (a := ⟨q, 0, none⟩) (RowKit.Below.heap_alloc _ _ _ HH1.out.lt)]; exact c0
  have hlb : S.ls.length + 1 ≤ 4000000000000 := by omega
  go_region_law (refine step_appendL rfl (.tmp 52) (.tmp 61) rfl _ S.ls rfl HEx.out ⟨w1.heap.size, 0, none⟩ 1 [((id, blk, (S.now : Int)), false)] (by simp) rfl (new_ln w1.drew ((id, blk, (S.now : Int)), false)) (by simpa using hlb) ?_; intro v' w3 q1 q2; obtain ⟨t1, f1, f2⟩ := HP.out v' w3 q1 q2; have HT := hide t1; obtain ⟨a7, c7, e7, -, -, -⟩ := q1.form; rw [List.length_append, List.length_singleton] at e7; subst e7; clear t1 q1 q2)
  all_goals
    have HT2 := hide (show DT w (w3.setCell ⟨q, 0, none⟩ _) q _ _ (addS S id blk) from ⟨HT.out.l, (Chg.ofBelow HB1.out).trans HT.out.chg, fun g e => (HT.out.loc g e).imp (fun h => h) fun h => by have := HB1.out.size; omega⟩)
    have HO : Hid (∀ m, _) := hide fun m => rof_any (HT.out.l.drewN m) (by have := HL.out; simp [addS]; omega) (S.now : Int)
    have g1 := HT.out.l.c1
    have g3 := HT.out.l.c3
    have hob2 := ofN_le (addS S id blk).ls (S.now : Int)
    have hll : (addS S id blk).ls.length = S.ls.length + 1 := by simp [addS]
    clear HT HP HEx c0 c1 c3 d0
    generalize w3.setCell ⟨q, 0, none⟩ _ = w4 at *
    change w4.cell? ⟨q, 1, none⟩ = some (.int .i64 (S.now : Int)) at g1
    change w4.cell? ⟨q, 3, none⟩ = some (.int .i64 (S.ep : Int)) at g3
    obtain ⟨jn, hjn⟩ : ∃ jn, ofN (addS S id blk).ls (S.now : Int) = jn := ⟨_, rfl⟩
    change Hid (∀ m : Nat, Calls _ _ _ _ fun e' w' => e' = .returned (.int .i64 ((ofN (addS S id blk).ls (S.now : Int) : Nat) : Int)) ∧ _) at HO
    rw [hjn] at HO hob2
    have HJN := hide hjn
    clear hjn
    go_wp2_with fail
    go_quiet (first | (go_at_call 41; with_reducible exact Calls.quiet_of_same (HO.out _)))
    go_wp2_with fail
    refine bodyPost_ret (results_tmpT rfl _ _ _) rfl ?_
    have hbe : decide (jn = S.ep) = ((jn : Int) == (S.ep : Int)) := by rw [Bool.eq_iff_iff]; simp; omega
    exact ⟨by rw [HJN.out, hbe]; rfl, _, HT2.out.below (below_drew0 _ _)⟩
end Go.Proofs.Ytcdmkbjibcahcab
