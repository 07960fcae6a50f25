import Derived.Test.YtcdmkbjibcahcabTRr
namespace Go.Proofs.Ytcdmkbjibcahcab
open Go.RowKit
set_option linter.unusedVariables false
set_option linter.unusedSimpArgs false
set_option maxRecDepth 20000

/-- in the midst of Barrier: the leaving writes, the lines that stay -/
structure RB (w wr : World) (ov rv : Value) (l : List En) (m : Ls) : Prop where
  bel : Below w.heap.size w wr
  row : ERow wr ov l
  lns : DRow wr rv m
  newO : ∀ g, ov.ownBlock = some g → w.heap.size ≤ g
  newR : ∀ g, rv.ownBlock = some g → w.heap.size ≤ g
theorem RB.nil (w : World) : RB w w (.slice none 0 0) (.slice none 0 0) [] [] := ⟨Below.refl _ _, ERow.nil w, ⟨rfl, .inl ⟨rfl, rfl⟩⟩, fun g e => by simp [Value.ownBlock] at e, fun g e => by simp [Value.ownBlock] at e⟩
section
variable {w wr z : World} {ov ov' rv rv' : Value} {l l' : List En} {m m' : Ls}
theorem DRow.lt (h : DRow w rv m) {g : Nat} (e : rv.ownBlock = some g) : g < w.heap.size := (World.ownsRow.lt h g e).2
theorem RB.calm (h : RB w wr ov rv l m) (hb : Below wr.heap.size wr z) : RB w z ov rv l m := ⟨h.bel.trans (hb.mono h.bel.size), h.row.below hb, rowKept h.lns fun g e => hb.block g (h.lns.lt e), h.newO, h.newR⟩
theorem RB.ne (h : RB w wr ov rv l m) {g : Nat} (e : ov.ownBlock = some g) (e2 : rv.ownBlock = some g) : False := by
  obtain ⟨cs, hc⟩ := h.row.cells e
  obtain ⟨ds, hd⟩ := h.lns.cellsOf e2
  exact neType hc hd (by decide) rfl
theorem RB.appO (h : RB w wr ov rv l m) (ho : ERow z ov' l') (ha : App wr z ov ov') : RB w z ov' rv l' m := by
  have hs := h.bel.size
  refine ⟨h.bel.trans (ha.chg.below hs h.newO), ho, rowKept h.lns fun g e => ha.chg.keep g (h.lns.lt e) fun e2 => h.ne e2 e, fun g e => ?_, h.newR⟩
  rcases ha.loc g e with e | e
  · exact h.newO g e
  · omega
theorem RB.appR (h : RB w wr ov rv l m) (ho : DRow z rv' m') (ha : App wr z rv rv') : RB w z ov rv' l m' := by
  have hs := h.bel.size
  refine ⟨h.bel.trans (ha.chg.below hs h.newR), h.row.kept fun g e => ha.chg.keep g (h.row.lt e) fun e2 => h.ne e e2, ho, h.newO, fun g e => ?_⟩
  rcases ha.loc g e with e | e
  · exact h.newR g e
  · omega
end
def outL (l : Ls) (ep : Int) : List En := (l.filter fun x => x.1.2.2 == ep).map Prod.fst
def rstL (l : Ls) (ep : Int) : Ls := l.filter fun x => !(x.1.2.2 == ep)
theorem out_step (l : Ls) (ep : Int) {k : Nat} (hk : k < l.length) : outL (l.take (k + 1)) ep = (if (l.getD k l0).1.2.2 = ep then outL (l.take k) ep ++ [(l.getD k l0).1] else outL (l.take k) ep) ∧ rstL (l.take (k + 1)) ep = (if (l.getD k l0).1.2.2 = ep then rstL (l.take k) ep else rstL (l.take k) ep ++ [l.getD k l0]) := by
  have hg : l.getD k l0 = l[k] := by simp [List.getD, hk]
  rw [hg, List.take_add_one, List.getElem?_eq_getElem hk]
  unfold outL rstL
  rw [List.filter_append, List.filter_append, List.map_append]
  by_cases h : l[k].1.2.2 = ep
  · rw [if_pos h, if_pos h]
    simp [h]
  · rw [if_neg h, if_neg h]
    simp [h]
theorem outL_le (l : Ls) (ep : Int) : (outL l ep).length ≤ l.length := by
  unfold outL
  rw [List.length_map]
  exact List.length_filter_le _ _
theorem rstL_le (l : Ls) (ep : Int) : (rstL l ep).length ≤ l.length := List.length_filter_le _ _
def BarP (w : World) (q : Nat) (v : Value) (S : LS) (ep : Int) (e : Ending) (w' : World) : Prop := ∃ lv v', e = .returned (.tuple #[lv, .int .i64 0]) ∧ DT w w' q v v' { S with ls := rstL S.ls ep } ∧ ERow w' lv (outL S.ls ep) ∧ ∀ g, lv.ownBlock = some g → w.heap.size ≤ g
set_option maxHeartbeats 2000000 in
theorem rbar_ok {w : World} {q : Nat} {v : Value} {S : LS} (h : DL w q v S) (hl : S.ls.length ≤ 2000) (ep cnt : Int) (hb : rbB S ep cnt = true) : Calls Try.prog 31 #[.pointer (some ⟨q, 0, none⟩), .int .i64 ep, .int .i64 cnt] w (BarP w q v S ep) := by
  obtain ⟨a, c, rfl, b1, b2, hc⟩ := h.own.form
  unfold maxLen at b2
  have HO := hide fun m => rof_any (h.drewN m) hl ep
  have HD := hide h
  have c0 := h.c0
  have c1 := h.c1
  have hob := ofN_le S.ls ep
  unfold rbB at hb
  rw [Bool.and_eq_true, Bool.and_eq_true, Bool.and_eq_true, Bool.not_eq_true', Bool.not_eq_true'] at hb
  obtain ⟨e1, e2, e3, e4⟩ := hb
  have e1 : ¬ S.ls.length = 0 := by simpa using e1
  have e1i : (((S.ls.length : Nat) : Int) == 0) = false := by simpa using e1
  obtain ⟨g, rfl, -, -, d2, -⟩ := hc 0 (by omega)
  rw [Nat.zero_mul, Nat.zero_add] at d2
  have hpos : 0 < S.ls.length := by omega
  have e3b : ((S.ls.getD 0 l0).1.2.2 != ep) = false := by rw [bne, e3]; rfl
  have e4b : (((ofN S.ls ep : Nat) : Int) != cnt) = false := by rw [bne, e4]; rfl
  have HX : Hid (∀ w1, Below w.heap.size w w1 → RB w w1 (.slice none 0 0) (.slice none 0 0) (outL (S.ls.take 0) ep) (rstL (S.ls.take 0) ep)) := hide fun w1 hb => (RB.nil w).calm hb
  have HCC : Hid (∀ wr, Below w.heap.size w wr → wr.cell? ⟨q, 0, none⟩ = some (.slice (some ⟨g, 0, none⟩) S.ls.length c) ∧ wr.frozen? ⟨q, 0, none⟩ = false ∧ ∀ j, j < S.ls.length → wr.cell? ⟨g, j * 4, none⟩ = some (.int .i64 (S.ls.getD j l0).1.1) ∧ wr.cell? ⟨g, j * 4 + 1, none⟩ = some (.int .i64 (S.ls.getD j l0).1.2.1) ∧ wr.cell? ⟨g, j * 4 + 2, none⟩ = some (.int .i64 (S.ls.getD j l0).1.2.2) ∧ wr.cell? ⟨g, j * 4 + 3, none⟩ = some (.bool (S.ls.getD j l0).2)) := hide fun wr hb => by
    have hx := HD.out.below hb
    obtain ⟨a', c', e, -, -, hc⟩ := hx.own.form
    injection e with e1 e2 e3
    refine ⟨hx.c0, hx.f 0, fun j hj => ?_⟩
    obtain ⟨g', e, h1⟩ := hc j hj
    rw [← e1] at e
    simp only [Option.some.injEq, Addr.mk.injEq, and_true] at e
    subst e
    exact h1
  have HS := hide fun (k : Nat) (hk : k < S.ls.length) => out_step S.ls ep hk
  have HE : Hid (outL (S.ls.take S.ls.length) ep = outL S.ls ep ∧ rstL (S.ls.take S.ls.length) ep = rstL S.ls ep) := hide (by rw [List.take_length]; exact ⟨rfl, rfl⟩)
  have HLN : Hid (∀ k, (outL (S.ls.take k) ep).length ≤ 2000 ∧ (rstL (S.ls.take k) ep).length ≤ 2000) := hide fun k => by
    have h1 := outL_le (S.ls.take k) ep
    have h2 := rstL_le (S.ls.take k) ep
    rw [List.length_take] at h1 h2
    omega
  clear h hc
  generalize hz : (S.ls.getD 0 l0).1.2.2 = z at *
  clear hz
  generalize hk : ofN S.ls ep = k at *
  clear hk
  generalize hn : S.ls.length = n at *
  clear hn
  generalize hnw : (S.now : Int) = now at *
  clear hnw
  go_enter Try.func31, Try.ntmps31
  go_wp2_with fail
  go_quiet (first | (go_at_call 41; with_reducible exact Calls.quiet_of_same (HO.out _)))
  clear HO
  go_wp2_with fail
  have HB1 := hide (below_drew0 w nq)
  clear c0 c1 d2
  generalize w.drewN nq = w1 at *
  go_loopw [8, 9, 10] (fun x y u wr => ∃ k : Nat, k ≤ n ∧ u = .int .i64 (k : Int) ∧ Hid (RB w wr x y (outL (S.ls.take k) ep) (rstL (S.ls.take k) ep))) (fun _ _ u _ => n - (intOf u).toNat)
  case atStart => exact ⟨0, Nat.zero_le _, rfl, hide (HX.out _ HB1.out)⟩
  case round =>
    clear HX HB1
    obtain ⟨k, hk, rfl, HN⟩ := hrel
    obtain ⟨w2, hw2⟩ : ∃ w2, wr = w2 := ⟨_, rfl⟩
    rw [hw2] at HN ⊢
    clear hw2
    obtain ⟨c0, f0, hcl⟩ := HCC.out _ HN.out.bel
    by_cases hlt : k < n
    · have hli : (k : Int) < (n : Int) := by omega
      obtain ⟨d0, d1, d2, d3⟩ := hcl k hlt
      have hs := HS.out k hlt
      have hln := HLN.out k
      clear hcl HCC HLN HS
      generalize hA : outL (S.ls.take k) ep = A at *
      generalize hR : rstL (S.ls.take k) ep = R at *
      clear hA hR
      generalize S.ls.getD k l0 = zz at *
      obtain ⟨⟨z0, z1, z2⟩, zb⟩ := zz
      dsimp only at d0 d1 d2 d3 hs
      by_cases hx : z2 = ep
      · rw [if_pos hx, if_pos hx] at hs
        have HS2 := hide hs
        have hxe : (z2 == ep) = true := by simpa using hx
        clear hs hx
        have HN1 := hide (HN.out.calm (below_alloc w2 (.cells #[.int .i64 z0, .int .i64 z1, .int .i64 z2] 56)))
        go_wp2_with (at_builtin; refine wpList_appendE _ rfl (.tmp 71) (.tmp 80) rfl _ _ rfl HN1.out.row ⟨w2.heap.size, 0, none⟩ 1 [(z0, z1, z2)] (by simp) rfl (new_en w2 (z0, z1, z2)) (by simp; omega) ?_; intro v4 w3 ho3 ha3; have HN2 := hide (HN1.out.appO ho3 ha3); clear ho3 ha3 HN1)
        go_roundw
        case rel => exact ⟨k + 1, by omega, by go_num, hide (by rw [HS2.out.1, HS2.out.2]; exact HN2.out)⟩
        case measure => simp [intOf]; omega
      · rw [if_neg hx, if_neg hx] at hs
        have HS2 := hide hs
        have hxe : (z2 == ep) = false := by simpa using hx
        clear hs hx
        have HN1 := hide (HN.out.calm (below_alloc w2 (.cells #[.int .i64 z0, .int .i64 z1, .int .i64 z2, .bool zb] 64)))
        go_wp2_with (at_builtin; refine wpList_appendL _ rfl (.tmp 82) (.tmp 90) rfl _ _ rfl HN1.out.lns ⟨w2.heap.size, 0, none⟩ 1 [((z0, z1, z2), zb)] (by simp) rfl (new_ln w2 ((z0, z1, z2), zb)) (by simp; omega) ?_; intro v4 w3 ho3 ha3; have HN2 := hide (HN1.out.appR ho3 ha3); clear ho3 ha3 HN1)
        go_roundw
        case rel => exact ⟨k + 1, by omega, by go_num, hide (by rw [HS2.out.1, HS2.out.2]; exact HN2.out)⟩
        case measure => simp [intOf]; omega
    · have ek : k = n := by omega
      have HN3 : Hid (RB w w2 u8 u9 (outL S.ls ep) (rstL S.ls ep)) := hide (by have := HN.out; rwa [ek, HE.out.1, HE.out.2] at this)
      have hli : ¬ (k : Int) < (n : Int) := by omega
      clear hcl HCC HLN HS HN ek HE
      obtain ⟨y0, y1, hdt⟩ := HD.out.setL HN3.out.bel HN3.out.lns HN3.out.newR
      have HFN : Hid (BarP w q (.slice (some ⟨g, 0, none⟩) n c) S ep (.returned (.tuple #[u8, .int .i64 0])) (w2.setCell ⟨q, 0, none⟩ u9)) := hide (by
        have hq := HD.out.lt
        refine ⟨u8, u9, rfl, hdt, HN3.out.row.kept fun g e => ?_, HN3.out.newO⟩
        have := HN3.out.newO g e
        exact Go.heap_setCell_other _ _ _ _ (show g ≠ q by omega))
      clear hdt
      obtain ⟨a9, c9, e9, -, -, -⟩ := HN3.out.lns.form
      clear HN3
      subst e9
      go_wp2_with fail
      (try simp only [Exit.inBlock, Exit.then]); refine bodyPost_ret (results_tmp2 rfl _ _ _) rfl ?_
      exact HFN.out
end Go.Proofs.Ytcdmkbjibcahcab
