import Derived.Test.YtcdmkbjibcahcabTAdd
namespace Go.Proofs.Ytcdmkbjibcahcab
open Go.RowKit
set_option linter.unusedVariables false
set_option linter.unusedSimpArgs false
set_option maxRecDepth 20000

theorem results_row {P : Program} {fn : Func} {p : Tmp} {ty : TypeId} (h : fn.results = #[.cell p ty]) (tmps : Array Value) (w : World) (g : Nat) (t : TypeId) (cs : Array Value) (fr : Nat × Nat) (d : TypeDesc)
    (hp : tmps.getD p undef = .pointer (some ⟨g, 0, none⟩)) (hg : w.heap[g]? = some (.cells cs t fr))
    (hu : P.underlying ty = some d) (hd : (match d with | .struct _ | .array _ _ => true | _ => false) = true) (hi : (P.info? ty).map (·.size) = some cs.size) :
    (results fn tmps).run P w = .ok (.agg cs) w := by
  have hp' : tmps[p]?.getD undef = .pointer (some ⟨g, 0, none⟩) := by simpa using hp
  simp [results, h, hp', asAddr, run_loadVar_row w g t ty cs fr d hg hu hd hi]
theorem results_row_tmp {P : Program} {fn : Func} {p u : Tmp} {ty : TypeId} (h : fn.results = #[.cell p ty, .tmp u]) (tmps : Array Value) (w : World) (g : Nat) (t : TypeId) (cs : Array Value) (fr : Nat × Nat) (d : TypeDesc)
    (hp : tmps.getD p undef = .pointer (some ⟨g, 0, none⟩)) (hg : w.heap[g]? = some (.cells cs t fr))
    (hu : P.underlying ty = some d) (hd : (match d with | .struct _ | .array _ _ => true | _ => false) = true) (hi : (P.info? ty).map (·.size) = some cs.size) :
    (results fn tmps).run P w = .ok (.tuple #[.agg cs, tmps.getD u undef]) w := by
  have hp' : tmps[p]?.getD undef = .pointer (some ⟨g, 0, none⟩) := by simpa using hp
  simp [results, h, hp', asAddr, run_loadVar_row w g t ty cs fr d hg hu hd hi]
theorem cell_alloc {w : World} {a : Addr} {x : Value} (o : Obj) (h : w.cell? a = some x) : (w.alloc o).cell? a = some x := by
  rw [World.cell?_of_block (RowKit.Below.heap_alloc _ _ _ (World.block_lt_of_cell? w _ h))]; exact h
set_option maxHeartbeats 1000000 in
theorem at_any (w : World) (p bm : Nat) (v : Value) (S : LS) (h : LRep w p bm v S) (hl : S.es.length ≤ 2000) (hg : S.gone ≤ 16000000000000) (i : Nat) (hi : i < S.es.length) : Calls Try.prog 36 #[.pointer (some ⟨p, 0, none⟩), .int .i64 ((S.gone + i : Nat) : Int)] w fun e w' => e = .returned (.agg #[.int .i64 (S.es.getD i e0).1, .int .i64 (S.es.getD i e0).2.1, .int .i64 (S.es.getD i e0).2.2]) ∧ Below w.heap.size w w' := by
  obtain ⟨a, c, rfl, b1, b2, hc⟩ := h.lst.form
  unfold maxLen at b2
  have c3 := h.c3
  have c5 := h.c5
  obtain ⟨g, off, rfl, _, d0, d1, d2⟩ := hc i hi
  have hix : ((S.gone + i : Nat) : Int) - (S.gone : Int) = (i : Int) := by omega
  have hwr : IntKind.i64.wrap (i : Int) = (i : Int) := by simp [IntKind.wrap, IntKind.bits, IntKind.signed]; omega
  have hwr2 : IntKind.i64.wrap (((S.gone + i : Nat) : Int) - (S.gone : Int)) = (i : Int) := by rw [hix]; exact hwr
  clear h hc
  generalize S.es.length = n at *
  generalize S.es.getD i e0 = x at *
  obtain ⟨x0, x1, x2⟩ := x
  generalize hgi : ((S.gone + i : Nat) : Int) = gi at *
  generalize (S.gone : Int) = go at *
  have k3 := cell_alloc (.cells #[.int .i64 0, .int .i64 0, .int .i64 0] 56) c3
  have k5 := cell_alloc (.cells #[.int .i64 0, .int .i64 0, .int .i64 0] 56) c5
  have j0 := cell_alloc (.cells #[.int .i64 0, .int .i64 0, .int .i64 0] 56) d0
  have j1 := cell_alloc (.cells #[.int .i64 0, .int .i64 0, .int .i64 0] 56) d1
  have j2 := cell_alloc (.cells #[.int .i64 0, .int .i64 0, .int .i64 0] 56) d2
  clear c3 c5 d0 d1 d2
  go_enter Try.func36, Try.ntmps36
  go_wp2_with fail
  refine wp_still_tail 12 (by kernel_rfl) (by kernel_rfl) ?_
  simp only [List.take_succ_cons, List.take_zero, List.drop_succ_cons, List.drop_zero]
  repeat still_step
  refine wpStill_nil ?_
  go_wp2_with fail
  refine bodyPost_ret (results_row (p := 4) rfl _ _ w.heap.size 56 #[.int .i64 x0, .int .i64 x1, .int .i64 x2] (0, 0) _ (by kernel_rfl) (Go.heap_alloc_new w _) Try.underlying56 rfl (by kernel_rfl)) rfl ⟨rfl, ((Below.refl _ w).alloc (Nat.le_refl _) _).drew⟩
theorem heap_alloc2 (w : World) (o o2 : Obj) : ((w.alloc o).alloc o2).heap[w.heap.size]? = some o := (RowKit.Below.heap_alloc _ _ _ (by simp)).trans (Go.heap_alloc_new w o)
theorem below_alloc (w : World) (o : Obj) : Below w.heap.size w (w.alloc o) := (Below.refl _ _).alloc (Nat.le_refl _) o
theorem below_alloc2 (w : World) (o o2 : Obj) : Below w.heap.size w ((w.alloc o).alloc o2) := (below_alloc w o).alloc (by simp) o2
set_option maxHeartbeats 1000000 in
theorem Ack_no (w : World) (p bm : Nat) (v : Value) (S : LS) (id : Int) (h : LRep w p bm v S) (hid : i64ok id) (hn : id ∉ ids S.ls) : Calls Try.prog 27 #[.pointer (some ⟨p, 0, none⟩), .int .i64 id] w fun e w' =>
    e = .returned (.tuple #[.agg #[.int .i64 0, .int .i64 0, .int .i64 0], .int .i64 103]) ∧ Tn w w' p bm v v S := by
  have HH := hide h
  obtain ⟨D, hown, hDs, hD1, hD2⟩ := h.mp
  have hh := hD2 id hn
  have c4 := cell_alloc (.cells #[.int .i64 0, .int .i64 0, .int .i64 0] 56) h.c4
  have HOWN : Hid ((w.alloc (.cells #[.int .i64 0, .int .i64 0, .int .i64 0] 56)).ownsMap Try.prog 3 stR bm S.ls.length D) := hide (by
    obtain ⟨es, clock, hb, r⟩ := hown
    exact ⟨es, clock, (RowKit.Below.heap_alloc _ _ _ (Array.getElem?_eq_some_iff.1 hb).1).trans hb, r⟩)
  clear hDs hD1 hD2 h hown
  go_enter Try.func27, Try.ntmps27
  go_wp2_with (at_lookup; refine wpList_look _ rfl _ _ rfl bm _ D rfl HOWN.out _ rfl hid ?_; intro y hy; rw [hh]; clear hy)
  refine bodyPost_ret (results_row_tmp (p := 4) (u := 5) rfl _ _ w.heap.size 56 #[.int .i64 0, .int .i64 0, .int .i64 0] (0, 0) _ (by kernel_rfl) (heap_alloc2 w _ _) Try.underlying56 rfl (by kernel_rfl)) rfl ⟨rfl, (Tn.refl HH.out).below (below_alloc2 w _ _)⟩
set_option maxHeartbeats 1000000 in
theorem Ack_twice (w : World) (p bm : Nat) (v : Value) (S : LS) (i : Nat) (x : En) (h : LRep w p bm v S) (hid : i64ok x.1) (hx : S.ls[i]? = some (x, true)) : Calls Try.prog 27 #[.pointer (some ⟨p, 0, none⟩), .int .i64 x.1] w fun e w' =>
    e = .returned (.tuple #[.agg #[.int .i64 0, .int .i64 0, .int .i64 0], .int .i64 102]) ∧ Tn w w' p bm v v S := by
  have HH := hide h
  obtain ⟨D, hown, hDs, hD1, hD2⟩ := h.mp
  obtain ⟨hh, hat⟩ := hD1 i _ hx
  have HY : Hid (∀ y1 y2, D.atKey (kL x.1) (stD 0 false) = stD y1 y2 → y1 = ((S.gone + i : Nat) : Int) ∧ y2 = true) := hide fun y1 y2 hy => by
    have := (hat (stD 0 false)).symm.trans hy
    obtain ⟨e1, e2⟩ := stD_inj this
    exact ⟨e1.symm, e2.symm⟩
  have c4 := cell_alloc (.cells #[.int .i64 0, .int .i64 0, .int .i64 0] 56) h.c4
  have HOWN : Hid ((w.alloc (.cells #[.int .i64 0, .int .i64 0, .int .i64 0] 56)).ownsMap Try.prog 3 stR bm S.ls.length D) := hide (by
    obtain ⟨es, clock, hb, r⟩ := hown
    exact ⟨es, clock, (RowKit.Below.heap_alloc _ _ _ (Array.getElem?_eq_some_iff.1 hb).1).trans hb, r⟩)
  clear hDs hD1 hD2 h hown hat hx
  simp only at hh
  generalize x.1 = id at *
  generalize ((S.gone + i : Nat) : Int) = T at *
  go_enter Try.func27, Try.ntmps27
  go_wp2_with (at_lookup; refine wpList_look _ rfl _ _ rfl bm _ D rfl HOWN.out _ rfl hid ?_; rintro ⟨y1, y2⟩ hy; obtain ⟨rfl, rfl⟩ := HY.out _ _ hy; rw [hh]; clear hy)
  refine bodyPost_ret (results_row_tmp (p := 4) (u := 5) rfl _ _ w.heap.size 56 #[.int .i64 0, .int .i64 0, .int .i64 0] (0, 0) _ (by kernel_rfl) (heap_alloc2 w _ _) Try.underlying56 rfl (by kernel_rfl)) rfl ⟨rfl, (Tn.refl HH.out).below (below_alloc2 w _ _)⟩
theorem set_es {ls : Ls} {i : Nat} {x : En} {b c : Bool} (h : ls[i]? = some (x, b)) : (ls.set i (x, c)).map Prod.fst = ls.map Prod.fst := by
  rw [List.map_set]
  apply List.ext_getElem?
  intro j
  by_cases hj : j = i
  · subst hj
    rw [List.getElem?_set_self (by simpa using (List.getElem?_eq_some_iff.1 h).1)]
    simp [h]
  · rw [List.getElem?_set_ne (Ne.symm hj)]
theorem set3 {w : World} {g : Nat} {x0 x1 x2 : Value} {t : TypeId} (h : w.heap[g]? = some (.cells #[x0, x1, x2] t (0, 0))) (a b c : Value) : (((w.setCell ⟨g, 0, none⟩ a).setCell ⟨g, 1, none⟩ b).setCell ⟨g, 2, none⟩ c).heap[g]? = some (.cells #[a, b, c] t (0, 0)) := by
  have h1 := Go.heap_setCell_same w g 0 _ t a h
  have h2 := Go.heap_setCell_same _ g 1 _ t b h1
  exact Go.heap_setCell_same _ g 2 _ t c h2
theorem Tn.set {w w' : World} {p bm : Nat} {v : Value} {S' : LS} (h : Tn w w' p bm v v S') (h0 : ∀ g, LU p bm v g → g < w.heap.size) (i : Nat) (x : Value) : Tn w (w'.setCell ⟨w.heap.size, i, none⟩ x) p bm v v S' :=
  ⟨h.rep.kept fun g e => Go.heap_setCell_other _ _ _ _ (show g ≠ w.heap.size from fun e2 => by have := h0 g e; omega), chg_set h.chg _ _ _ (.inr (Nat.le_refl _)), h.loc, h.fr.set _ _ _ fun g _ hg => by omega⟩
def ackS (S : LS) (i : Nat) (x : En) : LS := { S with ls := S.ls.set i (x, true) }
set_option maxHeartbeats 1000000 in
theorem Ack_ok (w : World) (p bm : Nat) (v : Value) (S : LS) (i : Nat) (x : En) (h : LRep w p bm v S) (hb : S.Bd) (hx : S.ls[i]? = some (x, false)) (hg : S.gone ≤ 16000000000000) : Calls Try.prog 27 #[.pointer (some ⟨p, 0, none⟩), .int .i64 x.1] w fun e w' =>
    e = .returned (.tuple #[.agg #[.int .i64 x.1, .int .i64 x.2.1, .int .i64 x.2.2], .int .i64 0]) ∧ Tn w w' p bm v v (ackS S i x) := by
  have HH := hide h
  have HBD := hide hb
  have hid : i64ok x.1 := hb.ok _ (List.mem_of_getElem? hx)
  obtain ⟨D, hown, hDs, hD1, hD2⟩ := h.mp
  obtain ⟨hh, hat⟩ := hD1 i _ hx
  have HD := hide (And.intro hDs (And.intro hD1 hD2))
  have HX := hide hx
  have HY : Hid (∀ y1 y2, D.atKey (kL x.1) (stD 0 false) = stD y1 y2 → y1 = ((S.gone + i : Nat) : Int) ∧ y2 = false) := hide fun y1 y2 hy => by
    have := (hat (stD 0 false)).symm.trans hy
    obtain ⟨e1, e2⟩ := stD_inj this
    exact ⟨e1.symm, e2.symm⟩
  have c4 := cell_alloc (.cells #[.int .i64 0, .int .i64 0, .int .i64 0] 56) h.c4
  have HOWN : Hid ((w.alloc (.cells #[.int .i64 0, .int .i64 0, .int .i64 0] 56)).ownsMap Try.prog 3 stR bm S.ls.length D) := hide (by
    obtain ⟨es, clock, hb, r⟩ := hown
    exact ⟨es, clock, (RowKit.Below.heap_alloc _ _ _ (Array.getElem?_eq_some_iff.1 hb).1).trans hb, r⟩)
  have HMS : Hid (∀ w6, w6.ownsMap Try.prog 3 stR bm (S.ls.length + 1) (D.put (kL x.1) (stD ((S.gone + i : Nat) : Int) true)) → MS w6 bm S.gone (ackS S i x).ls) := hide fun w6 q => MS.ack (x := (x, false)) hDs hD1 hD2 (hown.tidy kInt) hb.nd hx q
  have HES : Hid ((ackS S i x).es = S.es) := hide (set_es hx)
  have hsl : S.ls.length < maxLen := by
    have := hb.l2; have := hb.ln; unfold maxLen; omega
  have HIL : Hid (i < (ackS S i x).es.length ∧ (ackS S i x).es.length ≤ 2000 ∧ (ackS S i x).es.getD i e0 = x) := hide (by
    rw [show (ackS S i x).es = S.es from set_es hx]
    have hil := (List.getElem?_eq_some_iff.1 hx).1
    exact ⟨by rw [LS.es_len]; exact hil, hb.es, by simp [LS.es, List.getD, hx]⟩)
  have HLT := hide h.lt
  have HLOW := hide (And.intro (h.lt p (.inl rfl)) (And.intro (h.lt bm (.inr (.inl rfl))) h.ap))
  clear hDs hD1 hD2 h hown hat hx hb HX HBD
  simp only at hh
  obtain ⟨T, hT⟩ : ∃ T : Int, ((S.gone + i : Nat) : Int) = T := ⟨_, rfl⟩
  rw [hT] at HY HMS
  have HT := hide hT
  clear hT
  go_enter Try.func27, Try.ntmps27
  go_wp2_with (at_lookup; refine wpList_look _ rfl _ _ rfl bm _ D rfl HOWN.out _ rfl hid ?_; rintro ⟨T, y2⟩ hy; obtain ⟨rfl, rfl⟩ := HY.out _ _ hy; rw [hh]; clear hy)
  have HB5 := hide (below_alloc2 w (.cells #[.int .i64 0, .int .i64 0, .int .i64 0] 56) (.cells #[.int .i64 T, .bool true] 72))
  have HR5 := hide (heap_alloc2 w (.cells #[.int .i64 0, .int .i64 0, .int .i64 0] 56) (.cells #[.int .i64 T, .bool true] 72))
  have HS5 : Hid (((w.alloc (.cells #[.int .i64 0, .int .i64 0, .int .i64 0] 56)).alloc (.cells #[.int .i64 T, .bool true] 72)).heap[w.heap.size + 1]? = some (.cells #[.int .i64 T, .bool true] 72 (0, 0))) := hide (by
    have := Go.heap_alloc_new (w.alloc (.cells #[.int .i64 0, .int .i64 0, .int .i64 0] 56)) (.cells #[.int .i64 T, .bool true] 72)
    rw [World.size_alloc] at this
    exact this)
  have HL5 := hide (HH.out.below HB5.out)
  have HO5 : Hid (((w.alloc (.cells #[.int .i64 0, .int .i64 0, .int .i64 0] 56)).alloc (.cells #[.int .i64 T, .bool true] 72)).ownsMap Try.prog 3 stR bm S.ls.length D) := hide (by
    obtain ⟨es, clock, hb, r⟩ := HOWN.out
    exact ⟨es, clock, (RowKit.Below.heap_alloc _ _ _ (Array.getElem?_eq_some_iff.1 hb).1).trans hb, r⟩)
  clear HOWN HY c4 hh
  generalize (w.alloc (.cells #[.int .i64 0, .int .i64 0, .int .i64 0] 56)).alloc (.cells #[.int .i64 T, .bool true] 72) = w5 at *
  have c4 := HL5.out.c4
  have t0 : w5.cell? ⟨w.heap.size + 1, 0, none⟩ = some (.int .i64 T) := by rw [cell_of_row _ _ _ _ _ _ HS5.out]; rfl
  have t1 : w5.cell? ⟨w.heap.size + 1, 1, none⟩ = some (.bool true) := by rw [cell_of_row _ _ _ _ _ _ HS5.out]; rfl
  refine wp_still_tail 6 (by kernel_rfl) (by kernel_rfl) ?_
  simp only [List.take_succ_cons, List.take_zero, List.drop_succ_cons, List.drop_zero]
  repeat still_step
  refine wpStill_nil ?_
  have HO5D : Hid (w5.drew.ownsMap Try.prog 3 stR bm S.ls.length D) := hide HO5.out
  have HF6 : Hid (∀ w6, w5.drew.grownBy w6 (some bm) → MS w6 bm S.gone (ackS S i x).ls → (w6.cell? ⟨w.heap.size + 1, 0, none⟩ = some (.int .i64 T) ∧ w6.heap[w.heap.size]? = some (.cells #[.int .i64 0, .int .i64 0, .int .i64 0] 56 (0, 0))) ∧ Tn w w6 p bm v v (ackS S i x)) := hide fun w6 q qm => by
    obtain ⟨l1, l2, l3, l4⟩ := HLOW.out
    have hsz := HB5.out.size
    have kp : ∀ g, g < w5.heap.size → g ≠ bm → w6.heap[g]? = w5.heap[g]? := fun g hg hn => q.block g hg fun e => hn (Option.some.inj e)
    have hs5 : w.heap.size + 1 < w5.heap.size := (Array.getElem?_eq_some_iff.1 HS5.out).1
    refine ⟨⟨by rw [World.cell?_of_block (a := ⟨w.heap.size + 1, 0, none⟩) (kp (w.heap.size + 1) hs5 (by omega))]; exact t0, (kp w.heap.size (by omega) (by omega)).trans HR5.out⟩, ⟨⟨(kp p (by omega) l3).trans HL5.out.row, ?_, qm⟩, ?_, fun g e => .inl e, Fr.same (fun g e hg => (kp g (by omega) (l4 g e).2).trans (HB5.out.block g hg)) (Fr.rfl1 v)⟩⟩
    · rw [HES.out]
      exact HL5.out.lst.kept fun g e => kp g (HL5.out.lst.lt e) (l4 g e).2
    · exact ⟨q.os.trans HB5.out.os, q.tape.trans HB5.out.tape, q.output.trans HB5.out.output, Nat.le_trans hsz q.size, fun g hg hn => (kp g (by omega) fun e => hn (.inr (.inl e))).trans (HB5.out.block g hg)⟩
  have HAT : Hid (∀ w6, Tn w w6 p bm v v (ackS S i x) → Calls Try.prog 36 #[.pointer (some ⟨p, 0, none⟩), .int .i64 T] w6 fun e w' => e = .returned (.agg #[.int .i64 x.1, .int .i64 x.2.1, .int .i64 x.2.2]) ∧ Below w6.heap.size w6 w') := hide fun w6 q => by
    obtain ⟨i1, i2, i3⟩ := HIL.out
    have := at_any w6 p bm v (ackS S i x) q.rep i2 hg i i1
    rw [i3] at this
    rw [← HT.out]
    exact this
  clear HH HD HES HIL HLOW HL5 HO5 HB5 HR5 HS5 HT c4 t0 t1
  go_wp2_with (first
    | (at_mapUpdate; refine wpList_put _ rfl _ _ _ rfl bm _ D rfl HO5D.out hsl _ T true rfl rfl hid ?_; intro w6 hown6 hg6; obtain ⟨⟨u0, u1⟩, u2⟩ := HF6.out _ hg6 (HMS.out _ hown6); have HU1 := hide u1; have HU2 := hide u2; clear hown6 hg6 u1 u2 HF6 HMS HO5D)
    | (go_at_call 36; refine (HAT.out _ HU2.out).mono ?_; rintro e w7 ⟨rfl, q7⟩; have HT7 := hide (HU2.out.below q7); have HR7 := hide ((q7.block _ (Array.getElem?_eq_some_iff.1 HU1.out).1).trans HU1.out); have z0 : w7.cell? ⟨w.heap.size, 0, none⟩ = some (.int .i64 0) := by { rw [cell_of_row _ _ _ _ _ _ HR7.out]; rfl }; have z1 : w7.cell? ⟨w.heap.size, 1, none⟩ = some (.int .i64 0) := by { rw [cell_of_row _ _ _ _ _ _ HR7.out]; rfl }; have z2 : w7.cell? ⟨w.heap.size, 2, none⟩ = some (.int .i64 0) := by { rw [cell_of_row _ _ _ _ _ _ HR7.out]; rfl }; have zf0 := frozen_of_row _ _ 0 _ 56 HR7.out; have zf1 := frozen_of_row _ _ 1 _ 56 HR7.out; have zf2 := frozen_of_row _ _ 2 _ 56 HR7.out; clear q7 HAT HU1 HU2 u0))
  refine bodyPost_ret (results_row_tmp (p := 4) (u := 5) rfl _ _ w.heap.size 56 #[.int .i64 x.1, .int .i64 x.2.1, .int .i64 x.2.2] (0, 0) _ (by kernel_rfl) (set3 HR7.out _ _ _) Try.underlying56 rfl (by kernel_rfl)) rfl ⟨rfl, ((HT7.out.set HLT.out 0 _).set HLT.out 1 _).set HLT.out 2 _⟩
end Go.Proofs.Ytcdmkbjibcahcab
