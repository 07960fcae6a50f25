import Derived.Test.YtlkccencilhacaaALog7
namespace Go.Proofs.Ytlkccencilhacaa
open Go.RowKit Go.Sort
set_option linter.unusedVariables false
set_option linter.unusedSimpArgs false
set_option maxRecDepth 20000

theorem results_row {P : Program} {fn : Func} {p : Tmp} {ty : TypeId} (h : fn.results = #[.cell p ty]) (tmps : Array Value) (w : World) (g : Nat) (t : TypeId) (cs : Array Value) (fr : Nat × Nat) (d : TypeDesc)
    (hp : tmps.getD p undef = .pointer (some ⟨g, 0, none⟩)) (hg : w.heap[g]? = some (.cells cs t fr))
    (hu : P.underlying ty = some d) (hd : (match d with | .struct _ | .array _ _ => true | _ => false) = true) (hi : (P.info? ty).map (·.size) = some cs.size) :
    (results fn tmps).run P w = .ok (.agg cs) w := by
  have hp' : tmps[p]?.getD undef = .pointer (some ⟨g, 0, none⟩) := by simpa using hp
  simp [results, h, hp', asAddr, run_loadVar_row w g t ty cs fr d hg hu hd hi]
theorem wp_store_rowN {P : Program} {o : Oper} {a : Act} {w : World} {K : Act → World → Prop} {Q : Exit → Act → World → Prop} (ty : TypeId) (x y : Operand) (ho : o.op = .store ty x y) (hd : o.dst = none)
    (g : Nat) (cells : Array Value) (hx : a.eval x = .pointer (some ⟨g, 0, none⟩)) (hy : a.eval y = .agg cells)
    (t : TypeId) (old : Array Value) (hg : w.heap[g]? = some (.cells old t (0, 0))) (hi : (P.info? ty).map (·.size) = some cells.size)
    (hold : old.size = cells.size) (h1 : cells.all (·.oneCell') = true)
    (h : K a (w.setRow g cells)) : o.wp P a w K Q := wp_store_row ty x y ho g cells hx hy t old hg hi hold h1 (by rw [hd]; exact h)
theorem recSize : (Try.prog.info? 90).map (·.size) = some 11 := by kernel_rfl
/-- what record says -/
def recA (num age slots : Nat) (c0 c1 c2 : Int) (start : Nat) (C : List Int) : Array Value := #[.int .u32 (num : Int), .int .i64 (age : Int), .int .i64 (slots : Int), .int .i64 c0, .int .i64 c1, .int .i64 c2, .int .i64 (start : Int), .int .i64 (C.getD 0 0), .int .i64 (C.getD 1 0), .int .i64 (C.getD 2 0), .int .i64 (C.getD 3 0)]
/-- the four of the row from start, going round -/
def ctxL (zs : List Int) (start : Nat) : List Int := (List.range 4).map fun i => zs.getD ((start + i) % zs.length) 0
theorem ctxL_of {zs C : List Int} {start : Nat} (h1 : 1 ≤ zs.length) (hl : C.length = 4) (h : ∀ i, i < 4 → C[i]? = zs[(start + i) % zs.length]?) : C = ctxL zs start := by
  refine List.ext_getElem? fun i => ?_
  by_cases hi : i < 4
  · rw [h i hi]
    have hm : (start + i) % zs.length < zs.length := Nat.mod_lt _ (by omega)
    simp [ctxL, hi, List.getD, hm]
  · rw [List.getElem?_eq_none (by omega), List.getElem?_eq_none (by simp [ctxL]; omega)]
def rowL (S : LS) : List Int := S.ks ++ List.replicate (S.slots - S.ks.length) (-1)
theorem rowL_len {S : LS} {M : Nat} (h : S.Ok M) : (rowL S).length = S.slots := by
  have := h.kl
  simp [rowL]; omega
set_option maxHeartbeats 2000000 in
theorem record_any {w : World} {lp p bm M : Nat} {kv rv iv : Value} {S : LS} {ext size first written : Nat} (h : LgR w lp p bm kv rv iv S ext size first written) (hS : S.Ok M) (hw : written ≤ 1000000000000000) (c0 c1 c2 : Int) :
    Calls Try.prog 49 #[.pointer (some ⟨lp, 0, none⟩), .agg #[.int .i64 c0, .int .i64 c1, .int .i64 c2]] w fun e w' => e = .returned (.agg (recA ((first + written) % 4294967296) (min written 65535) S.slots c0 c1 c2 (written * 4 % S.slots) (ctxL (rowL S) (written * 4 % S.slots)))) ∧ Below w.heap.size w w' := by
  have hs1 := hS.s1
  have hs2 := hS.s2
  have HR0 : Hid (RcR w ((w.alloc (.cells #[.int .i64 c0, .int .i64 c1, .int .i64 c2] 48)).alloc (.cells zrec 90)) lp p bm kv rv iv S ext size first written c0 c1 c2) := hide (by
    have hb := ((Below.refl w.heap.size w).alloc (Nat.le_refl _) (.cells #[.int .i64 c0, .int .i64 c1, .int .i64 c2] 48)).alloc (by simp) (.cells zrec 90)
    refine ⟨h.below hb, ?_, ?_, hb⟩
    · rw [Below.heap_alloc _ _ _ (by simp)]; exact Go.heap_alloc_new _ _
    · have := Go.heap_alloc_new (w.alloc (.cells #[.int .i64 c0, .int .i64 c1, .int .i64 c2] 48)) (.cells zrec 90)
      rw [World.size_alloc] at this
      exact this)
  have HSL : Hid (∀ x, RcR w x lp p bm kv rv iv S ext size first written c0 c1 c2 → _) := hide fun x (hx : RcR w x lp p bm kv rv iv S ext size first written c0 c1 c2) => slots_any hx.lg hS
  have HNB : Hid (∀ x, RcR w x lp p bm kv rv iv S ext size first written c0 c1 c2 → _) := hide fun x (hx : RcR w x lp p bm kv rv iv S ext size first written c0 c1 c2) => number_any hx.lg (by omega)
  have HLP := hide (h.lt lp (.inl rfl))
  clear h hS
  go_enter Try.func49, Try.ntmps49
  go_wp2_with (first
    | (go_at_call 25; refine (HSL.out _ HR0.out).mono ?_; rintro e w1 ⟨zs, hz1, rfl, hz2, hz3, hz4⟩; have HZ := hide (And.intro hz1 (And.intro hz2 hz3)); have HR1 := hide (HR0.out.below hz4); have d4 : w1.cell? ⟨lp, 4, none⟩ = some (.int .i64 (written : Int)) := HR1.out.lg.c 4; clear hz1 hz2 hz3 hz4 HSL HR0))
  have e0 : w1.cell? ⟨w.heap.size, 0, none⟩ = some (.int .i64 c0) := cell_of_row _ _ _ _ _ _ HR1.out.ch
  have e1 : w1.cell? ⟨w.heap.size, 1, none⟩ = some (.int .i64 c1) := cell_of_row _ _ _ _ _ _ HR1.out.ch
  have e2 : w1.cell? ⟨w.heap.size, 2, none⟩ = some (.int .i64 c2) := cell_of_row _ _ _ _ _ _ HR1.out.ch
  have hsta : (written : Int) * 4 % (S.slots : Int) = ((written * 4 % S.slots : Nat) : Int) := by simp
  have HCX : Hid (∀ x, Below w1.heap.size w1 x → Calls Try.prog 78 #[.slice (some ⟨w.heap.size + 1 + 1, 0, none⟩) S.slots S.slots, .int .i64 ((written * 4 % S.slots : Nat) : Int)] x fun e w' => e = .returned (.agg (ints (ctxL (rowL S) (written * 4 % S.slots)))) ∧ Below x.heap.size x w') := hide fun x hx => by
    obtain ⟨hz1, hz2, hz3⟩ := HZ.out
    have hz2' : w1.heap[w.heap.size + 1 + 1]? = some (.cells (ints zs) 3 (0, 0)) := by simpa using hz2
    have hx2 := (hx.block _ (Array.getElem?_eq_some_iff.1 hz2').1).trans hz2'
    have hzr : zs = rowL S := hz3
    rw [← hz1]
    refine (ctx_any hx2 (by omega) (by omega) (Nat.mod_lt _ (by omega))).mono ?_
    rintro e w' ⟨C, rfl, hC, hi, hb⟩
    rw [← hzr, ctxL_of (by omega) hC hi]
    exact ⟨rfl, hb⟩
  have HST : Hid (∀ x, Below w1.heap.size w1 x → RcR w x lp p bm kv rv iv S ext size first written c0 c1 c2) := hide fun x hx => HR1.out.below hx
  have HAR : Hid (ints (ctxL (rowL S) (written * 4 % S.slots)) = #[.int .i64 ((ctxL (rowL S) (written * 4 % S.slots)).getD 0 0), .int .i64 ((ctxL (rowL S) (written * 4 % S.slots)).getD 1 0), .int .i64 ((ctxL (rowL S) (written * 4 % S.slots)).getD 2 0), .int .i64 ((ctxL (rowL S) (written * 4 % S.slots)).getD 3 0)]) := hide (by unfold ctxL; rfl)
  have HMN : Hid ((if (written : Int) < 65535 then (written : Int) else 65535) = ((min written 65535 : Nat) : Int)) := hide (by split <;> omega)
  rw [hsta]
  rw [HAR.out] at HCX
  have HCX := HCX
  clear HZ hsta HAR
  generalize hA0 : (ctxL (rowL S) (written * 4 % S.slots)).getD 0 0 = a0 at HCX
  generalize hA1 : (ctxL (rowL S) (written * 4 % S.slots)).getD 1 0 = a1 at HCX
  generalize hA2 : (ctxL (rowL S) (written * 4 % S.slots)).getD 2 0 = a2 at HCX
  generalize hA3 : (ctxL (rowL S) (written * 4 % S.slots)).getD 3 0 = a3 at HCX
  generalize hSTA : written * 4 % S.slots = sta at HCX hA0 hA1 hA2 hA3 ⊢
  generalize hNU : (first + written) % 4294967296 = nu at HNB
  have HAE := hide (And.intro hA0 (And.intro hA1 (And.intro hA2 (And.intro hA3 (And.intro hSTA hNU)))))
  clear hA0 hA1 hA2 hA3 hSTA hNU
  have hb0 : Below w1.heap.size w1 w1.drew := (Below.refl _ _).drew
  refine wp_region_held_drew (S := fun w' => w'.cell? ⟨lp, 4, none⟩ = some (.int .i64 (written : Int)) ∧ w'.cell? ⟨w.heap.size, 0, none⟩ = some (.int .i64 c0) ∧ w'.cell? ⟨w.heap.size, 1, none⟩ = some (.int .i64 c1) ∧ w'.cell? ⟨w.heap.size, 2, none⟩ = some (.int .i64 c2)) (by kernel_rfl) ⟨d4, e0, e1, e2⟩ (fun hHeld => ?_)
  refine wpAnyH_take (i := 0) (v := ?v1) rfl (by kernel_rfl) (by kernel_rfl) (by kernel_rfl) (fun _ _ _ h => h) (Or.inl ⟨by rfl, ?h1⟩) hHeld ?r1
  case h1 => intro w' hSw; obtain ⟨hs4, hs0, hs1, hs2⟩ := hSw; go_simp; (try with_reducible rfl)
  (try simp only [Act.put, List.setIfInBounds_toArray, List.set_cons_zero, List.set_cons_succ])
  refine wpAnyH_take (i := 2) (v := ?v2) rfl (by kernel_rfl) (by kernel_rfl) (by kernel_rfl) (fun _ _ _ h => h) (Or.inl ⟨by rfl, ?h2⟩) hHeld ?r2
  case h2 => intro w' hSw; obtain ⟨hs4, hs0, hs1, hs2⟩ := hSw; go_simp; (try with_reducible rfl)
  (try simp only [Act.put, List.setIfInBounds_toArray, List.set_cons_zero, List.set_cons_succ])
  refine wpAnyH_take (i := 3) (v := ?v3) rfl (by kernel_rfl) (by kernel_rfl) (by kernel_rfl) (fun _ _ _ h => h) (Or.inl ⟨by rfl, ?h3⟩) hHeld ?r3
  case h3 => intro w' hSw; obtain ⟨hs4, hs0, hs1, hs2⟩ := hSw; go_simp; (try with_reducible rfl)
  (try simp only [Act.put, List.setIfInBounds_toArray, List.set_cons_zero, List.set_cons_succ])
  refine wpAnyH_take (i := 4) (v := ?v4) rfl (by kernel_rfl) (by kernel_rfl) (by kernel_rfl) (fun _ _ _ h => h) (Or.inl ⟨by rfl, ?h4⟩) hHeld ?r4
  case h4 => intro w' hSw; obtain ⟨hs4, hs0, hs1, hs2⟩ := hSw; go_simp; (try with_reducible rfl)
  (try simp only [Act.put, List.setIfInBounds_toArray, List.set_cons_zero, List.set_cons_succ])
  refine wpAnyH_take (i := 5) (v := ?v5) rfl (by kernel_rfl) (by kernel_rfl) (by kernel_rfl) (fun _ _ _ h => h) (Or.inl ⟨by rfl, ?h5⟩) hHeld ?r5
  case h5 => intro w' hSw; obtain ⟨hs4, hs0, hs1, hs2⟩ := hSw; go_simp; (try with_reducible rfl)
  (try simp only [Act.put, List.setIfInBounds_toArray, List.set_cons_zero, List.set_cons_succ])
  refine wpAnyH_take (i := 6) (v := ?v6) rfl (by kernel_rfl) (by kernel_rfl) (by kernel_rfl) (fun _ _ _ h => h) (Or.inl ⟨by rfl, ?h6⟩) hHeld ?r6
  case h6 => intro w' hSw; obtain ⟨hs4, hs0, hs1, hs2⟩ := hSw; go_simp; (try with_reducible rfl)
  (try simp only [Act.put, List.setIfInBounds_toArray, List.set_cons_zero, List.set_cons_succ])
  refine wpAnyH_take (i := 7) (v := ?v7) rfl (by kernel_rfl) (by kernel_rfl) (by kernel_rfl) (fun _ _ _ h => h) (Or.inl ⟨by rfl, ?h7⟩) hHeld ?r7
  case h7 => intro w' hSw; obtain ⟨hs4, hs0, hs1, hs2⟩ := hSw; go_simp; (try with_reducible rfl)
  (try simp only [Act.put, List.setIfInBounds_toArray, List.set_cons_zero, List.set_cons_succ])
  refine wpAnyH_take (i := 8) (v := ?v8) rfl (by kernel_rfl) (by kernel_rfl) (by kernel_rfl) (fun _ _ _ h => h) (Or.inl ⟨by rfl, ?h8⟩) hHeld ?r8
  case h8 => intro w' hSw; obtain ⟨hs4, hs0, hs1, hs2⟩ := hSw; go_simp; (try with_reducible rfl)
  (try simp only [Act.put, List.setIfInBounds_toArray, List.set_cons_zero, List.set_cons_succ])
  refine wpAnyH_take (i := 9) (v := ?v9) rfl (by kernel_rfl) (by kernel_rfl) (by kernel_rfl) (fun _ _ _ h => h) (Or.inl ⟨by rfl, ?h9⟩) hHeld ?r9
  case h9 => intro w' hSw; obtain ⟨hs4, hs0, hs1, hs2⟩ := hSw; go_simp; (try with_reducible rfl)
  (try simp only [Act.put, List.setIfInBounds_toArray, List.set_cons_zero, List.set_cons_succ])
  refine wpAnyH_take (i := 10) (v := ?v10) rfl (by kernel_rfl) (by kernel_rfl) (by kernel_rfl) (fun _ _ _ h => h) (Or.inl ⟨by rfl, ?h10⟩) hHeld ?r10
  case h10 => intro w' hSw; obtain ⟨hs4, hs0, hs1, hs2⟩ := hSw; go_simp; (try with_reducible rfl)
  (try simp only [Act.put, List.setIfInBounds_toArray, List.set_cons_zero, List.set_cons_succ])
  refine wpAnyH_take (i := 11) (v := ?v11) rfl (by kernel_rfl) (by kernel_rfl) (by kernel_rfl) (fun _ _ _ h => h) (Or.inl ⟨by rfl, ?h11⟩) hHeld ?r11
  case h11 => intro w' hSw; obtain ⟨hs4, hs0, hs1, hs2⟩ := hSw; go_simp; (try with_reducible rfl)
  (try simp only [Act.put, List.setIfInBounds_toArray, List.set_cons_zero, List.set_cons_succ])
  refine wpAnyH_take (i := 12) (v := ?v12) rfl (by kernel_rfl) (by kernel_rfl) (by kernel_rfl) (fun _ _ _ h => h) (Or.inl ⟨by rfl, ?h12⟩) hHeld ?r12
  case h12 => intro w' hSw; obtain ⟨hs4, hs0, hs1, hs2⟩ := hSw; go_simp; (try with_reducible rfl)
  (try simp only [Act.put, List.setIfInBounds_toArray, List.set_cons_zero, List.set_cons_succ])
  refine wpAnyH_ready (rs := [1]) (by kernel_rfl) (by simp) ?_
  refine AllReadyH.cons rfl (fun K hK => ?_) AllReadyH.nil
  go_simp
  refine (HNB.out _ (HST.out _ hb0)).mono ?_
  rintro e w2 ⟨rfl, hq⟩
  have hb2 := hb0.trans (hq.2.mono hb0.size)
  have hr2 := HST.out _ hb2
  have y4 : w2.cell? ⟨lp, 4, none⟩ = some (.int .i64 (written : Int)) := hr2.lg.c 4
  have y0 : w2.cell? ⟨w.heap.size, 0, none⟩ = some (.int .i64 c0) := cell_of_row _ _ _ _ _ _ hr2.ch
  have y1 : w2.cell? ⟨w.heap.size, 1, none⟩ = some (.int .i64 c1) := cell_of_row _ _ _ _ _ _ hr2.ch
  have y2 : w2.cell? ⟨w.heap.size, 2, none⟩ = some (.int .i64 c2) := cell_of_row _ _ _ _ _ _ hr2.ch
  refine hK.out _ _ ⟨y4, y0, y1, y2⟩ (fun hHeld => ?_)
  clear hK K y4 y0 y1 y2 hr2 hq
  (try simp only [Act.put, List.setIfInBounds_toArray, List.set_cons_zero, List.set_cons_succ])
  refine wpAnyH_ready (rs := [13]) (by kernel_rfl) (by simp) ?_
  refine AllReadyH.cons rfl (fun K hK => ?_) AllReadyH.nil
  go_simp
  refine (HCX.out _ hb2).mono ?_
  rintro e w3 ⟨rfl, hq⟩
  have hb3 := hb2.trans (hq.mono hb2.size)
  have hr2 := HST.out _ hb3
  have y4 : w3.cell? ⟨lp, 4, none⟩ = some (.int .i64 (written : Int)) := hr2.lg.c 4
  have y0 : w3.cell? ⟨w.heap.size, 0, none⟩ = some (.int .i64 c0) := cell_of_row _ _ _ _ _ _ hr2.ch
  have y1 : w3.cell? ⟨w.heap.size, 1, none⟩ = some (.int .i64 c1) := cell_of_row _ _ _ _ _ _ hr2.ch
  have y2 : w3.cell? ⟨w.heap.size, 2, none⟩ = some (.int .i64 c2) := cell_of_row _ _ _ _ _ _ hr2.ch
  refine hK.out _ _ ⟨y4, y0, y1, y2⟩ (fun hHeld => ?_)
  clear hK K y4 y0 y1 y2 hq
  (try simp only [Act.put, List.setIfInBounds_toArray, List.set_cons_zero, List.set_cons_succ])
  refine wpAnyH_take (i := 14) (oi := { dst := some 31, op := Op.build 90 #[(0, Operand.tmp 18), (1, Operand.tmp 23), (2, Operand.tmp 25), (3, Operand.tmp 26), (4, Operand.tmp 27), (5, Operand.tmp 30)], type := 90, pos := "actlog.go:63", after := #[{ on := 1, ground := Ground.data }, { on := 6, ground := Ground.data }, { on := 8, ground := Ground.data }, { on := 9, ground := Ground.data }, { on := 10, ground := Ground.data }, { on := 13, ground := Ground.data }], guard := none }) (v := ?v13) rfl (by kernel_rfl) (by kernel_rfl) (by kernel_rfl) (fun _ _ _ h => h) (Or.inl ⟨by rfl, ?h13⟩) hHeld ?r13
  case h13 => intro w' hSw; obtain ⟨hs4, hs0, hs1, hs2⟩ := hSw; go_simp; (try with_reducible rfl)
  (try simp only [Act.put, List.setIfInBounds_toArray, List.set_cons_zero, List.set_cons_succ])
  refine wpAnyH_ready (rs := [15]) (by kernel_rfl) (by simp) ?_
  refine AllReadyH.cons rfl (fun K hK => ?_) AllReadyH.nil
  rw [if_pos (by rfl)]
  refine wp_store_rowN 90 (.tmp 4) (.tmp 31) rfl rfl (w.heap.size + 1) #[.int .u32 (nu : Int), .int .i64 (min (written : Int) 65535), .int .i64 (S.slots : Int), .int .i64 c0, .int .i64 c1, .int .i64 c2, .int .i64 (sta : Int), .int .i64 a0, .int .i64 a1, .int .i64 a2, .int .i64 a3] (by rfl) (by rfl) 90 zrec hr2.re recSize rfl (by first | kernel_rfl | simp [Value.oneCell']) ?_
  have hlp := HLP.out
  have q4 := (cell_setRow_other w3 (w.heap.size + 1) #[.int .u32 (nu : Int), .int .i64 (min (written : Int) 65535), .int .i64 (S.slots : Int), .int .i64 c0, .int .i64 c1, .int .i64 c2, .int .i64 (sta : Int), .int .i64 a0, .int .i64 a1, .int .i64 a2, .int .i64 a3] ⟨lp, 4, none⟩ (by show lp ≠ w.heap.size + 1; omega)).trans hHeld.1
  have qq : ∀ i : Nat, (w3.setRow (w.heap.size + 1) #[.int .u32 (nu : Int), .int .i64 (min (written : Int) 65535), .int .i64 (S.slots : Int), .int .i64 c0, .int .i64 c1, .int .i64 c2, .int .i64 (sta : Int), .int .i64 a0, .int .i64 a1, .int .i64 a2, .int .i64 a3]).cell? ⟨w.heap.size, i, none⟩ = w3.cell? ⟨w.heap.size, i, none⟩ := fun i => cell_setRow_other w3 (w.heap.size + 1) _ ⟨w.heap.size, i, none⟩ (by show w.heap.size ≠ w.heap.size + 1; omega)
  have hrow := setRow_heap w3 (w.heap.size + 1) zrec #[.int .u32 (nu : Int), .int .i64 (min (written : Int) 65535), .int .i64 (S.slots : Int), .int .i64 c0, .int .i64 c1, .int .i64 c2, .int .i64 (sta : Int), .int .i64 a0, .int .i64 a1, .int .i64 a2, .int .i64 a3] 90 (0, 0) hr2.re
  have hbF : Below w.heap.size w (w3.setRow (w.heap.size + 1) #[.int .u32 (nu : Int), .int .i64 (min (written : Int) 65535), .int .i64 (S.slots : Int), .int .i64 c0, .int .i64 c1, .int .i64 c2, .int .i64 (sta : Int), .int .i64 a0, .int .i64 a1, .int .i64 a2, .int .i64 a3]) := hr2.be.trans ⟨rfl, rfl, rfl, Nat.le_of_eq (setRow_size ..).symm, fun k hk => setRow_other _ _ _ _ (by omega)⟩
  refine hK.out _ _ ⟨q4, (qq 0).trans hHeld.2.1, (qq 1).trans hHeld.2.2.1, (qq 2).trans hHeld.2.2.2⟩ (fun hHeld => ?_)
  clear hK K
  refine wpAnyH_done (by kernel_rfl) ?_ _
  generalize w3.setRow (w.heap.size + 1) _ = wF at *
  clear qq q4 hHeld hr2 hb0 hb2 hb3 d4 e0 e1 e2 HNB HCX HST HR1 HMN
  have HROW := hide hrow
  have HBF := hide hbF
  clear hrow hbF
  go_wp2_with fail

  refine bodyPost_ret (results_row (fn := Try.f49) (p := 4) (ty := 90) (by kernel_rfl) _ _ (w.heap.size + 1) 90 _ (0, 0) _ rfl HROW.out Try.underlying90 rfl recSize) rfl ⟨?_, HBF.out⟩
  obtain ⟨hA0, hA1, hA2, hA3, hSTA, hNU⟩ := HAE.out
  unfold recA
  rw [hNU, hSTA, hA0, hA1, hA2, hA3]
  have : min (written : Int) 65535 = ((min written 65535 : Nat) : Int) := by omega
  rw [this]
end Go.Proofs.Ytlkccencilhacaa
