import Derived.Test.YtdjdcpldofmdjaaCPs
namespace Go.Proofs.Ytdjdcpldofmdjaa
open Go.RowKit
set_option linter.unusedVariables false
set_option linter.unusedSimpArgs false
set_option maxRecDepth 20000

theorem results_row_tmp2 {P : Program} {fn : Func} {p u v : Tmp} {ty : TypeId} (h : fn.results = #[.cell p ty, .tmp u, .tmp v]) (tmps : Array Value) (w : World) (g : Nat) (t : TypeId) (cs : Array Value) (fr : Nat × Nat) (d : TypeDesc)
    (hp : tmps.getD p undef = .pointer (some ⟨g, 0, none⟩)) (hg : w.heap[g]? = some (.cells cs t fr))
    (hu : P.underlying ty = some d) (hd : (match d with | .struct _ | .array _ _ => true | _ => false) = true) (hi : (P.info? ty).map (·.size) = some cs.size) :
    (results fn tmps).run P w = .ok (.tuple #[.agg cs, tmps.getD u undef, tmps.getD v undef]) w := by
  have hp' : tmps[p]?.getD undef = .pointer (some ⟨g, 0, none⟩) := by simpa using hp
  simp [results, h, hp', asAddr, run_loadVar_row w g t ty cs fr d hg hu hd hi]
def inv (vs : List Int) : Array Value := (vs.map fun x => Value.int .i64 x).toArray
theorem inv_size {vs : List Int} (h : vs.length = 15) : (Try.prog.info? 23).map (·.size) = some (inv vs).size := by
  have e : (inv vs).size = 15 := by simp [inv, h]
  have h15 : (Try.prog.info? 23).map (fun i => i.size) = some 15 := by kernel_rfl
  rw [h15, e]
theorem inv_one (vs : List Int) : (inv vs).all (·.oneCell') = true := by
  simp [inv, Value.oneCell']
/-- what ParseStatus answers of what the fifteen parts answered -/
def psR (n : Nat) (R : List Int × Nat × Bool) : List Int × Nat × Nat := if R.2.2 = true ∧ ¬ R.2.1 < n then (R.1, 0, 0) else (zS, R.2.1, 126)
def PsP (w : World) (q : List Int × Nat × Nat) (e : Ending) (w' : World) : Prop := e = .returned (.tuple #[.agg (inv q.1), .int .i64 (q.2.1 : Nat), .int .i64 (q.2.2 : Nat)]) ∧ Below w.heap.size w w'
theorem setRow_bel {w W : World} {N : Nat} {cs : Array Value} (h : Below N w W) : Below N w (W.setRow N cs) := ⟨h.os, h.tape, h.output, by have := h.size; simpa [World.setRow] using this, fun c hc => (setRow_other W N c cs (by omega)).trans (h.block c hc)⟩
set_option maxHeartbeats 2000000 in
theorem parse_any (t : ByteArray) (w : World) (ht : t.size ≤ maxLen) : Calls Try.prog 9 #[.string t] w (PsP w (psR t.size (pAll (tx t) 15 0 0 zS))) := by
  have HT := hide ht
  unfold maxLen at ht
  obtain ⟨R, hR⟩ : ∃ R, pAll (tx t) 15 0 0 zS = R := ⟨_, rfl⟩
  rw [hR]
  have HR := hide hR
  clear hR
  obtain ⟨w0, hw0⟩ : ∃ w0, (w.alloc (Obj.cells (zS.map fun x => Value.int .i64 x).toArray 23)).alloc (Obj.cells (zS.map fun x => Value.int .i64 x).toArray 23) = w0 := ⟨_, rfl⟩
  have hw0' := hw0
  simp only [zS, List.replicate, List.map_cons, List.map_nil] at hw0'
  have HW0 := hide hw0'
  have hs0 : w0.heap.size = w.heap.size + 2 := by rw [← hw0]; simp
  have hb0 : Below w.heap.size w w0 := by rw [← hw0]; exact ((Below.refl _ _).alloc (Nat.le_refl _) _).alloc (by simp) _
  have q0 : Ints w0 w.heap.size zS := by unfold Ints; rw [← hw0, Below.heap_alloc _ _ _ (by simp)]; exact Go.heap_alloc_new w _
  have q1 : Ints w0 (w.heap.size + 1) zS := by unfold Ints; rw [← hw0]; have := Go.heap_alloc_new (w.alloc (Obj.cells (zS.map fun x => Value.int .i64 x).toArray 23)) (Obj.cells (zS.map fun x => Value.int .i64 x).toArray 23); rwa [World.size_alloc] at this
  have HQ : Hid (∀ w1 g, Below w0.heap.size w0 w1 → PtL w1 (.slice (some ⟨g, 0, none⟩) 15 15) (w.heap.size + 1) → PI w w1 w.heap.size g zS) := hide fun w1 g hb hl => ⟨rfl, q1.below hb, q0.below hb, hl, hb0.trans (hb.mono hb0.size)⟩
  clear hw0 hw0' q0 q1 hb0
  go_enter Try.func9, Try.ntmps9
  go_wp2_with (go_at_call 18; rw [HW0.out]; refine (partsOf_any _ _).mono ?_; rintro e w1 ⟨v, rfl, hL1, hB1⟩; have hL2 := hL1; obtain ⟨g, ev, -⟩ := hL1; subst ev; have HP1 := hide (HQ.out w1 g hB1 hL2); clear hB1 hL2 HQ)
  generalize hN : w.heap.size = N at *
  have HNN := hide hN
  clear hN
  go_loopw [6, 13] (fun z y wr => ∃ (i at_ : Nat) (vs : List Int), i ≤ 15 ∧ at_ ≤ t.size ∧ z = .int .i64 (at_ : Int) ∧ y = .int .i64 (i : Int) ∧ PI w wr N g vs ∧ Hid (R = pAll (tx t) (15 - i) i at_ vs)) (fun _ y _ => 15 - (intOf y).toNat)
  case atStart => exact ⟨0, 0, zS, by omega, by omega, rfl, rfl, HP1.out, hide HR.out.symm⟩
  case round =>
    obtain ⟨i, at_, vs, hi, hat, rfl, rfl, hP, H⟩ := hrel
    have HP := hide hP
    clear HP1 HR
    by_cases hlt : i < 15
    · obtain ⟨g', eg, hpt⟩ := hP.ptl
      cases eg
      obtain ⟨c1, x, c2, hx⟩ := hpt i hlt
      have hxs : ∃ ty a, x = .iface ty a := by
        cases hd : kindsL.getD i none with
        | none => rw [hd] at hx; exact ⟨_, _, hx⟩
        | some ns => rw [hd] at hx; obtain ⟨u, -, e⟩ := hx; exact ⟨_, _, e⟩
      have HX := hide hx
      obtain ⟨ty, a, rfl⟩ := hxs
      have hii : 0 ≤ (i : Int) ∧ (i : Int) < (15 : Int) := ⟨by omega, by omega⟩
      have hile : (i : Int) < 15 := by omega
      have hati : (at_ : Int) ≤ (t.size : Int) := by omega
      have hsz : N + 1 < wr.heap.size := (Array.getElem?_eq_some_iff.1 hP.ints).1
      have HPA := hide (HP.out.on (by omega) ((Below.refl _ _).alloc (Nat.le_refl _) (Obj.cells #[Value.string (leadsL.getD i ⟨#[]⟩), Value.iface ty a] 46)))
      have HPT : Hid (∀ W, PI w W N g vs → PtV W (N + 1) i (kindsL.getD i none) (.iface ty a) → Calls Try.prog 19 #[.agg #[.string (leadsL.getD i ⟨#[]⟩), .iface ty a], .string (t.extract at_ t.size)] W fun e w' => e = .returned (.tuple #[.int .i64 ((pOne i ((tx t).drop at_)).1 : Nat), .bool (pOne i ((tx t).drop at_)).2.1]) ∧ Left W w' (N + 1) i (pOne i ((tx t).drop at_)).2.2) := hide fun W h1 h2 => by
        have := ptake_any (t.extract at_ t.size) hlt h1.len (by rw [ext_size]; have := HT.out; omega) h1.ints h2
        rw [ext_drop] at this
        exact this
      have hple := pOne_le i ((tx t).drop at_)
      rw [List.length_drop, tx_len] at hple
      have HGO := hide fun h => pAll_go (l := tx t) (at_ := at_) (vs := vs) hlt h
      have HNO := hide fun h => pAll_no (l := tx t) (at_ := at_) (vs := vs) hlt h
      generalize pOne i ((tx t).drop at_) = r at *
      obtain ⟨rl, rb, rd⟩ := r
      dsimp only at HPT hple HGO HNO
      generalize leadsL.getD i ⟨#[]⟩ = lead at *
      have HPD : Hid (PI w ((wr.alloc (Obj.cells #[Value.string lead, Value.iface ty a] 46)).drew) N g vs) := hide (HPA.out.on (by simp; omega) (Below.refl _ _).drew)
      have HXD : Hid (PtV ((wr.alloc (Obj.cells #[Value.string lead, Value.iface ty a] 46)).drew) (N + 1) i (kindsL.getD i none) (.iface ty a)) := hide (HX.out.below ((Below.refl _ _).alloc (Nat.le_refl _) _).drew)
      have HC : Hid (∀ W, Left ((wr.alloc (Obj.cells #[Value.string lead, Value.iface ty a] 46)).drew) W (N + 1) i rd → W.cell? ⟨wr.heap.size, 0, none⟩ = some (.string lead) ∧ W.cell? ⟨wr.heap.size, 1, none⟩ = some (.iface ty a)) := hide fun W hW => by
        have hb : W.heap[wr.heap.size]? = some (.cells #[Value.string lead, Value.iface ty a] 46 (0, 0)) := left_blk hW (by omega) (Go.heap_alloc_new wr _)
        exact ⟨cell_of_row _ _ _ _ _ _ hb, cell_of_row _ _ _ _ _ _ hb⟩
      have k1 : (wr.alloc (Obj.cells #[Value.string lead, Value.iface ty a] 46)).cell? ⟨wr.heap.size, 0, none⟩ = some (.string lead) := cell_of_row _ _ _ _ _ _ (Go.heap_alloc_new wr _)
      have k2 : (wr.alloc (Obj.cells #[Value.string lead, Value.iface ty a] 46)).cell? ⟨wr.heap.size, 1, none⟩ = some (.iface ty a) := cell_of_row _ _ _ _ _ _ (Go.heap_alloc_new wr _)
      clear hP hpt hx HX HPA
      go_wp2_with fail
      generalize hWA : wr.alloc (Obj.cells #[Value.string lead, Value.iface ty a] 46) = WA at *
      clear hWA
      go_region_held3 (fun w' => w'.cell? ⟨wr.heap.size, 0, none⟩ = some (.string lead) ∧ w'.cell? ⟨wr.heap.size, 1, none⟩ = some (.iface ty a)) (first | assumption | (constructor <;> assumption) | go_keep)
        (first | (go_at_call 19; refine (HPT.out _ HPD.out HXD.out).mono ?_; rintro e w8 ⟨rfl, h8⟩; obtain ⟨c8, c9⟩ := HC.out _ h8; have H8 := hide h8; clear h8))
      cases rb with
      | true =>
        go_wp2_with fail
        go_roundw
        case rel => exact ⟨i + 1, at_ + rl, putO vs i rd, by omega, by omega, by go_num, by go_num, HPD.out.left HNN.out H8.out, hide (by rw [H.out]; exact HGO.out rfl)⟩
        case measure => simp [intOf]; omega
      | false =>
        have H2 : Hid (R = (vs, at_ + rl, false)) := hide (by rw [H.out]; exact HNO.out rfl)
        have HP8 := hide (HPD.out.left HNN.out H8.out)
        clear H HGO HNO
        go_wp2_with (refine wpList_store_row rfl 23 (.tmp 2) _ rfl N (inv zS) rfl rfl 23 (inv zS) HP8.out.res (inv_size rfl) rfl (inv_one zS) ?_)
        have k9 := setRow_heap w8 N (inv zS) (inv zS) 23 (0, 0) HP8.out.res
        refine bodyPost_ret (results_row_tmp2 rfl _ _ N 23 (inv zS) (0, 0) _ rfl k9 Try.underlying23 rfl (inv_size rfl)) rfl ?_
        rw [H2.out]
        exact ⟨rfl, by rw [HNN.out]; exact setRow_bel HP8.out.bel⟩
    · have hnl : ¬ (i : Int) < 15 := by omega
      have hi15 : i = 15 := by omega
      have H2 : Hid (R = (vs, at_, true)) := hide (by rw [H.out, hi15]; rfl)
      clear H hi15
      by_cases hend : at_ < t.size
      · have hendi : (at_ : Int) < (t.size : Int) := by omega
        have HE := hide hend
        go_wp2_with (refine wpList_store_row rfl 23 (.tmp 2) _ rfl N (inv zS) rfl rfl 23 (inv zS) HP.out.res (inv_size rfl) rfl (inv_one zS) ?_)
        have k9 := setRow_heap wr N (inv zS) (inv zS) 23 (0, 0) HP.out.res
        refine bodyPost_ret (results_row_tmp2 rfl _ _ N 23 (inv zS) (0, 0) _ rfl k9 Try.underlying23 rfl (inv_size rfl)) rfl ?_
        rw [H2.out]
        unfold psR
        rw [if_neg (by simp; exact HE.out)]
        exact ⟨rfl, by rw [HNN.out]; exact setRow_bel HP.out.bel⟩
      · have hendi : ¬ (at_ : Int) < (t.size : Int) := by omega
        have HE := hide hend
        go_wp2_with (first
          | (refine wpList_load_row rfl 23 _ rfl (N + 1) rfl 23 (inv vs) (0, 0) _ HP.out.ints Try.underlying23 rfl (inv_size HP.out.len) ?_)
          | (refine wpList_store_row rfl 23 (.tmp 2) _ rfl N (inv vs) rfl rfl 23 (inv zS) HP.out.res (inv_size HP.out.len) (by simp [inv, HP.out.len, zS]) (inv_one vs) ?_))
        have k9 := setRow_heap wr N (inv zS) (inv vs) 23 (0, 0) HP.out.res
        refine bodyPost_ret (results_row_tmp2 rfl _ _ N 23 (inv vs) (0, 0) _ rfl k9 Try.underlying23 rfl (inv_size HP.out.len)) rfl ?_
        rw [H2.out]
        unfold psR
        rw [if_pos ⟨rfl, HE.out⟩]
        exact ⟨rfl, by rw [HNN.out]; exact setRow_bel HP.out.bel⟩
end Go.Proofs.Ytdjdcpldofmdjaa
