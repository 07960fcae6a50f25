import Derived.Test.YtijfnacplikibabKPd
import Derived.Test.YtijfnacplikibabKAcqA
namespace Go.Proofs.Ytijfnacplikibab
open Go.RowKit
set_option linter.unusedVariables false
set_option linter.unusedSimpArgs false
set_option maxRecDepth 20000

theorem RTt.set {w w' : World} {q : Nat} {v : Value} {n room : Nat} {P : List Pc} {T T' : Nat} (h0 : RT w q v n room P T) (h : RTt w w' q v v n room P T') (b0 i : Nat) (u : Value) (hb : w.heap.size ≤ b0) : RTt w (w'.setCell ⟨b0, i, none⟩ u) q v v n room P T' :=
  ⟨h.t.kept fun g e => Go.heap_setCell_other _ _ _ _ (show g ≠ b0 from by
    rcases e with rfl | e
    · have := h0.lt; omega
    · have := h0.vlt e; omega), Chg.set h.chg b0 i u (.inr hb), h.loc⟩
/-- a place is being made: its box at w's end -/
theorem acq_box {w w2 : World} {q : Nat} {v : Value} {n room : Nat} {P : List Pc} {T : Nat} {e m o : Int} (h : RT w q v n room P T) (hb : Below (w.alloc (.cells #[.int .i64 e, .int .i64 m, .int .i64 o, .bool false, .int .i64 0] 83)).heap.size (w.alloc (.cells #[.int .i64 e, .int .i64 m, .int .i64 o, .bool false, .int .i64 0] 83)) w2) :
    RTt w w2 q v v n room P T ∧ w2.heap[w.heap.size]? = some (.cells #[.int .i64 e, .int .i64 m, .int .i64 o, .bool false, .int .i64 0] 83 (0, 0)) ∧
    RTt w (((w2.setCell ⟨q, 3, none⟩ (.int .i64 ((T : Int) + 1))).setCell ⟨w.heap.size, 3, none⟩ (.bool true)).setCell ⟨w.heap.size, 4, none⟩ (.int .i64 ((T : Int) + 1))) q v v n room P (T + 1) ∧
    (((w2.setCell ⟨q, 3, none⟩ (.int .i64 ((T : Int) + 1))).setCell ⟨w.heap.size, 3, none⟩ (.bool true)).setCell ⟨w.heap.size, 4, none⟩ (.int .i64 ((T : Int) + 1))).heap[w.heap.size]? = some (.cells #[.int .i64 e, .int .i64 m, .int .i64 o, .bool true, .int .i64 ((T : Int) + 1)] 83 (0, 0)) ∧
    ((w2.setCell ⟨q, 3, none⟩ (.int .i64 ((T : Int) + 1))).setCell ⟨w.heap.size, 3, none⟩ (.bool true)).cell? ⟨q, 3, none⟩ = some (.int .i64 ((T : Int) + 1)) ∧ ((w2.setCell ⟨q, 3, none⟩ (.int .i64 ((T : Int) + 1))).cell? ⟨w.heap.size, 3, none⟩ = some (.bool false) ∧ (w2.setCell ⟨q, 3, none⟩ (.int .i64 ((T : Int) + 1))).frozen? ⟨w.heap.size, 3, none⟩ = false) ∧ ((w2.setCell ⟨q, 3, none⟩ (.int .i64 ((T : Int) + 1))).setCell ⟨w.heap.size, 3, none⟩ (.bool true)).cell? ⟨w.heap.size, 4, none⟩ = some (.int .i64 0) ∧ ((w2.setCell ⟨q, 3, none⟩ (.int .i64 ((T : Int) + 1))).setCell ⟨w.heap.size, 3, none⟩ (.bool true)).frozen? ⟨w.heap.size, 4, none⟩ = false := by
  have b1 := below_alloc w (.cells #[.int .i64 e, .int .i64 m, .int .i64 o, .bool false, .int .i64 0] 83)
  have hs : (w.alloc (.cells #[.int .i64 e, .int .i64 m, .int .i64 o, .bool false, .int .i64 0] 83)).heap.size = w.heap.size + 1 := by simp
  have bb : Below w.heap.size w w2 := b1.trans (hb.mono b1.size)
  have r2 : RTt w w2 q v v n room P T := (RTt.refl h).below bb
  have hx : w2.heap[w.heap.size]? = some (.cells #[.int .i64 e, .int .i64 m, .int .i64 o, .bool false, .int .i64 0] 83 (0, 0)) := (hb.block _ (by omega)).trans (Go.heap_alloc_new w _)
  have hq := h.lt
  have hT : ((T + 1 : Nat) : Int) = (T : Int) + 1 := by omega
  have r3 : RTt w (w2.setCell ⟨q, 3, none⟩ (.int .i64 ((T : Int) + 1))) q v v n room P (T + 1) := by
    have := r2.trans (r2.t.setT (T + 1))
    rw [hT] at this
    exact this
  have x3 : (w2.setCell ⟨q, 3, none⟩ (.int .i64 ((T : Int) + 1))).heap[w.heap.size]? = some (.cells #[.int .i64 e, .int .i64 m, .int .i64 o, .bool false, .int .i64 0] 83 (0, 0)) := (Go.heap_setCell_other _ _ _ _ (show w.heap.size ≠ q by omega)).trans hx
  have x4 := Go.heap_setCell_same _ w.heap.size 3 _ 83 (.bool true) x3
  have x5 := Go.heap_setCell_same _ w.heap.size 4 _ 83 (.int .i64 ((T : Int) + 1)) x4
  have r4 := RTt.set h r3 w.heap.size 3 (.bool true) (Nat.le_refl _)
  have c3 := r4.t.c3
  rw [hT] at c3
  refine ⟨r2, hx, RTt.set h r4 w.heap.size 4 _ (Nat.le_refl _), x5, c3, ⟨?_, frozen_of_row _ _ _ _ 83 x3⟩, ?_, frozen_of_row _ _ _ _ 83 x4⟩
  · rw [cell_of_row _ _ _ _ _ _ x3]; rfl
  · rw [cell_of_row _ _ _ _ _ _ x4]; rfl
/-- what the document's Acquire does -/
structure RA (w w' : World) (q : Nat) (v : Value) (n room : Nat) (L' : LL) (N : Nat) : Prop where
  ex : ∃ v' P' T', RTt w w' q v v' n room P' T' ∧ Sm n L' P' T' ∧ P'.length ≤ N ∧ T' + wtN P' ≤ N
theorem wtN_held (P : List Pc) (e m o t : Int) : wtN (P ++ [⟨e, m, o, true, t⟩]) = wtN P := by unfold wtN; rw [List.countP_append]; rfl
theorem wtN_wait (P : List Pc) (e m o t : Int) : wtN (P ++ [⟨e, m, o, false, t⟩]) = wtN P + 1 := by unfold wtN; rw [List.countP_append]; rfl
theorem box5 {w : World} {g : Nat} {a b c d e : Value} {t : TypeId} (h : w.heap[g]? = some (.cells #[a, b, c, d, e] t (0, 0))) : w.cell? ⟨g, 0, none⟩ = some a ∧ w.cell? ⟨g, 1, none⟩ = some b ∧ w.cell? ⟨g, 2, none⟩ = some c ∧ w.cell? ⟨g, 3, none⟩ = some d ∧ w.cell? ⟨g, 4, none⟩ = some e := by
  refine ⟨?_, ?_, ?_, ?_, ?_⟩ <;> rw [cell_of_row _ _ _ _ _ _ h] <;> rfl
theorem cell_alloc {w : World} {a : Addr} {x : Value} (o : Obj) (h : w.cell? a = some x) : (w.alloc o).cell? a = some x := (World.cell?_of_block (Below.heap_alloc _ _ _ (World.block_lt_of_cell? w _ h))).trans h
theorem ixB_lt (f : Pc → Bool) (l : List Pc) : ixB f l < (l.length : Int) ∨ l = [] := by
  unfold ixB
  split
  · exact .inl (by omega)
  · cases l with
    | nil => exact .inr rfl
    | cons a b => exact .inl (by simp; omega)
set_option maxHeartbeats 2000000 in
theorem racq_any {w : World} {q : Nat} {v : Value} {n room : Nat} {P : List Pc} {T N : Nat} {L : LL} {wt : Int} {B : Nat} (h : RT w q v n room P T) (sm : Sm n L P T) (ok : Ok n L) (wf : WF n L (room : Int) wt B) (hl : P.length ≤ N) (ht : T + wtN P ≤ N) (hN : N ≤ 9000000) (e m o : Int) : Calls Try.prog 16 #[.pointer (some ⟨q, 0, none⟩), .int .i64 e, .int .i64 m, .int .i64 o] w fun e' w' => e' = .returned (.tuple #[.bool (acq n L (room : Int) wt e o m).gr, .int .i64 (acq n L (room : Int) wt e o m).err]) ∧ RA w w' q v n room (acq n L (room : Int) wt e o m).L (N + 1) := by
  have c0 := h.c0
  have HTH := hide (there_any w q (n : Int) e h.c0)
  have HST : Hid (RA w w q v n room L (N + 1)) := hide ⟨v, P, T, RTt.refl h, sm, by omega, by omega⟩
  unfold acq
  by_cases h1 : ¬ m = 1 ∧ ¬ m = 2
  · rw [if_pos h1]
    have e1 : (m != 1) = true := by simpa using h1.1
    have e2 : (m != 2) = true := by simpa using h1.2
    clear h sm ok wf
    go_enter Try.func16, Try.ntmps16
    go_wp2_with fail
    (try simp only [Exit.inBlock, Exit.then]); refine bodyPost_ret (results_tmp2 rfl _ _ _) rfl ?_
    exact ⟨rfl, HST.out⟩
  · rw [if_neg h1]
    have hm : m = 1 ∨ m = 2 := by omega
    have e12 : ((m != 1) = false) ∨ ((m != 1) = true ∧ (m != 2) = false) := by
      rcases hm with rfl | rfl
      · exact .inl rfl
      · exact .inr ⟨rfl, rfl⟩
    by_cases h2 : ¬ (0 ≤ e ∧ e < (n : Int))
    · rw [if_pos h2]
      have h2e : (decide (0 ≤ e) && decide (e < (n : Int))) = false := by
        rw [← Bool.not_eq_true, Bool.and_eq_true, decide_eq_true_eq, decide_eq_true_eq]
        exact h2
      rw [h2e] at HTH
      clear h sm ok wf
      rcases e12 with e1 | ⟨e1, e2⟩
      all_goals
        go_enter Try.func16, Try.ntmps16
        go_wp2_with (go_at_call 33; refine HTH.out.mono ?_; rintro e9 y1 ⟨rfl, h9⟩; have h9s := h9.symm; clear h9; subst h9s)
        (try simp only [Exit.inBlock, Exit.then]); refine bodyPost_ret (results_tmp2 rfl _ _ _) rfl ?_
        exact ⟨rfl, HST.out⟩
    · rw [if_neg h2]
      have h2 : 0 ≤ e ∧ e < (n : Int) := Classical.not_not.1 h2
      have h2e : (decide (0 ≤ e) && decide (e < (n : Int))) = true := by simp [h2]
      rw [h2e] at HTH
      obtain ⟨k, rfl⟩ : ∃ k : Nat, e = (k : Int) := ⟨e.toNat, by omega⟩
      have hk : k < n := by omega
      simp only [Int.toNat_natCast]
      have HFI := hide (rfind_any h (by omega) (k : Int) o)
      have hfi := sm.find hk o
      generalize ixB (fnd (k : Int) o) P = fi at *
      by_cases h3 : (has (L (k * 2)) o || has (L (k * 2 + 1)) o) = true
      · rw [if_pos h3]
        have h3i : fi ≥ 0 := hfi.2 h3
        clear h sm ok wf hfi h3
        rcases e12 with e1 | ⟨e1, e2⟩
        all_goals
          go_enter Try.func16, Try.ntmps16
          go_wp2_with (first
            | (go_at_call 33; refine HTH.out.mono ?_; rintro e9 y1 ⟨rfl, h9⟩; have h9s := h9.symm; clear h9; subst h9s)
            | (go_at_call 34; refine HFI.out.mono ?_; rintro e9 y1 ⟨rfl, h9⟩; have h9s := h9.symm; clear h9; subst h9s))
          (try simp only [Exit.inBlock, Exit.then]); refine bodyPost_ret (results_tmp2 rfl _ _ _) rfl ?_
          exact ⟨rfl, HST.out⟩
      · rw [if_neg h3]
        have h3i : ¬ fi ≥ 0 := fun q => h3 (hfi.1 q)
        clear hfi h3
        have o1 := ok k hk
        have hgo := sm.goes hk (fun c hc => o1.md c (List.mem_append_left _ hc)) o1.ex hm
        have hfs := sm.first hk
        have HRT := hide h
        have HSM := hide sm
        have hb1 := below_alloc w (.cells #[.int .i64 (k : Int), .int .i64 m, .int .i64 o, .bool false, .int .i64 0] 83)
        have HGO := hide (rgoes_any (h.below hb1) (by omega) (k : Int) m)
        have hcnt := sm.count
        have hsum := wf.sum
        rw [hgo] at HGO
        have c3 := h.c3
        have hwT : IntKind.i64.wrap ((T : Int) + 1) = (T : Int) + 1 := by simp [IntKind.wrap, IntKind.bits, IntKind.signed]; omega
        clear hgo hb1 h sm wf o1
        by_cases h4 : L (k * 2 + 1) = [] ∧ goesB (L (k * 2)) m = true
        · rw [if_pos h4]
          rw [h4.2] at HGO
          have hfs2 : ¬ 0 ≤ ixB (fst1 (k : Int)) P := fun q => hfs.1 q h4.1
          obtain ⟨fi2, hfe⟩ : ∃ z, ixB (fst1 (k : Int)) P = z := ⟨_, rfl⟩
          rw [hfe] at hfs2
          have HFE := hide hfe
          have hf3 : fi2 < 0 := by omega
          clear hfe hfs hfs2 h4
          rcases e12 with e1 | ⟨e1, e2⟩
          all_goals
            go_enter Try.func16, Try.ntmps16
            go_wp2_with (first
            | (go_at_call 33; refine HTH.out.mono ?_; rintro e9 y1 ⟨rfl, h9⟩; have h9s := h9.symm; clear h9; subst h9s)
            | (go_at_call 34; refine HFI.out.mono ?_; rintro e9 y1 ⟨rfl, h9⟩; have h9s := h9.symm; clear h9; subst h9s)
            | (go_at_call 35; refine HGO.out.mono ?_; rintro e9 w2 ⟨rfl, k2⟩; obtain ⟨j1, j2, j3, j4, j5, ⟨j6, j7⟩, j8, j9⟩ := acq_box HRT.out k2; have J1 := hide j1; have J2 := hide j2; have J3 := hide j3; have J4 := hide j4; have z5 := j3.t.c2; have z6 := j3.t.f 2; obtain ⟨v0, v1, v2, v3, v4⟩ := box5 j4; have z2 := j1.t.c2; have z3 := j1.t.c3; have z1 := j1.t.c1; have y3 := j1.t.f 3; have y2 := j1.t.f 2; have u0 : w2.cell? ⟨w.heap.size, 3, none⟩ = some (.bool false) := (by rw [cell_of_row _ _ _ _ _ _ j2]; rfl); have u1 : w2.cell? ⟨w.heap.size, 4, none⟩ = some (.int .i64 0) := (by rw [cell_of_row _ _ _ _ _ _ j2]; rfl); have u2 := frozen_of_row _ _ 3 _ 83 j2; have u3 := frozen_of_row _ _ 4 _ 83 j2; clear k2 j1 j2 j3 j4)
            | (go_at_call 36; refine (rfirst_any J1.out.t (by omega) (k : Int)).mono ?_; rintro e9 y1 ⟨rfl, h9⟩; have h9s := h9.symm; clear h9; subst h9s; try rw [HFE.out]))
            clear j5 j6 j7 j8 j9 u0 u1 u2 u3 z1 z2 z3 y2 y3 J1 J2 HGO HFI HTH HST
            generalize (((w2.setCell ⟨q, 3, none⟩ (.int .i64 ((T : Int) + 1))).setCell ⟨w.heap.size, 3, none⟩ (.bool true)).setCell ⟨w.heap.size, 4, none⟩ (.int .i64 ((T : Int) + 1))) = yy at *
            have HX : Hid (PRow (yy.drew.alloc (.cells #[.int .i64 (k : Int), .int .i64 m, .int .i64 o, .bool true, .int .i64 ((T : Int) + 1)] 83)) v P) := hide (rowKept J3.out.t.own fun g e => (((Below.refl _ yy).drew).alloc (Nat.le_refl _) _).block g (J3.out.t.vlt e))
            have HBY : Hid (Below yy.heap.size yy (yy.drew.alloc (.cells #[.int .i64 (k : Int), .int .i64 m, .int .i64 o, .bool true, .int .i64 ((T : Int) + 1)] 83))) := hide (((Below.refl _ yy).drew).alloc (Nat.le_refl _) _)
            have z5d := cell_alloc (.cells #[.int .i64 (k : Int), .int .i64 m, .int .i64 o, .bool true, .int .i64 ((T : Int) + 1)] 83) z5
            go_region_law (refine step_appendP rfl (.tmp 61) (.tmp 63) rfl v P rfl HX.out ⟨yy.heap.size, 0, none⟩ 1 [⟨(k : Int), m, o, true, (T : Int) + 1⟩] (by simp) rfl (new_pc yy.drew ⟨(k : Int), m, o, true, (T : Int) + 1⟩) (by simp; omega) ?_; intro v3 w3 q1 q2; obtain ⟨p1, p2, p3⟩ := J3.out.t.push HBY.out q1 q2; have HPU := hide p1; obtain ⟨va3, vc3, ve3, -, -, -⟩ := q1.form; rw [List.length_append, List.length_singleton] at ve3; subst ve3; clear q1 q2 p1)
            all_goals
              go_wp2_with fail
              (try simp only [Exit.inBlock, Exit.then]); refine bodyPost_ret (results_tmp2 rfl _ _ _) rfl ?_
              have hT : ((T + 1 : Nat) : Int) = (T : Int) + 1 := by omega
              have hsm := HSM.out.addH hk o m
              rw [hT] at hsm
              exact ⟨rfl, ⟨_, _, _, J3.out.trans HPU.out, hsm, by simp; omega, by rw [wtN_held]; omega⟩⟩
        · rw [if_neg h4]
          have HWA := hide fun (x : World) (hx : RT x q v n room P T) => rwaiting_any hx (by omega)
          have hg4 : goesB (L (k * 2)) m = false ∨ (goesB (L (k * 2)) m = true ∧ 0 ≤ ixB (fst1 (k : Int)) P) := by
            cases hg : goesB (L (k * 2)) m with
            | false => exact .inl rfl
            | true => exact .inr ⟨rfl, hfs.2 fun q => h4 ⟨q, hg⟩⟩
          obtain ⟨fi2, hfe⟩ : ∃ z, ixB (fst1 (k : Int)) P = z := ⟨_, rfl⟩
          rw [hfe] at hg4
          have HFE := hide hfe
          clear hfe hfs h4
          generalize goesB (L (k * 2)) m = gg at *
          have hwt : ((wtN P : Nat) : Int) = wt := by rw [hcnt]; exact hsum.symm
          rw [hwt] at HWA
          clear hcnt hsum hwt
          by_cases h5 : (room : Int) ≤ wt
          · rw [if_pos h5]
            have h5i : wt ≥ (room : Int) := h5
            rcases hg4 with rfl | ⟨rfl, hf3⟩
            · rcases e12 with e1 | ⟨e1, e2⟩
              all_goals
                go_enter Try.func16, Try.ntmps16
                go_wp2_with (first
                  | (go_at_call 33; refine HTH.out.mono ?_; rintro e9 y1 ⟨rfl, h9⟩; have h9s := h9.symm; clear h9; subst h9s)
                  | (go_at_call 34; refine HFI.out.mono ?_; rintro e9 y1 ⟨rfl, h9⟩; have h9s := h9.symm; clear h9; subst h9s)
                  | (go_at_call 35; refine HGO.out.mono ?_; rintro e9 w2 ⟨rfl, k2⟩; obtain ⟨j1, j2, j3, j4, j5, ⟨j6, j7⟩, j8, j9⟩ := acq_box HRT.out k2; have J1 := hide j1; have J2 := hide j2; have J3 := hide j3; have J4 := hide j4; have z5 := j3.t.c2; have z6 := j3.t.f 2; obtain ⟨v0, v1, v2, v3, v4⟩ := box5 j4; have z2 := j1.t.c2; have z3 := j1.t.c3; have z1 := j1.t.c1; have y3 := j1.t.f 3; have y2 := j1.t.f 2; have u0 : w2.cell? ⟨w.heap.size, 3, none⟩ = some (.bool false) := (by rw [cell_of_row _ _ _ _ _ _ j2]; rfl); have u1 : w2.cell? ⟨w.heap.size, 4, none⟩ = some (.int .i64 0) := (by rw [cell_of_row _ _ _ _ _ _ j2]; rfl); have u2 := frozen_of_row _ _ 3 _ 83 j2; have u3 := frozen_of_row _ _ 4 _ 83 j2; clear k2 j1 j2 j3 j4)
                  | (go_at_call 36; refine (rfirst_any J1.out.t (by omega) (k : Int)).mono ?_; rintro e9 y1 ⟨rfl, h9⟩; have h9s := h9.symm; clear h9; subst h9s; try rw [HFE.out]))
                have HJd := hide (J1.out.below (((Below.refl _ w2).drew)))
                have z1d : w2.drew.cell? ⟨q, 1, none⟩ = some (.int .i64 (room : Int)) := z1
                go_region_law (refine step_callTo rfl 30 #[.pointer (some ⟨q, 0, none⟩)] (by kernel_rfl) (HWA.out _ HJd.out.t) (fun e w' h => ⟨_, h.1⟩) ?_; rintro u9 y9 ⟨hv, h9⟩; injection hv with hv; subst hv; have h9s := h9.symm; clear h9; subst h9s)
                all_goals
                  go_wp2_with fail
                  (try simp only [Exit.inBlock, Exit.then]); refine bodyPost_ret (results_tmp2 rfl _ _ _) rfl ?_
                  exact ⟨rfl, ⟨_, _, _, HJd.out, HSM.out, by omega, by omega⟩⟩
            · have hf4 : ¬ fi2 < 0 := by omega
              rcases e12 with e1 | ⟨e1, e2⟩
              all_goals
                go_enter Try.func16, Try.ntmps16
                go_wp2_with (first
                  | (go_at_call 33; refine HTH.out.mono ?_; rintro e9 y1 ⟨rfl, h9⟩; have h9s := h9.symm; clear h9; subst h9s)
                  | (go_at_call 34; refine HFI.out.mono ?_; rintro e9 y1 ⟨rfl, h9⟩; have h9s := h9.symm; clear h9; subst h9s)
                  | (go_at_call 35; refine HGO.out.mono ?_; rintro e9 w2 ⟨rfl, k2⟩; obtain ⟨j1, j2, j3, j4, j5, ⟨j6, j7⟩, j8, j9⟩ := acq_box HRT.out k2; have J1 := hide j1; have J2 := hide j2; have J3 := hide j3; have J4 := hide j4; have z5 := j3.t.c2; have z6 := j3.t.f 2; obtain ⟨v0, v1, v2, v3, v4⟩ := box5 j4; have z2 := j1.t.c2; have z3 := j1.t.c3; have z1 := j1.t.c1; have y3 := j1.t.f 3; have y2 := j1.t.f 2; have u0 : w2.cell? ⟨w.heap.size, 3, none⟩ = some (.bool false) := (by rw [cell_of_row _ _ _ _ _ _ j2]; rfl); have u1 : w2.cell? ⟨w.heap.size, 4, none⟩ = some (.int .i64 0) := (by rw [cell_of_row _ _ _ _ _ _ j2]; rfl); have u2 := frozen_of_row _ _ 3 _ 83 j2; have u3 := frozen_of_row _ _ 4 _ 83 j2; clear k2 j1 j2 j3 j4)
                  | (go_at_call 36; refine (rfirst_any J1.out.t (by omega) (k : Int)).mono ?_; rintro e9 y1 ⟨rfl, h9⟩; have h9s := h9.symm; clear h9; subst h9s; try rw [HFE.out]))
                have HJd := hide (J1.out.below (((Below.refl _ w2).drew)))
                have z1d : w2.drew.cell? ⟨q, 1, none⟩ = some (.int .i64 (room : Int)) := z1
                go_region_law (refine step_callTo rfl 30 #[.pointer (some ⟨q, 0, none⟩)] (by kernel_rfl) (HWA.out _ HJd.out.t) (fun e w' h => ⟨_, h.1⟩) ?_; rintro u9 y9 ⟨hv, h9⟩; injection hv with hv; subst hv; have h9s := h9.symm; clear h9; subst h9s)
                all_goals
                  go_wp2_with fail
                  (try simp only [Exit.inBlock, Exit.then]); refine bodyPost_ret (results_tmp2 rfl _ _ _) rfl ?_
                  exact ⟨rfl, ⟨_, _, _, HJd.out, HSM.out, by omega, by omega⟩⟩
          · rw [if_neg h5]
            have h5i : ¬ wt ≥ (room : Int) := h5
            rcases hg4 with rfl | ⟨rfl, hf3⟩
            · rcases e12 with e1 | ⟨e1, e2⟩
              all_goals
                go_enter Try.func16, Try.ntmps16
                go_wp2_with (first
                  | (go_at_call 33; refine HTH.out.mono ?_; rintro e9 y1 ⟨rfl, h9⟩; have h9s := h9.symm; clear h9; subst h9s)
                  | (go_at_call 34; refine HFI.out.mono ?_; rintro e9 y1 ⟨rfl, h9⟩; have h9s := h9.symm; clear h9; subst h9s)
                  | (go_at_call 35; refine HGO.out.mono ?_; rintro e9 w2 ⟨rfl, k2⟩; obtain ⟨j1, j2, j3, j4, j5, ⟨j6, j7⟩, j8, j9⟩ := acq_box HRT.out k2; have J1 := hide j1; have J2 := hide j2; have J3 := hide j3; have J4 := hide j4; have z5 := j3.t.c2; have z6 := j3.t.f 2; obtain ⟨v0, v1, v2, v3, v4⟩ := box5 j4; have z2 := j1.t.c2; have z3 := j1.t.c3; have z1 := j1.t.c1; have y3 := j1.t.f 3; have y2 := j1.t.f 2; have u0 : w2.cell? ⟨w.heap.size, 3, none⟩ = some (.bool false) := (by rw [cell_of_row _ _ _ _ _ _ j2]; rfl); have u1 : w2.cell? ⟨w.heap.size, 4, none⟩ = some (.int .i64 0) := (by rw [cell_of_row _ _ _ _ _ _ j2]; rfl); have u2 := frozen_of_row _ _ 3 _ 83 j2; have u3 := frozen_of_row _ _ 4 _ 83 j2; clear k2 j1 j2 j3 j4)
                  | (go_at_call 36; refine (rfirst_any J1.out.t (by omega) (k : Int)).mono ?_; rintro e9 y1 ⟨rfl, h9⟩; have h9s := h9.symm; clear h9; subst h9s; try rw [HFE.out]))
                have HJd := hide (J1.out.below (((Below.refl _ w2).drew)))
                have z1d : w2.drew.cell? ⟨q, 1, none⟩ = some (.int .i64 (room : Int)) := z1
                go_region_law (refine step_callTo rfl 30 #[.pointer (some ⟨q, 0, none⟩)] (by kernel_rfl) (HWA.out _ HJd.out.t) (fun e w' h => ⟨_, h.1⟩) ?_; rintro u9 y9 ⟨hv, h9⟩; injection hv with hv; subst hv; have h9s := h9.symm; clear h9; subst h9s)
                all_goals
                  clear j5 j6 j7 j8 j9 J3 J4 z5 z6 v0 v1 v2 v3 v4 HWA HTH HFI HGO HST
                  obtain ⟨m0, m1, m2, m3, m4⟩ := box5 (show w2.drew.heap[w.heap.size]? = _ from J2.out)
                  have z5 := HJd.out.t.c2
                  have z6 := HJd.out.t.f 2
                  clear u0 u1 u2 u3 z1 z2 z3 y2 y3 J1 J2 z1d
                  generalize w2.drew = yy at *
                  have HX : Hid (PRow (yy.drew.alloc (.cells #[.int .i64 (k : Int), .int .i64 m, .int .i64 o, .bool false, .int .i64 0] 83)) v P) := hide (rowKept HJd.out.t.own fun g e => (((Below.refl _ yy).drew).alloc (Nat.le_refl _) _).block g (HJd.out.t.vlt e))
                  have HBY : Hid (Below yy.heap.size yy (yy.drew.alloc (.cells #[.int .i64 (k : Int), .int .i64 m, .int .i64 o, .bool false, .int .i64 0] 83))) := hide (((Below.refl _ yy).drew).alloc (Nat.le_refl _) _)
                  have z5d := cell_alloc (.cells #[.int .i64 (k : Int), .int .i64 m, .int .i64 o, .bool false, .int .i64 0] 83) z5
                  go_wp2_with fail
                  go_region_law (refine step_appendP rfl (.tmp 78) (.tmp 80) rfl v P rfl HX.out ⟨yy.heap.size, 0, none⟩ 1 [⟨(k : Int), m, o, false, 0⟩] (by simp) rfl (new_pc yy.drew ⟨(k : Int), m, o, false, 0⟩) (by simp; omega) ?_; intro v3 w3 q1 q2; obtain ⟨p1, p2, p3⟩ := HJd.out.t.push HBY.out q1 q2; have HPU := hide p1; obtain ⟨va3, vc3, ve3, -, -, -⟩ := q1.form; rw [List.length_append, List.length_singleton] at ve3; subst ve3; clear q1 q2 p1)
                  all_goals
                    go_wp2_with fail
                    (try simp only [Exit.inBlock, Exit.then]); refine bodyPost_ret (results_tmp2 rfl _ _ _) rfl ?_
                    exact ⟨rfl, ⟨_, _, _, HJd.out.trans HPU.out, HSM.out.addW hk o m, by simp; omega, by rw [wtN_wait]; omega⟩⟩
            · have hf4 : ¬ fi2 < 0 := by omega
              rcases e12 with e1 | ⟨e1, e2⟩
              all_goals
                go_enter Try.func16, Try.ntmps16
                go_wp2_with (first
                  | (go_at_call 33; refine HTH.out.mono ?_; rintro e9 y1 ⟨rfl, h9⟩; have h9s := h9.symm; clear h9; subst h9s)
                  | (go_at_call 34; refine HFI.out.mono ?_; rintro e9 y1 ⟨rfl, h9⟩; have h9s := h9.symm; clear h9; subst h9s)
                  | (go_at_call 35; refine HGO.out.mono ?_; rintro e9 w2 ⟨rfl, k2⟩; obtain ⟨j1, j2, j3, j4, j5, ⟨j6, j7⟩, j8, j9⟩ := acq_box HRT.out k2; have J1 := hide j1; have J2 := hide j2; have J3 := hide j3; have J4 := hide j4; have z5 := j3.t.c2; have z6 := j3.t.f 2; obtain ⟨v0, v1, v2, v3, v4⟩ := box5 j4; have z2 := j1.t.c2; have z3 := j1.t.c3; have z1 := j1.t.c1; have y3 := j1.t.f 3; have y2 := j1.t.f 2; have u0 : w2.cell? ⟨w.heap.size, 3, none⟩ = some (.bool false) := (by rw [cell_of_row _ _ _ _ _ _ j2]; rfl); have u1 : w2.cell? ⟨w.heap.size, 4, none⟩ = some (.int .i64 0) := (by rw [cell_of_row _ _ _ _ _ _ j2]; rfl); have u2 := frozen_of_row _ _ 3 _ 83 j2; have u3 := frozen_of_row _ _ 4 _ 83 j2; clear k2 j1 j2 j3 j4)
                  | (go_at_call 36; refine (rfirst_any J1.out.t (by omega) (k : Int)).mono ?_; rintro e9 y1 ⟨rfl, h9⟩; have h9s := h9.symm; clear h9; subst h9s; try rw [HFE.out]))
                have HJd := hide (J1.out.below (((Below.refl _ w2).drew)))
                have z1d : w2.drew.cell? ⟨q, 1, none⟩ = some (.int .i64 (room : Int)) := z1
                go_region_law (refine step_callTo rfl 30 #[.pointer (some ⟨q, 0, none⟩)] (by kernel_rfl) (HWA.out _ HJd.out.t) (fun e w' h => ⟨_, h.1⟩) ?_; rintro u9 y9 ⟨hv, h9⟩; injection hv with hv; subst hv; have h9s := h9.symm; clear h9; subst h9s)
                all_goals
                  clear j5 j6 j7 j8 j9 J3 J4 z5 z6 v0 v1 v2 v3 v4 HWA HTH HFI HGO HST
                  obtain ⟨m0, m1, m2, m3, m4⟩ := box5 (show w2.drew.heap[w.heap.size]? = _ from J2.out)
                  have z5 := HJd.out.t.c2
                  have z6 := HJd.out.t.f 2
                  clear u0 u1 u2 u3 z1 z2 z3 y2 y3 J1 J2 z1d
                  generalize w2.drew = yy at *
                  have HX : Hid (PRow (yy.drew.alloc (.cells #[.int .i64 (k : Int), .int .i64 m, .int .i64 o, .bool false, .int .i64 0] 83)) v P) := hide (rowKept HJd.out.t.own fun g e => (((Below.refl _ yy).drew).alloc (Nat.le_refl _) _).block g (HJd.out.t.vlt e))
                  have HBY : Hid (Below yy.heap.size yy (yy.drew.alloc (.cells #[.int .i64 (k : Int), .int .i64 m, .int .i64 o, .bool false, .int .i64 0] 83))) := hide (((Below.refl _ yy).drew).alloc (Nat.le_refl _) _)
                  have z5d := cell_alloc (.cells #[.int .i64 (k : Int), .int .i64 m, .int .i64 o, .bool false, .int .i64 0] 83) z5
                  go_wp2_with fail
                  go_region_law (refine step_appendP rfl (.tmp 78) (.tmp 80) rfl v P rfl HX.out ⟨yy.heap.size, 0, none⟩ 1 [⟨(k : Int), m, o, false, 0⟩] (by simp) rfl (new_pc yy.drew ⟨(k : Int), m, o, false, 0⟩) (by simp; omega) ?_; intro v3 w3 q1 q2; obtain ⟨p1, p2, p3⟩ := HJd.out.t.push HBY.out q1 q2; have HPU := hide p1; obtain ⟨va3, vc3, ve3, -, -, -⟩ := q1.form; rw [List.length_append, List.length_singleton] at ve3; subst ve3; clear q1 q2 p1)
                  all_goals
                    go_wp2_with fail
                    (try simp only [Exit.inBlock, Exit.then]); refine bodyPost_ret (results_tmp2 rfl _ _ _) rfl ?_
                    exact ⟨rfl, ⟨_, _, _, HJd.out.trans HPU.out, HSM.out.addW hk o m, by simp; omega, by rw [wtN_wait]; omega⟩⟩
end Go.Proofs.Ytijfnacplikibab
