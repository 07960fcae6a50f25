import Derived.Test.YtijfnacplikibabKPk
namespace Go.Proofs.Ytijfnacplikibab
open Go.RowKit
set_option linter.unusedVariables false
set_option linter.unusedSimpArgs false
set_option maxRecDepth 20000

/-- the document's Drop on its way: behind i extents -/
structure DI (w wr : World) (q : Nat) (v : Value) (n room : Nat) (L' : LL) (inn : List Int) (av : Value) (N : Nat) : Prop where
  ra : RA w wr q v n room L' N
  row : IRow wr av inn
  new : ∀ g, av.ownBlock = some g → w.heap.size ≤ g
theorem IRow.byT {x y : World} {q : Nat} {v : Value} {n room : Nat} {P : List Pc} {T : Nat} {iv : Value} {l : List Int} (h : IRow x iv l) (r : RT x q v n room P T) (hc : Chg (fun g => g = q ∨ v.ownBlock = some g) x y) : IRow y iv l := rowKept h fun g e => hc.keep g (h.lt' e) (by
  obtain ⟨cs, hcs⟩ := h.cellsOf e
  rintro (e9 | e9)
  · exact neType hcs r.row (by decide) e9
  · obtain ⟨ds, hds⟩ := PRow.cellsOf r.own e9
    exact neType hcs hds (by decide) rfl)
theorem RTt.app {w x y : World} {q : Nat} {v v' : Value} {n room : Nat} {P : List Pc} {T : Nat} {iv iv' : Value} {l : List Int} (h : RTt w x q v v' n room P T) (hi : IRow x iv l) (ha : App x y iv iv') (hn : ∀ g, iv.ownBlock = some g → w.heap.size ≤ g) : RTt w y q v v' n room P T :=
  ⟨h.t.byApp hi ha, h.chg.trans2 ha.chg fun g hg e => by have := hn g e; omega, h.loc⟩
theorem drp_small {n : Nat} {L : LL} {ws wt : Int} {B : Nat} (h : WF n L ws wt B) (o : Int) (i : Nat) : (drp n L wt o i).inn.length ≤ 512 := by
  have h1 := drp_len (n := n) (L := L) (wt := wt) (o := o) i
  have h2 := (drp_wf h o i).sum
  have h3 := h.le
  have h4 := h.ws0
  omega
theorem rls_small {n : Nat} {L : LL} {ws wt : Int} {B : Nat} (h : WF n L ws wt B) (e o : Int) : (rls n L wt e o).inn.length ≤ 512 := by
  have h1 := rls_len (n := n) (L := L) (wt := wt) (e := e) (o := o)
  have h2 := (rls_wf h e o).sum
  have h3 := h.le
  have h4 := h.ws0
  omega
set_option maxHeartbeats 4000000 in
theorem rdrop_any {w : World} {q : Nat} {v : Value} {n room : Nat} {P : List Pc} {T N : Nat} {L : LL} {wt : Int} {B : Nat} (h : RT w q v n room P T) (sm : Sm n L P T) (ok : Ok n L) (wf : WF n L (room : Int) wt B) (hl : P.length ≤ N) (ht : T + wtN P ≤ N) (hN : N ≤ 9000000) (hn : n ≤ 4096) (o : Int) : Calls Try.prog 22 #[.pointer (some ⟨q, 0, none⟩), .int .i64 o] w fun e' w' => ∃ rv, e' = .returned rv ∧ DI w w' q v n room (drp n L wt o n).L (drp n L wt o n).inn rv N := by
  have HST : Hid (DI w w q v n room (drp n L wt o 0).L (drp n L wt o 0).inn (.slice none 0 0) N) := hide ⟨⟨v, P, T, RTt.refl h, sm, hl, ht⟩, rnil _, fun g e => by simp [Value.ownBlock] at e⟩
  have HOK := hide fun i => ok_drp ok wt o i
  have HWF := hide fun i => drp_wf wf o i
  have HSM := hide fun i => drp_small wf o i
  have c0 := h.c0
  clear h sm ok wf hl ht
  go_enter Try.func22, Try.ntmps22
  go_wp2_with fail
  go_loopw [5, 6] (fun x y wr => ∃ i : Nat, i ≤ n ∧ y = .int .i64 (i : Int) ∧ Hid (DI w wr q v n room (drp n L wt o i).L (drp n L wt o i).inn x N)) (fun _ y _ => n - (intOf y).toNat)
  case atStart => exact ⟨0, Nat.zero_le _, rfl, HST⟩
  case round =>
    clear HST c0
    obtain ⟨i, hi, rfl, HI⟩ := hrel
    obtain ⟨v1, P1, T1, t1, sm1, hl1, ht1⟩ := HI.out.ra.ex
    obtain ⟨ia, ic, ie⟩ := HI.out.row.form'
    subst ie
    have c0 := t1.t.c0
    by_cases hlt : i < n
    · have hli : (i : Int) < (n : Int) := by omega
      have HFI := hide (rfind_any t1.t (by omega) (i : Int) o)
      have hfi := sm1.find hlt o
      generalize ixB (fnd (i : Int) o) P1 = fi at *
      by_cases h3 : (has ((drp n L wt o i).L (i * 2)) o || has ((drp n L wt o i).L (i * 2 + 1)) o) = true
      · have h3i : fi ≥ 0 := hfi.2 h3
        have HRE := hide (rrel_any (wt := (drp n L wt o i).wt) t1.t sm1 (HOK.out i) hl1 ht1 hN (i : Int) o)
        have HT1 := hide t1
        have HDE : Hid ((drp n L wt o (i + 1)).L = (rls n (drp n L wt o i).L (drp n L wt o i).wt (i : Int) o).L ∧ (drp n L wt o (i + 1)).inn = (drp n L wt o i).inn ++ (rls n (drp n L wt o i).L (drp n L wt o i).wt (i : Int) o).inn) := hide ⟨rfl, rfl⟩
        have HB1 := hide (HSM.out i)
        have HB2 := hide (rls_small (HWF.out i) (i : Int) o)
        have HRW := hide HI.out.row
        have HNW := hide HI.out.new
        unfold RlP at HRE
        clear hfi h3 t1 sm1 HI HOK HWF HSM
        generalize rls n (drp n L wt o i).L (drp n L wt o i).wt (i : Int) o = RR at *
        generalize (drp n L wt o i).inn = I1 at *
        go_wp2_with (first
          | (go_at_call 34; refine HFI.out.mono ?_; rintro e9 y1 ⟨rfl, h9⟩; have h9s := h9.symm; clear h9; subst h9s)
          | (go_at_call 18; refine HRE.out.mono ?_; rintro e9 y2 ⟨rv, rfl, k1, k2, k3⟩; obtain ⟨v2, P2, T2, t2, sm2, hl2, ht2⟩ := k1.ex; have HAV := hide (HRW.out.byT HT1.out.t t2.chg); have HT2 := hide (HT1.out.trans t2); have HS2 := hide sm2; have K2 := hide k2; clear k1 k2 k3 t2 sm2)
          | (at_builtin; refine wpList_appendI _ rfl (.tmp 29) (.tmp 30) rfl _ rv I1 RR.inn rfl rfl HAV.out K2.out (by have := HB1.out; have := HB2.out; omega) ?_; intro v6 w6 q1 q2; have HD := hide (show DI w w6 q v n room RR.L (I1 ++ RR.inn) v6 N from ⟨⟨v2, P2, T2, HT2.out.app HAV.out q2 HNW.out, HS2.out, hl2, ht2⟩, q1, fun g eg => (q2.loc g eg).elim (fun z => HNW.out g z) fun z => Nat.le_trans HT2.out.chg.size z⟩); clear q1 q2))
        go_roundw
        case rel => exact ⟨i + 1, by omega, by go_num, by rw [HDE.out.1, HDE.out.2]; exact HD⟩
        case measure => simp [intOf]; omega
      · have h3i : ¬ fi ≥ 0 := fun q => h3 (hfi.1 q)
        have hd : (drp n L wt o (i + 1)).L = (drp n L wt o i).L ∧ (drp n L wt o (i + 1)).inn = (drp n L wt o i).inn := by
          have hr : rls n (drp n L wt o i).L (drp n L wt o i).wt (i : Int) o = ⟨92, [], (drp n L wt o i).L, (drp n L wt o i).wt⟩ := by
            unfold rls
            rw [if_neg (by omega), if_neg (by simpa using h3)]
          simp only [drp]
          rw [hr]
          simp
        have HDE := hide hd
        clear hd hfi h3 t1 sm1
        go_wp2_with (go_at_call 34; refine HFI.out.mono ?_; rintro e9 y1 ⟨rfl, h9⟩; have h9s := h9.symm; clear h9; subst h9s)
        go_roundw
        case rel => exact ⟨i + 1, by omega, by go_num, by rw [HDE.out.1, HDE.out.2]; exact HI⟩
        case measure => simp [intOf]; omega
    · have ek : i = n := by omega
      subst ek
      have hli : ¬ (i : Int) < (i : Int) := by omega
      clear t1 sm1
      go_wp2_with fail
      go_ret
      exact ⟨_, rfl, HI.out⟩
end Go.Proofs.Ytijfnacplikibab
