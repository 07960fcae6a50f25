import Derived.Test.YtijfnacplikibabKRelA
namespace Go.Proofs.Ytijfnacplikibab
open Go.RowKit
set_option linter.unusedVariables false
set_option linter.unusedSimpArgs false
set_option maxRecDepth 20000

/-- what Drop does, extent by extent -/
def drp (n : Nat) (L : LL) (wt o : Int) : Nat → RR
  | 0 => ⟨0, [], L, wt⟩
  | i + 1 => ⟨0, (drp n L wt o i).inn ++ (rls n (drp n L wt o i).L (drp n L wt o i).wt i o).inn, (rls n (drp n L wt o i).L (drp n L wt o i).wt i o).L, (rls n (drp n L wt o i).L (drp n L wt o i).wt i o).wt⟩
theorem drp_wf {n : Nat} {L : LL} {ws wt : Int} {B : Nat} (h : WF n L ws wt B) (o : Int) : ∀ i, WF n (drp n L wt o i).L ws (drp n L wt o i).wt B
  | 0 => h
  | i + 1 => rls_wf (drp_wf h o i) i o
theorem rls_len {n : Nat} {L : LL} {wt e o : Int} : (rls n L wt e o).inn.length + (rls n L wt e o).wt ≤ wt := by
  unfold rls
  split
  · simp
  · split
    · have := relIn_len L e.toNat o
      show ((relIn L e.toNat o).length : Int) + relWt L wt e.toNat o ≤ wt
      unfold relWt
      omega
    · simp
theorem drp_len {n : Nat} {L : LL} {wt o : Int} : ∀ i, ((drp n L wt o i).inn.length : Int) + (drp n L wt o i).wt ≤ wt
  | 0 => by simp [drp]
  | i + 1 => by
    have h1 := drp_len (n := n) (L := L) (wt := wt) (o := o) i
    have h2 := rls_len (n := n) (L := (drp n L wt o i).L) (wt := (drp n L wt o i).wt) (e := i) (o := o)
    simp only [drp, List.length_append]
    omega
set_option maxHeartbeats 2000000 in
theorem drop_any (w : World) (p b : Nat) (m : Int) (n : Nat) (V : Nat → Value) (L : LL) (ws wt : Int) (r : Nat) (o md : Int) (gr : Bool) (nu : Int) (B : Nat) (h : TRep w p b m n V L ws wt) (q : QRep w r p 0 o md gr (.slice none 0 0) nu) (hw : WF n L ws wt B) (hB : B ≤ 3900000000000) :
    Calls Try.prog 38 #[.pointer (some ⟨r, 0, none⟩)] w fun e' w' => e' = .returned (.int .i64 0) ∧ ∃ V' tv' e, TRep w' p b m n V' (drp n L wt o n).L ws (drp n L wt o n).wt ∧ QRep w' r p e o md gr tv' nu ∧ IRow w' tv' (drp n L wt o n).inn ∧ (∀ g, tv'.ownBlock = some g → w.heap.size ≤ g) ∧ Tr (· = r) w w' (TU p b n V) (TU p b n V') := by
  obtain ⟨c0, c1, c2, c3, d2, d3, d4⟩ := ac_of h q
  have HL := hide fun x V' (i : Nat) tv (hi : i < n) (hT : TRep x p b m n V' (drp n L wt o i).L ws (drp n L wt o i).wt) (hq : QRep x r p i o md gr tv nu) (ht : IRow x tv (drp n L wt o i).inn) => release_any x p b m n V' (drp n L wt o i).L ws (drp n L wt o i).wt r i o md gr tv (drp n L wt o i).inn nu B hT hq ht hi (drp_wf hw o i) hB (by
    have h1 := drp_len (n := n) (L := L) (wt := wt) (o := o) i
    have h2 := (drp_wf hw o i).sum
    have h3 := hw.le
    have h4 := hw.ws0
    omega)
  have HT := hide h
  have HQ := hide q
  have hn := h.sz
  clear h q
  go_enter Try.func38, Try.ntmps38
  go_wp2_with fail
  go_loopw [12] (fun x wr => ∃ (i : Nat) (V' : Nat → Value) (tv : Value) (e : Int), i ≤ n ∧ x = .int .i64 (i : Int) ∧ TRep wr p b m n V' (drp n L wt o i).L ws (drp n L wt o i).wt ∧ QRep wr r p e o md gr tv nu ∧ IRow wr tv (drp n L wt o i).inn ∧ (∀ g, tv.ownBlock = some g → w.heap.size ≤ g) ∧ Tr (· = r) w wr (TU p b n V) (TU p b n V')) (fun x _ => n - (intOf x).toNat)
  case atStart => exact ⟨0, V, .slice none 0 0, 0, Nat.zero_le _, rfl, HT.out, HQ.out, IRow.nil _, fun g e => by simp [Value.ownBlock] at e, Tr.refl _ _ _⟩
  case round =>
    obtain ⟨i, V1, tv, e, hi, rfl, hT, hq, hI, hl, hTr⟩ := hrel
    have HT1 := hide hT
    have HQ1 := hide hq
    have HI1 := hide hI
    have HL1 := hide hl
    have HR1 := hide hTr
    have k1 := hq.c 1
    have f1 := hq.f 1
    simp at k1
    clear hT hq hI hl hTr
    by_cases hlt : i < n
    · have HT2 := hide (HT1.out.req (HT1.out.rq HQ1.out) 1 (.int .i64 (i : Int)))
      have HQ2 := hide (HQ1.out.ext (i : Int))
      have HI2 : Hid (IRow (wr.setCell ⟨r, 1, none⟩ (.int .i64 (i : Int))) tv (drp n L wt o i).inn) := hide (HI1.out.kept fun g hg => Go.heap_setCell_other _ _ _ _ (show g ≠ r from fun e => by
        obtain ⟨cs, hc⟩ := rowCells HI1.out hg
        exact neType hc HQ1.out.row (by decide) e))
      have HCL := hide (HL.out _ _ i _ hlt HT2.out HQ2.out HI2.out)
      have HR2 := hide (HR1.out.set r 1 (.int .i64 (i : Int)) (.inr rfl))
      have HSZ : Hid ((wr.setCell ⟨r, 1, none⟩ (.int .i64 (i : Int))).heap.size = wr.heap.size) := hide (World.size_setCell ..)
      clear HL HT HQ HT1 HQ1 HI1
      go_wp2_with (go_at_call 37; refine HCL.out.mono ?_; rintro e' w3 ⟨rfl, V3, tv3, hT3, hQ3, hI3, hl3, hTr3⟩; have HT3 := hide hT3; have HQ3 := hide hQ3; have HI3 := hide hI3; have HL3 := hide hl3; have HR3 := hide hTr3; clear hT3 hQ3 hI3 hl3 hTr3 HCL)
      go_roundw
      case rel =>
        refine ⟨i + 1, V3, tv3, i, by omega, by go_num, HT3.out, HQ3.out, HI3.out, fun g hg => ?_, HR2.out.trans' HR3.out fun g h => ?_⟩
        · rcases HL3.out g hg with h | h
          · exact HL1.out g h
          · have h1 := HSZ.out
            have h2 := HR1.out.chg.size
            omega
        · rcases h with h | h
          · exact .inl h
          · exact .inr (HL1.out g h)
      case measure => simp [intOf]; omega
    · have ei : i = n := by omega
      have HZ : Hid (TRep wr p b m n V1 (drp n L wt o n).L ws (drp n L wt o n).wt ∧ IRow wr tv (drp n L wt o n).inn) := hide (by
        have h1 := HT1.out
        have h2 := HI1.out
        rw [ei] at h1 h2
        exact ⟨h1, h2⟩)
      clear HL HT HQ HT1 HI1
      go_wp2_with fail
      go_ret
      exact ⟨rfl, V1, tv, e, HZ.out.1, HQ1.out, HZ.out.2, HL1.out, HR1.out⟩
set_option maxHeartbeats 1000000 in
theorem Drop_any (w : World) (p b : Nat) (n : Nat) (V : Nat → Value) (L : LL) (ws wt : Int) (o : Int) (B : Nat) (h : TRep w p b 0 n V L ws wt) (hw : WF n L ws wt B) (hB : B ≤ 3900000000000) :
    Calls Try.prog 21 #[.pointer (some ⟨p, 0, none⟩), .int .i64 o] w fun e' w' => ∃ v V', e' = .returned v ∧ TL w w' p b n V V' (drp n L wt o n).L ws (drp n L wt o n).wt v (drp n L wt o n).inn := by
  have hmf := kmf
  obtain ⟨h1, q1⟩ := h.ask 0 o 0 1
  have ha := h.below ((Below.refl _ w).alloc (Nat.le_refl _) (.cells (qRow p 0 o 0) 77))
  have HRL := drop_any _ p b 1 n V L ws wt w.heap.size o 0 false 0 B h1 q1 hw hB
  have hp := h.lt p (.inl rfl)
  have HP : Hid (w.heap.size ≠ p) := hide fun e => by omega
  generalize drp n L wt o n = A at *
  have HB : Hid (∀ w1 V' v, TRep w1 p b 1 n V' A.L ws A.wt → IRow w1 v A.inn → (∀ g, v.ownBlock = some g → ((w.alloc (.cells (qRow p 0 o 0) 77)).setCell ⟨p, 0, none⟩ (.int .i32 1)).heap.size ≤ g) → Tr (· = w.heap.size) ((w.alloc (.cells (qRow p 0 o 0) 77)).setCell ⟨p, 0, none⟩ (.int .i32 1)) w1 (TU p b n V) (TU p b n V') → TL w (w1.setCell ⟨p, 0, none⟩ (.int .i32 0)) p b n V V' A.L ws A.wt v A.inn) := hide fun w1 V' v k1 k2 k3 k4 => by
    obtain ⟨x1, x2⟩ := call_back h k1 (R := (· = w.heap.size)) (fun g e => by omega) k4
    refine ⟨x1, k2.kept fun g hg => Go.heap_setCell_other _ _ _ _ (show g ≠ p from fun e => ?_), fun g hg => ?_, x2⟩
    · have h := k3 g hg
      rw [World.size_setCell, World.size_alloc] at h; omega
    · have h := k3 g hg
      rw [World.size_setCell, World.size_alloc] at h; omega
  have HG := hide (guarded_any 38 p w.heap.size _ (fun z w' => z = 0 ∧ ∃ V' v e, QRep w' w.heap.size p e o 0 false v 0 ∧ (∃ a k c, v = .slice a k c) ∧ TL w (w'.setCell ⟨p, 0, none⟩ (.int .i32 0)) p b n V V' A.L ws A.wt v A.inn) (ha.c 0) (ha.f 0) (fun args w => by rfl) (HRL.mono (by
    rintro e' w' ⟨rfl, V', v, e, hT, hq, hi, hl, hTr⟩
    obtain ⟨a, c, ev, -, -⟩ := rowForm hi
    exact ⟨_, rfl, hT.c 0, hT.f 0, rfl, V', v, e, hq, ⟨a, _, c, ev⟩, HB.out _ _ _ hT hi hl hTr⟩)))
  clear h h1 q1 ha HRL HB
  unfold qRow at *
  go_enter Try.func21, Try.ntmps21
  go_wp2_with (go_at_call 31; refine HG.out.mono ?_; rintro e' w2 ⟨z, w1, rfl, ⟨rfl, V', v, e, hq, ⟨a, k, c, rfl⟩, hTL⟩, rfl⟩; have HT := hide hTL; have c5 := (hq.kept (w' := w1.setCell ⟨p, 0, none⟩ (.int .i32 0)) (Go.heap_setCell_other _ _ _ _ HP.out)).c 5; simp at c5; clear hTL hq HG)
  go_ret
  exact ⟨_, V', rfl, HT.out⟩
end Go.Proofs.Ytijfnacplikibab
