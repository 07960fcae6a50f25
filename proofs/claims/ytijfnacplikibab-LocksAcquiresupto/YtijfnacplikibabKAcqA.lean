import Derived.Test.YtijfnacplikibabKAcq2
import Derived.Test.YtijfnacplikibabKAcq3
import Derived.Test.YtijfnacplikibabKAcq4
import Derived.Test.YtijfnacplikibabKAcq5
import Derived.Test.YtijfnacplikibabKMath
import Derived.Test.YtijfnacplikibabKCall
namespace Go.Proofs.Ytijfnacplikibab
open Go.RowKit
set_option linter.unusedVariables false
set_option linter.unusedSimpArgs false
set_option maxRecDepth 20000

/-- acquire, whatever comes -/
theorem acquire_any (w : World) (p b : Nat) (m : Int) (n : Nat) (V : Nat → Value) (L : LL) (ws wt : Int) (r : Nat) (e o md : Int) (tv : Value) (nu : Int) (B : Nat) (h : TRep w p b m n V L ws wt) (q : QRep w r p e o md false tv nu) (hw : WF n L ws wt B) (hB : B ≤ 7900000000000) :
    Calls Try.prog 32 #[.pointer (some ⟨r, 0, none⟩)] w fun e' w' => e' = .returned (.int .i64 (acq n L ws wt e o md).err) ∧ ∃ V', TRep w' p b m n V' (acq n L ws wt e o md).L ws (acq n L ws wt e o md).wt ∧ QRep w' r p e o md (acq n L ws wt e o md).gr tv nu ∧ Tr (· = r) w w' (TU p b n V) (TU p b n V') := by
  have same : ∀ (k : Int) (e' : Ending) (w' : World), e' = .returned (.int .i64 k) ∧ Below w.heap.size w w' → e' = .returned (.int .i64 k) ∧ ∃ V', TRep w' p b m n V' L ws wt ∧ QRep w' r p e o md false tv nu ∧ Tr (· = r) w w' (TU p b n V) (TU p b n V') := fun k e' w' h' => ⟨h'.1, V, h.below h'.2, q.kept (h'.2.block r q.lt), Tr.ofBelow h'.2⟩
  unfold acq
  split
  · rename_i hm
    exact (acq_arg w p b m n V L ws wt r o md false tv nu e h q hm.1 hm.2).mono fun e' w' h' => same 1 e' w' h'
  · rename_i hm
    have hm' : md = 1 ∨ md = 2 := by omega
    split
    · rename_i he
      exact (acq_range w p b m n V L ws wt r o md false tv nu e h q hm' he).mono fun e' w' h' => same 2 e' w' h'
    · rename_i he
      have he : 0 ≤ e ∧ e < (n : Int) := Classical.not_not.1 he
      obtain ⟨k, rfl⟩ : ∃ k : Nat, e = (k : Int) := ⟨e.toNat, by omega⟩
      have hkn : k < n := by omega
      have hlen := hw.len k
      have hw0 : 0 ≤ wt := by have := hw.sum; omega
      simp only [Int.toNat_natCast]
      split
      · rename_i hh
        cases h0 : has (L (k * 2)) o with
        | true => exact (acq_held0 w p b m n V L ws wt r o md false tv nu k h q hm' hkn h0).mono fun e' w' h' => same 91 e' w' h'
        | false =>
          rw [h0, Bool.false_or] at hh
          exact (acq_held1 w p b m n V L ws wt r o md false tv nu k h q hm' hkn h0 hh).mono fun e' w' h' => same 91 e' w' h'
      · rename_i hh
        have hh : (has (L (k * 2)) o || has (L (k * 2 + 1)) o) = false := by simpa using hh
        rw [Bool.or_eq_false_iff] at hh
        split
        · rename_i hg
          exact acq_in w p b m n V L ws wt r o md false tv nu k h q hm' hkn hh.1 hh.2 hg.1 hg.2 (by omega)
        · rename_i hg
          split
          · rename_i hf
            by_cases hr : L (k * 2 + 1) = []
            · have hgo : goesB (L (k * 2)) md = false := by
                cases hx : goesB (L (k * 2)) md with
                | false => rfl
                | true => exact absurd ⟨hr, hx⟩ hg
              exact (acq_full0 w p b m n V L ws wt r o md false tv nu k h q hm' hkn hh.1 hh.2 hr hgo hf).mono fun e' w' h' => same 4 e' w' h'
            · exact (acq_full1 w p b m n V L ws wt r o md false tv nu k h q hm' hkn hh.1 hh.2 hr hf).mono fun e' w' h' => same 4 e' w' h'
          · rename_i hf
            by_cases hr : L (k * 2 + 1) = []
            · have hgo : goesB (L (k * 2)) md = false := by
                cases hx : goesB (L (k * 2)) md with
                | false => rfl
                | true => exact absurd ⟨hr, hx⟩ hg
              exact acq_wait0 w p b m n V L ws wt r o md false tv nu k h q hm' hkn hh.1 hh.2 hr hgo (by omega) hw0 hw.ws0.2 (by omega)
            · exact acq_wait1 w p b m n V L ws wt r o md false tv nu k h q hm' hkn hh.1 hh.2 hr (by omega) hw0 hw.ws0.2 (by omega)
/-- behind a call: the mutex given back; w0 ahead of it, w1 behind its work -/
theorem call_back {w w1 : World} {p b : Nat} {n : Nat} {V V' : Nat → Value} {L L' : LL} {ws wt ws' wt' : Int} (h : TRep w p b 0 n V L ws wt) {e o md : Int} (h1 : TRep w1 p b 1 n V' L' ws' wt') {R : Nat → Prop} (hR : ∀ g, R g → w.heap.size ≤ g) (ht : Tr R ((w.alloc (.cells (qRow p e o md) 77)).setCell ⟨p, 0, none⟩ (.int .i32 1)) w1 (TU p b n V) (TU p b n V')) :
    TRep (w1.setCell ⟨p, 0, none⟩ (.int .i32 0)) p b 0 n V' L' ws' wt' ∧ Tr (fun _ => False) w (w1.setCell ⟨p, 0, none⟩ (.int .i32 0)) (TU p b n V) (TU p b n V') := by
  refine ⟨h1.lock 0, ?_⟩
  have hsz : ((w.alloc (.cells (qRow p e o md) 77)).setCell ⟨p, 0, none⟩ (.int .i32 1)).heap.size = w.heap.size + 1 := by rw [World.size_setCell, World.size_alloc]
  have t0 : Tr (fun _ => False) w w1 (TU p b n V) (TU p b n V') := by
    have hs := ht.chg.size
    refine ⟨⟨ht.chg.os, ht.chg.tape, ht.chg.output, by omega, fun g hg hn => ?_⟩, fun g hg => ?_⟩
    · rw [ht.chg.keep g (by omega) (fun hu => hu.elim (fun h => hn (.inl h)) fun h => by have := hR g h; omega), Go.heap_setCell_other _ _ _ _ (show g ≠ p from fun e => hn (.inl (.inl e)))]
      exact Below.heap_alloc _ _ g hg
    · rcases ht.loc g hg with h | h
      · exact .inl h
      · exact .inr (by omega)
  exact t0.set p 0 _ (.inl (.inl rfl))
set_option maxHeartbeats 1000000 in
theorem Acquire_any (w : World) (p b : Nat) (n : Nat) (V : Nat → Value) (L : LL) (ws wt : Int) (e md o : Int) (B : Nat) (h : TRep w p b 0 n V L ws wt) (hw : WF n L ws wt B) (hB : B ≤ 7900000000000) :
    Calls Try.prog 15 #[.pointer (some ⟨p, 0, none⟩), .int .i64 e, .int .i64 md, .int .i64 o] w fun e' w' => e' = .returned (.tuple #[.bool (acq n L ws wt e o md).gr, .int .i64 (acq n L ws wt e o md).err]) ∧ ∃ V', TRep w' p b 0 n V' (acq n L ws wt e o md).L ws (acq n L ws wt e o md).wt ∧ Tr (fun _ => False) w w' (TU p b n V) (TU p b n V') := by
  have hmf := kmf
  obtain ⟨h1, q1⟩ := h.ask e o md 1
  have ha := h.below ((Below.refl _ w).alloc (Nat.le_refl _) (.cells (qRow p e o md) 77))
  have HAC := acquire_any _ p b 1 n V L ws wt w.heap.size e o md (.slice none 0 0) 0 B h1 q1 hw hB
  have HP : Hid (w.heap.size ≠ p) := hide fun e => by have := h.lt p (.inl rfl); omega
  have HB : Hid (∀ w1 V', TRep w1 p b 1 n V' (acq n L ws wt e o md).L ws (acq n L ws wt e o md).wt → Tr (· = w.heap.size) ((w.alloc (.cells (qRow p e o md) 77)).setCell ⟨p, 0, none⟩ (.int .i32 1)) w1 (TU p b n V) (TU p b n V') → _) := hide fun w1 V' h1 h2 => call_back h h1 (fun g e => by omega) h2
  generalize acq n L ws wt e o md = A at *
  have HG := hide (guarded_any 32 p w.heap.size _ (fun z w' => z = A.err ∧ ∃ V', TRep w' p b 1 n V' A.L ws A.wt ∧ QRep w' w.heap.size p e o md A.gr (.slice none 0 0) 0 ∧ Tr (· = w.heap.size) ((w.alloc (.cells (qRow p e o md) 77)).setCell ⟨p, 0, none⟩ (.int .i32 1)) w' (TU p b n V) (TU p b n V')) (ha.c 0) (ha.f 0) (fun args w => by rfl) (HAC.mono (by
    rintro e' w' ⟨rfl, V', hT, hq, hTr⟩
    exact ⟨_, rfl, hT.c 0, hT.f 0, rfl, V', hT, hq, hTr⟩)))
  clear h h1 q1 ha HAC
  unfold qRow at *
  go_enter Try.func15, Try.ntmps15
  go_wp2_with (go_at_call 31; refine HG.out.mono ?_; rintro e' w2 ⟨z, w1, rfl, ⟨rfl, V', hT, hq, hTr⟩, rfl⟩; obtain ⟨hT2, hC2⟩ := HB.out _ _ hT hTr; have HT := hide hT2; have HC := hide hC2; have c4 := (hq.kept (w' := w1.setCell ⟨p, 0, none⟩ (.int .i32 0)) (Go.heap_setCell_other _ _ _ _ HP.out)).c 4; simp at c4; clear hT hC2 hT2 hq hTr HG HB)
  go_ret2
  exact ⟨rfl, V', HT.out, HC.out⟩
end Go.Proofs.Ytijfnacplikibab
