import Derived.Test.YtijfnacplikibabKAcqA
namespace Go.Proofs.Ytijfnacplikibab
open Go.RowKit
set_option linter.unusedVariables false
set_option linter.unusedSimpArgs false
set_option maxRecDepth 20000

theorem Tr.trans' {R R' : Nat → Prop} {a b c : World} {U V W : Nat → Prop} (h : Tr R a b U V) (k : Tr R' b c V W) (hr : ∀ g, R' g → R g ∨ a.heap.size ≤ g) : Tr R a c U W := by
  have hs := h.chg.size
  refine ⟨⟨k.chg.os.trans h.chg.os, k.chg.tape.trans h.chg.tape, k.chg.output.trans h.chg.output, Nat.le_trans hs k.chg.size, fun g hg hn => (k.chg.keep g (by omega) ?_).trans (h.chg.keep g hg hn)⟩, fun g hg => ?_⟩
  · rintro (hv | hq)
    · rcases h.loc g hv with hu | hu
      · exact hn (.inl hu)
      · omega
    · rcases hr g hq with h2 | h2
      · exact hn (.inr h2)
      · omega
  · rcases k.loc g hg with hv | hv
    · exact h.loc g hv
    · exact .inr (by omega)
/-- what Release says and does -/
structure RR where
  err : Int
  inn : List Int
  L : LL
  wt : Int
def rls (n : Nat) (L : LL) (wt e o : Int) : RR :=
  if ¬ (0 ≤ e ∧ e < (n : Int)) then ⟨2, [], L, wt⟩
  else if (has (L (e.toNat * 2)) o || has (L (e.toNat * 2 + 1)) o) = true then ⟨0, relIn L e.toNat o, relL L e.toNat o, relWt L wt e.toNat o⟩
  else ⟨92, [], L, wt⟩
theorem rls_wf {n : Nat} {L : LL} {ws wt : Int} {B : Nat} (h : WF n L ws wt B) (e o : Int) : WF n (rls n L wt e o).L ws (rls n L wt e o).wt B := by
  unfold rls
  split
  · exact h
  · split
    · rename_i he _
      have he : 0 ≤ e ∧ e < (n : Int) := Classical.not_not.1 he
      exact rel_wf h (by omega) o
    · exact h
/-- release at an extent of the table, behind others -/
theorem release_any (w : World) (p b : Nat) (m : Int) (n : Nat) (V : Nat → Value) (L : LL) (ws wt : Int) (r : Nat) (e : Nat) (o md : Int) (gr : Bool) (tv : Value) (tl : List Int) (nu : Int) (B : Nat) (h : TRep w p b m n V L ws wt) (q : QRep w r p e o md gr tv nu) (ht : IRow w tv tl) (he : e < n) (hw : WF n L ws wt B) (hB : B ≤ 3900000000000) (htl : tl.length ≤ 1000000) :
    Calls Try.prog 37 #[.pointer (some ⟨r, 0, none⟩)] w fun e' w' => e' = .returned (.int .i64 (rls n L wt e o).err) ∧ ∃ V' tv', TRep w' p b m n V' (rls n L wt e o).L ws (rls n L wt e o).wt ∧ QRep w' r p e o md gr tv' nu ∧ IRow w' tv' (tl ++ (rls n L wt e o).inn) ∧ (∀ g, tv'.ownBlock = some g → tv.ownBlock = some g ∨ w.heap.size ≤ g) ∧ Tr (fun g => g = r ∨ tv.ownBlock = some g) w w' (TU p b n V) (TU p b n V') := by
  have hne : ¬ ¬ (0 ≤ (e : Int) ∧ (e : Int) < (n : Int)) := fun hc => hc ⟨by omega, by omega⟩
  have hall : ∀ k, (L k).length ≤ 4000000000000 := fun k => by have := hw.all k; omega
  have hrow := hw.row he
  have hle := hw.le
  have hws := hw.ws0
  unfold rls
  rw [if_neg hne]
  simp only [Int.toNat_natCast]
  cases hh : (has (L (e * 2)) o || has (L (e * 2 + 1)) o) with
  | true =>
    rw [if_pos rfl]
    exact rel_yes w p b m n V L ws wt r o md gr tv tl nu e h q ht he hall htl (by omega) ⟨hrow, by omega⟩ hh
  | false =>
    rw [if_neg (by simp)]
    refine (rel_no w p b m n V L ws wt r o md gr tv nu e h q he (fun k => by have := hall k; omega) hh).mono ?_
    rintro e' w' ⟨rfl, V', hT, hq, hTr⟩
    refine ⟨rfl, V', tv, hT, hq, ?_, fun g hg => .inl hg, hTr.mono fun g h => .inl h⟩
    rw [List.append_nil]
    exact ht.kept fun g hg => hTr.chg.keep g (ht.lt hg) fun hu => hu.elim (by
      obtain ⟨cs, hc⟩ := rowCells ht hg
      exact h.nt hc (by decide) (by decide) (by decide)) fun e => by
        obtain ⟨cs, hc⟩ := rowCells ht hg
        exact neType hc q.row (by decide) e
/-- what a call leaves that tells a list -/
structure TL (w w' : World) (p b n : Nat) (V V' : Nat → Value) (L' : LL) (ws wt' : Int) (v : Value) (l : List Int) : Prop where
  t : TRep w' p b 0 n V' L' ws wt'
  i : IRow w' v l
  nw : ∀ g, v.ownBlock = some g → w.heap.size ≤ g
  tr : Tr (fun _ => False) w w' (TU p b n V) (TU p b n V')
set_option maxHeartbeats 1000000 in
theorem Release_no (w : World) (p b : Nat) (n : Nat) (V : Nat → Value) (L : LL) (ws wt : Int) (e o : Int) (h : TRep w p b 0 n V L ws wt) (he : ¬ (0 ≤ e ∧ e < (n : Int))) :
    Calls Try.prog 17 #[.pointer (some ⟨p, 0, none⟩), .int .i64 e, .int .i64 o] w fun e' w' => e' = .returned (.tuple #[.slice none 0 0, .int .i64 2]) ∧ TRep w' p b 0 n V L ws wt ∧ Chg (· = p) w w' := by
  have hmf := kmf
  have HG := hide (ask_no w p b n V L ws wt e o h he 37 (.inr (.inr (.inr rfl))) (fun args w => by rfl))
  clear h he
  unfold qRow at *
  go_enter Try.func17, Try.ntmps17
  go_wp2_with (go_at_call 31; refine HG.out.mono ?_; rintro e' w2 ⟨rfl, hq, hT, hC⟩; have HT := hide hT; have HC := hide hC; have c5 := hq.c 5; simp at c5; clear hT hC hq HG)
  go_ret2
  exact ⟨rfl, HT.out, HC.out⟩
set_option maxHeartbeats 1000000 in
theorem Release_yes (w : World) (p b : Nat) (n : Nat) (V : Nat → Value) (L : LL) (ws wt : Int) (e : Nat) (o : Int) (B : Nat) (h : TRep w p b 0 n V L ws wt) (he : e < n) (hw : WF n L ws wt B) (hB : B ≤ 3900000000000) :
    Calls Try.prog 17 #[.pointer (some ⟨p, 0, none⟩), .int .i64 (e : Int), .int .i64 o] w fun e' w' => ∃ v V', e' = .returned (.tuple #[v, .int .i64 (rls n L wt e o).err]) ∧ TL w w' p b n V V' (rls n L wt e o).L ws (rls n L wt e o).wt v (rls n L wt e o).inn := by
  have hmf := kmf
  obtain ⟨h1, q1⟩ := h.ask e o 0 1
  have ha := h.below ((Below.refl _ w).alloc (Nat.le_refl _) (.cells (qRow p e o 0) 77))
  have HRL := release_any _ p b 1 n V L ws wt w.heap.size e o 0 false (.slice none 0 0) [] 0 B h1 q1 (IRow.nil _) he hw hB (by simp)
  have hp := h.lt p (.inl rfl)
  have HP : Hid (w.heap.size ≠ p) := hide fun e => by omega
  have HB : Hid (∀ w1 V' v, TRep w1 p b 1 n V' (rls n L wt e o).L ws (rls n L wt e o).wt → IRow w1 v ([] ++ (rls n L wt e o).inn) → (∀ g, v.ownBlock = some g → (Value.slice none 0 0).ownBlock = some g ∨ ((w.alloc (.cells (qRow p e o 0) 77)).setCell ⟨p, 0, none⟩ (.int .i32 1)).heap.size ≤ g) → Tr (fun g => g = w.heap.size ∨ (Value.slice none 0 0).ownBlock = some g) ((w.alloc (.cells (qRow p e o 0) 77)).setCell ⟨p, 0, none⟩ (.int .i32 1)) w1 (TU p b n V) (TU p b n V') → TL w (w1.setCell ⟨p, 0, none⟩ (.int .i32 0)) p b n V V' (rls n L wt e o).L ws (rls n L wt e o).wt v (rls n L wt e o).inn) := hide fun w1 V' v k1 k2 k3 k4 => by
    obtain ⟨x1, x2⟩ := call_back h k1 (R := fun g => g = w.heap.size ∨ (Value.slice none 0 0).ownBlock = some g) (fun g e => by rcases e with e | e; omega; simp [Value.ownBlock] at e) k4
    refine ⟨x1, k2.kept fun g hg => Go.heap_setCell_other _ _ _ _ (show g ≠ p from fun e => ?_), fun g hg => ?_, x2⟩
    · rcases k3 g hg with h | h
      · simp [Value.ownBlock] at h
      · rw [World.size_setCell, World.size_alloc] at h; omega
    · rcases k3 g hg with h | h
      · simp [Value.ownBlock] at h
      · rw [World.size_setCell, World.size_alloc] at h; omega
  generalize rls n L wt e o = A at *
  have HG := hide (guarded_any 37 p w.heap.size _ (fun z w' => z = A.err ∧ ∃ V' v, QRep w' w.heap.size p e o 0 false v 0 ∧ (∃ a k c, v = .slice a k c) ∧ TL w (w'.setCell ⟨p, 0, none⟩ (.int .i32 0)) p b n V V' A.L ws A.wt v A.inn) (ha.c 0) (ha.f 0) (fun args w => by rfl) (HRL.mono (by
    rintro e' w' ⟨rfl, V', v, hT, hq, hi, hl, hTr⟩
    obtain ⟨a, c, ev, -, -⟩ := rowForm hi
    exact ⟨_, rfl, hT.c 0, hT.f 0, rfl, V', v, hq, ⟨a, _, c, ev⟩, HB.out _ _ _ hT hi hl hTr⟩)))
  clear h h1 q1 ha HRL HB
  unfold qRow at *
  go_enter Try.func17, Try.ntmps17
  go_wp2_with (go_at_call 31; refine HG.out.mono ?_; rintro e' w2 ⟨z, w1, rfl, ⟨rfl, V', v, hq, ⟨a, k, c, rfl⟩, hTL⟩, rfl⟩; have HT := hide hTL; have c5 := (hq.kept (w' := w1.setCell ⟨p, 0, none⟩ (.int .i32 0)) (Go.heap_setCell_other _ _ _ _ HP.out)).c 5; simp at c5; clear hTL hq HG)
  go_ret2
  exact ⟨_, V', rfl, HT.out⟩
/-- Release, whatever comes -/
theorem Release_any (w : World) (p b : Nat) (n : Nat) (V : Nat → Value) (L : LL) (ws wt : Int) (e : Int) (o : Int) (B : Nat) (h : TRep w p b 0 n V L ws wt) (hw : WF n L ws wt B) (hB : B ≤ 3900000000000) :
    Calls Try.prog 17 #[.pointer (some ⟨p, 0, none⟩), .int .i64 e, .int .i64 o] w fun e' w' => ∃ v V', e' = .returned (.tuple #[v, .int .i64 (rls n L wt e o).err]) ∧ TL w w' p b n V V' (rls n L wt e o).L ws (rls n L wt e o).wt v (rls n L wt e o).inn := by
  by_cases he : 0 ≤ e ∧ e < (n : Int)
  · obtain ⟨k, rfl⟩ : ∃ k : Nat, e = (k : Int) := ⟨e.toNat, by omega⟩
    exact Release_yes w p b n V L ws wt k o B h (by omega) hw hB
  · refine (Release_no w p b n V L ws wt e o h he).mono ?_
    rintro e' w' ⟨rfl, hT, hC⟩
    have er : rls n L wt e o = ⟨2, [], L, wt⟩ := by unfold rls; rw [if_pos he]
    rw [er]
    exact ⟨_, V, rfl, hT, IRow.nil _, fun g e => by simp [Value.ownBlock] at e, ⟨hC.mono fun g _ e => .inl (.inl e), fun g h => .inl h⟩⟩
end Go.Proofs.Ytijfnacplikibab
