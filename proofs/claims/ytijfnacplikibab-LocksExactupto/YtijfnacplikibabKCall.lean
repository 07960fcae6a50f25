import Derived.Test.YtijfnacplikibabKSee
namespace Go.Proofs.Ytijfnacplikibab
open Go.RowKit
set_option linter.unusedVariables false
set_option linter.unusedSimpArgs false
set_option maxRecDepth 20000

theorem kmf : ∀ (fn : Fn) (first cap : Array Value) (w : World), (Instr.makeFunc fn first cap).run Try.prog w = .ok (.func fn first cap) w := fun _ _ _ _ => rfl
/-- what a call asks -/
def qRow (p : Nat) (e o md : Int) : Array Value := #[.pointer (some ⟨p, 0, none⟩), .int .i64 e, .int .i64 o, .int .i64 md, .bool false, .slice none 0 0, .int .i64 0]
theorem q_new (w : World) (p : Nat) (e o md : Int) : QRep (w.alloc (.cells (qRow p e o md) 77)) w.heap.size p e o md false (.slice none 0 0) 0 := ⟨Go.heap_alloc_new _ _⟩
section
variable {w : World} {p b : Nat} {m : Int} {n : Nat} {V : Nat → Value} {L : Nat → List (Int × Int)} {ws wt : Int}
/-- the table, the mutex taken, a new request beside it -/
theorem TRep.ask (h : TRep w p b m n V L ws wt) (e o md : Int) (m' : Int) : TRep ((w.alloc (.cells (qRow p e o md) 77)).setCell ⟨p, 0, none⟩ (.int .i32 m')) p b m' n V L ws wt ∧ QRep ((w.alloc (.cells (qRow p e o md) 77)).setCell ⟨p, 0, none⟩ (.int .i32 m')) w.heap.size p e o md false (.slice none 0 0) 0 := by
  have h1 := h.below ((Below.refl _ w).alloc (Nat.le_refl _) (.cells (qRow p e o md) 77))
  refine ⟨h1.lock m', (q_new w p e o md).kept (Go.heap_setCell_other _ _ _ _ (show w.heap.size ≠ p from fun e => ?_))⟩
  have := h.lt p (.inl rfl)
  omega
end
/-- behind a call that only asks: w0 ahead of it, w1 behind its work (mutex taken) -/
theorem ask_back {w w1 : World} {p b : Nat} {m : Int} {n : Nat} {V : Nat → Value} {L : Nat → List (Int × Int)} {ws wt : Int} (h : TRep w p b m n V L ws wt) {e o md m1 m2 : Int} (hc : Chg (· = w.heap.size) ((w.alloc (.cells (qRow p e o md) 77)).setCell ⟨p, 0, none⟩ (.int .i32 m1)) w1) :
    TRep w1 p b m1 n V L ws wt ∧ TRep (w1.setCell ⟨p, 0, none⟩ (.int .i32 m2)) p b m2 n V L ws wt ∧ Chg (· = p) w (w1.setCell ⟨p, 0, none⟩ (.int .i32 m2)) := by
  obtain ⟨h1, -⟩ := h.ask e o md m1
  have hlt := h.lt
  have h2 : TRep w1 p b m1 n V L ws wt := h1.kept fun g hg => hc.keep g (by rw [World.size_setCell, World.size_alloc]; have := hlt g hg; omega) (by have := hlt g hg; omega)
  refine ⟨h2, h2.lock m2, ?_⟩
  have h3 : Chg (· = p) w w1 := ⟨hc.os, hc.tape, hc.output, by have := hc.size; rw [World.size_setCell, World.size_alloc] at this; omega, fun g hg hn => by
    rw [hc.keep g (by rw [World.size_setCell, World.size_alloc]; omega) (by omega), Go.heap_setCell_other _ _ _ _ (show g ≠ p from hn)]
    exact Below.heap_alloc _ _ g hg⟩
  exact h3.set p 0 _ (.inl rfl)
set_option maxHeartbeats 1000000 in
theorem Waiting_any (w : World) (p b : Nat) (n : Nat) (V : Nat → Value) (L : Nat → List (Int × Int)) (ws wt : Int) (h : TRep w p b 0 n V L ws wt) :
    Calls Try.prog 29 #[.pointer (some ⟨p, 0, none⟩)] w fun e' w' => e' = .returned (.int .i64 wt) ∧ TRep w' p b 0 n V L ws wt ∧ Chg (· = p) w w' := by
  have hmf := kmf
  obtain ⟨h1, q1⟩ := h.ask 0 0 0 1
  have ha := h.below ((Below.refl _ w).alloc (Nat.le_refl _) (.cells (qRow p 0 0 0) 77))
  have HG := hide (guarded_any 42 p w.heap.size _ (fun z w' => z = 0 ∧ QRep w' w.heap.size p 0 0 0 false (.slice none 0 0) wt ∧ Chg (· = w.heap.size) ((w.alloc (.cells (qRow p 0 0 0) 77)).setCell ⟨p, 0, none⟩ (.int .i32 1)) w') (ha.c 0) (ha.f 0) (fun args w => by rfl) ((seeWaiting_any _ p b 1 n V L ws wt w.heap.size 0 0 0 false (.slice none 0 0) 0 h1 q1).mono (by
    rintro e' w' ⟨rfl, hq, hc⟩
    have h2 := (ask_back (m2 := 0) h hc).1
    exact ⟨0, rfl, h2.c 0, h2.f 0, rfl, hq, hc⟩)))
  have HB : Hid (∀ w1, Chg (· = w.heap.size) ((w.alloc (.cells (qRow p 0 0 0) 77)).setCell ⟨p, 0, none⟩ (.int .i32 1)) w1 → _) := hide fun w1 hc => (ask_back (m2 := 0) h hc).2
  have HP : Hid (w.heap.size ≠ p) := hide fun e => by have := h.lt p (.inl rfl); omega
  clear h h1 q1 ha
  unfold qRow at *
  go_enter Try.func29, Try.ntmps29
  go_wp2_with (go_at_call 31; refine HG.out.mono ?_; rintro e' w2 ⟨z, w1, rfl, ⟨rfl, hq, hc⟩, rfl⟩; obtain ⟨hT, hC⟩ := HB.out _ hc; have HT := hide hT; have HC := hide hC; have c6 := (hq.kept (w' := w1.setCell ⟨p, 0, none⟩ (.int .i32 0)) (Go.heap_setCell_other _ _ _ _ HP.out)).c 6; simp at c6; clear hT hC hq hc HG HB)
  go_ret
  exact ⟨rfl, HT.out, HC.out⟩
set_option maxHeartbeats 1000000 in
theorem Waiters_any (w : World) (p b : Nat) (n : Nat) (V : Nat → Value) (L : Nat → List (Int × Int)) (ws wt : Int) (e : Nat) (h : TRep w p b 0 n V L ws wt) (he : e < n) (hb : (L (e * 2 + 1)).length ≤ 8000000000000) :
    Calls Try.prog 27 #[.pointer (some ⟨p, 0, none⟩), .int .i64 (e : Int)] w fun e' w' => ∃ v, e' = .returned (.tuple #[v, .int .i64 0]) ∧ TRep w' p b 0 n V L ws wt ∧ Chg (· = p) w w' ∧ IRow w' v ((L (e * 2 + 1)).map Prod.fst) ∧ ∀ g, v.ownBlock = some g → w.heap.size ≤ g := by
  have hmf := kmf
  obtain ⟨h1, q1⟩ := h.ask e 0 0 1
  have ha := h.below ((Below.refl _ w).alloc (Nat.le_refl _) (.cells (qRow p e 0 0) 77))
  have HG := hide (guarded_any 41 p w.heap.size _ (fun z w' => z = 0 ∧ Chg (· = w.heap.size) ((w.alloc (.cells (qRow p e 0 0) 77)).setCell ⟨p, 0, none⟩ (.int .i32 1)) w' ∧ ∃ v, QRep w' w.heap.size p e 0 0 false v 0 ∧ IRow w' v ((L (e * 2 + 1)).map Prod.fst) ∧ ∀ g, v.ownBlock = some g → ((w.alloc (.cells (qRow p e 0 0) 77)).setCell ⟨p, 0, none⟩ (.int .i32 1)).heap.size ≤ g) (ha.c 0) (ha.f 0) (fun args w => by rfl) ((seeWaiters_any _ p b 1 n V L ws wt w.heap.size e 0 0 false (.slice none 0 0) 0 h1 q1 he hb).mono (by
    rintro e' w' ⟨v, rfl, hq, hc, hi, hl⟩
    have h2 := (ask_back (m2 := 0) h hc).1
    exact ⟨0, rfl, h2.c 0, h2.f 0, rfl, hc, v, hq, hi, hl⟩)))
  have HB : Hid (∀ w1, Chg (· = w.heap.size) ((w.alloc (.cells (qRow p e 0 0) 77)).setCell ⟨p, 0, none⟩ (.int .i32 1)) w1 → _) := hide fun w1 hc => (ask_back (m2 := 0) h hc).2
  have HP : Hid (w.heap.size ≠ p) := hide fun e => by have := h.lt p (.inl rfl); omega
  have HPL : Hid (p < w.heap.size) := hide (h.lt p (.inl rfl))
  clear h h1 q1 ha
  unfold qRow at *
  go_enter Try.func27, Try.ntmps27
  go_wp2_with (go_at_call 31; refine HG.out.mono ?_; rintro e' w2 ⟨z, w1, rfl, ⟨rfl, hc, v, hq, hi4, hl4⟩, rfl⟩; obtain ⟨hT, hC⟩ := HB.out _ hc; have HT := hide hT; have HC := hide hC; have hq2 := hq.kept (w' := w1.setCell ⟨p, 0, none⟩ (.int .i32 0)) (Go.heap_setCell_other _ _ _ _ HP.out); obtain ⟨a4, k4, h4, -, -⟩ := rowForm hi4; rw [List.length_map] at h4; subst h4; have HI4 := hide hi4; have HL4 := hide hl4; clear hi4 hl4; have c5 := hq2.c 5; simp at c5; clear hT hC hq hc HG HB hq2)
  go_ret2
  exact ⟨_, rfl, HT.out, HC.out, (HI4.out.kept fun g hg => Go.heap_setCell_other _ _ _ _ (show g ≠ p from fun h => by have h1 := HL4.out g hg; rw [World.size_setCell, World.size_alloc] at h1; have h2 := HPL.out; omega)), (fun g hg => by have h1 := HL4.out g hg; rw [World.size_setCell, World.size_alloc] at h1; omega)⟩
set_option maxHeartbeats 1000000 in
theorem Holders_any (w : World) (p b : Nat) (n : Nat) (V : Nat → Value) (L : Nat → List (Int × Int)) (ws wt : Int) (e : Nat) (h : TRep w p b 0 n V L ws wt) (he : e < n) (hb : (L (e * 2)).length ≤ 8000000000000) :
    Calls Try.prog 25 #[.pointer (some ⟨p, 0, none⟩), .int .i64 (e : Int)] w fun e' w' => ∃ v, e' = .returned (.tuple #[v, .int .i64 (modeOf (L (e * 2))), .int .i64 0]) ∧ TRep w' p b 0 n V L ws wt ∧ Chg (· = p) w w' ∧ IRow w' v ((L (e * 2)).map Prod.fst) ∧ ∀ g, v.ownBlock = some g → w.heap.size ≤ g := by
  have hmf := kmf
  obtain ⟨h1, q1⟩ := h.ask e 0 0 1
  have ha := h.below ((Below.refl _ w).alloc (Nat.le_refl _) (.cells (qRow p e 0 0) 77))
  have HG := hide (guarded_any 40 p w.heap.size _ (fun z w' => z = 0 ∧ Chg (· = w.heap.size) ((w.alloc (.cells (qRow p e 0 0) 77)).setCell ⟨p, 0, none⟩ (.int .i32 1)) w' ∧ ∃ v, QRep w' w.heap.size p e 0 0 false v (modeOf (L (e * 2))) ∧ IRow w' v ((L (e * 2)).map Prod.fst) ∧ ∀ g, v.ownBlock = some g → ((w.alloc (.cells (qRow p e 0 0) 77)).setCell ⟨p, 0, none⟩ (.int .i32 1)).heap.size ≤ g) (ha.c 0) (ha.f 0) (fun args w => by rfl) ((seeHolders_any _ p b 1 n V L ws wt w.heap.size e 0 0 false (.slice none 0 0) 0 h1 q1 he hb).mono (by
    rintro e' w' ⟨v, rfl, hq, hc, hi, hl⟩
    have h2 := (ask_back (m2 := 0) h hc).1
    exact ⟨0, rfl, h2.c 0, h2.f 0, rfl, hc, v, hq, hi, hl⟩)))
  have HB : Hid (∀ w1, Chg (· = w.heap.size) ((w.alloc (.cells (qRow p e 0 0) 77)).setCell ⟨p, 0, none⟩ (.int .i32 1)) w1 → _) := hide fun w1 hc => (ask_back (m2 := 0) h hc).2
  have HP : Hid (w.heap.size ≠ p) := hide fun e => by have := h.lt p (.inl rfl); omega
  have HPL : Hid (p < w.heap.size) := hide (h.lt p (.inl rfl))
  clear h h1 q1 ha
  unfold qRow at *
  go_enter Try.func25, Try.ntmps25
  go_wp2_with (go_at_call 31; refine HG.out.mono ?_; rintro e' w2 ⟨z, w1, rfl, ⟨rfl, hc, v, hq, hi4, hl4⟩, rfl⟩; obtain ⟨hT, hC⟩ := HB.out _ hc; have HT := hide hT; have HC := hide hC; have hq2 := hq.kept (w' := w1.setCell ⟨p, 0, none⟩ (.int .i32 0)) (Go.heap_setCell_other _ _ _ _ HP.out); obtain ⟨a4, k4, h4, -, -⟩ := rowForm hi4; rw [List.length_map] at h4; subst h4; have HI4 := hide hi4; have HL4 := hide hl4; clear hi4 hl4; have c5 := hq2.c 5; have c6 := hq2.c 6; simp at c5 c6; clear hT hC hq hc HG HB hq2)
  go_quiet (fail)
  try go_wp2
  go_ret3
  exact ⟨_, rfl, HT.out.kept fun _ _ => rfl, HC.out.thenB ⟨rfl, rfl, rfl, Nat.le_refl _, fun _ _ => rfl⟩, (HI4.out.kept fun g hg => Go.heap_setCell_other _ _ _ _ (show g ≠ p from fun h => by have h1 := HL4.out g hg; rw [World.size_setCell, World.size_alloc] at h1; have h2 := HPL.out; omega)), (fun g hg => by have h1 := HL4.out g hg; rw [World.size_setCell, World.size_alloc] at h1; omega)⟩
set_option maxHeartbeats 1000000 in
theorem Holds_any (w : World) (p b : Nat) (n : Nat) (V : Nat → Value) (L : Nat → List (Int × Int)) (ws wt : Int) (e : Nat) (o : Int) (h : TRep w p b 0 n V L ws wt) (he : e < n) :
    Calls Try.prog 23 #[.pointer (some ⟨p, 0, none⟩), .int .i64 (e : Int), .int .i64 o] w fun e' w' => e' = .returned (.bool (has (L (e * 2)) o)) ∧ TRep w' p b 0 n V L ws wt ∧ Chg (· = p) w w' := by
  have hmf := kmf
  obtain ⟨h1, q1⟩ := h.ask e o 0 1
  have ha := h.below ((Below.refl _ w).alloc (Nat.le_refl _) (.cells (qRow p e o 0) 77))
  have HG := hide (guarded_any 39 p w.heap.size _ (fun z w' => z = 0 ∧ Chg (· = w.heap.size) ((w.alloc (.cells (qRow p e o 0) 77)).setCell ⟨p, 0, none⟩ (.int .i32 1)) w' ∧ QRep w' w.heap.size p e o 0 (has (L (e * 2)) o) (.slice none 0 0) 0) (ha.c 0) (ha.f 0) (fun args w => by rfl) ((seeHold_any _ p b 1 n V L ws wt w.heap.size e o 0 false (.slice none 0 0) 0 h1 q1 he).mono (by
    rintro e' w' ⟨rfl, hq, hc⟩
    have h2 := (ask_back (m2 := 0) h hc).1
    exact ⟨0, rfl, h2.c 0, h2.f 0, rfl, hc, hq⟩)))
  have HB : Hid (∀ w1, Chg (· = w.heap.size) ((w.alloc (.cells (qRow p e o 0) 77)).setCell ⟨p, 0, none⟩ (.int .i32 1)) w1 → _) := hide fun w1 hc => (ask_back (m2 := 0) h hc).2
  have HP : Hid (w.heap.size ≠ p) := hide fun e => by have := h.lt p (.inl rfl); omega
  have HPL : Hid (p < w.heap.size) := hide (h.lt p (.inl rfl))
  clear h h1 q1 ha
  unfold qRow at *
  go_enter Try.func23, Try.ntmps23
  go_wp2_with (go_at_call 31; refine HG.out.mono ?_; rintro e' w2 ⟨z, w1, rfl, ⟨rfl, hc, hq⟩, rfl⟩; obtain ⟨hT, hC⟩ := HB.out _ hc; have HT := hide hT; have HC := hide hC; have hq2 := hq.kept (w' := w1.setCell ⟨p, 0, none⟩ (.int .i32 0)) (Go.heap_setCell_other _ _ _ _ HP.out); have c4 := hq2.c 4; simp at c4; clear hT hC hq hc HG HB hq2)
  go_ret
  exact ⟨rfl, HT.out, HC.out⟩
set_option maxHeartbeats 1000000 in
theorem ask_no (w : World) (p b : Nat) (n : Nat) (V : Nat → Value) (L : Nat → List (Int × Int)) (ws wt : Int) (e : Int) (o : Int) (h : TRep w p b 0 n V L ws wt) (he : ¬ (0 ≤ e ∧ e < (n : Int))) (K : Nat) (hK : K = 41 ∨ K = 40 ∨ K = 39 ∨ K = 37) (eK : ∀ args w, (callFunc K args).run Try.prog w = .ok (.enter K args) w) :
    Calls Try.prog 31 #[.pointer (some ⟨p, 0, none⟩), .func (.func K) #[.pointer (some ⟨w.heap.size, 0, none⟩)] #[]] (w.alloc (.cells (qRow p e o 0) 77)) fun e' w' => e' = .returned (.int .i64 2) ∧ QRep w' w.heap.size p e o 0 false (.slice none 0 0) 0 ∧ TRep w' p b 0 n V L ws wt ∧ Chg (· = p) w w' := by
  obtain ⟨h1, q1⟩ := h.ask e o 0 1
  have ha := h.below ((Below.refl _ w).alloc (Nat.le_refl _) (.cells (qRow p e o 0) 77))
  refine (guarded_any K p w.heap.size _ (fun z w' => z = 2 ∧ Below ((w.alloc (.cells (qRow p e o 0) 77)).setCell ⟨p, 0, none⟩ (.int .i32 1)).heap.size ((w.alloc (.cells (qRow p e o 0) 77)).setCell ⟨p, 0, none⟩ (.int .i32 1)) w') (ha.c 0) (ha.f 0) eK ((see_no _ p b 1 n V L ws wt w.heap.size e o 0 false (.slice none 0 0) 0 h1 q1 he K hK).mono (by
    rintro e' w' ⟨rfl, hb⟩
    have h2 := h1.below hb
    exact ⟨2, rfl, h2.c 0, h2.f 0, rfl, hb⟩))).mono ?_
  rintro e' w' ⟨z, w1, rfl, ⟨rfl, hb⟩, rfl⟩
  have hp := h.lt p (.inl rfl)
  have h3 := ask_back (m2 := 0) h (e := e) (o := o) (md := 0) (m1 := 1) (w1 := w1) (Chg.ofBelow hb)
  exact ⟨rfl, (q1.kept (hb.block _ (by rw [World.size_setCell, World.size_alloc]; omega))).kept (Go.heap_setCell_other _ _ _ _ (show w.heap.size ≠ p by omega)), h3.2.1, h3.2.2⟩
set_option maxHeartbeats 1000000 in
theorem Waiters_no (w : World) (p b : Nat) (n : Nat) (V : Nat → Value) (L : Nat → List (Int × Int)) (ws wt : Int) (e : Int) (h : TRep w p b 0 n V L ws wt) (he : ¬ (0 ≤ e ∧ e < (n : Int))) :
    Calls Try.prog 27 #[.pointer (some ⟨p, 0, none⟩), .int .i64 e] w fun e' w' => e' = .returned (.tuple #[.slice none 0 0, .int .i64 2]) ∧ TRep w' p b 0 n V L ws wt ∧ Chg (· = p) w w' := by
  have hmf := kmf
  have HG := hide (ask_no w p b n V L ws wt e 0 h he 41 (.inl rfl) (fun args w => by rfl))
  clear h he
  unfold qRow at *
  go_enter Try.func27, Try.ntmps27
  go_wp2_with (go_at_call 31; refine HG.out.mono ?_; rintro e' w2 ⟨rfl, hq, hT, hC⟩; have HT := hide hT; have HC := hide hC; have c5 := hq.c 5; simp at c5; clear hT hC hq HG)
  go_ret2
  exact ⟨rfl, HT.out, HC.out⟩
set_option maxHeartbeats 1000000 in
theorem Holders_no (w : World) (p b : Nat) (n : Nat) (V : Nat → Value) (L : Nat → List (Int × Int)) (ws wt : Int) (e : Int) (h : TRep w p b 0 n V L ws wt) (he : ¬ (0 ≤ e ∧ e < (n : Int))) :
    Calls Try.prog 25 #[.pointer (some ⟨p, 0, none⟩), .int .i64 e] w fun e' w' => e' = .returned (.tuple #[.slice none 0 0, .int .i64 0, .int .i64 2]) ∧ TRep w' p b 0 n V L ws wt ∧ Chg (· = p) w w' := by
  have hmf := kmf
  have HG := hide (ask_no w p b n V L ws wt e 0 h he 40 (.inr (.inl rfl)) (fun args w => by rfl))
  clear h he
  unfold qRow at *
  go_enter Try.func25, Try.ntmps25
  go_wp2_with (go_at_call 31; refine HG.out.mono ?_; rintro e' w2 ⟨rfl, hq, hT, hC⟩; have HT := hide hT; have HC := hide hC; have c5 := hq.c 5; have c6 := hq.c 6; simp at c5 c6; clear hT hC hq HG)
  go_quiet (fail)
  try go_wp2
  go_ret3
  exact ⟨rfl, HT.out.kept fun _ _ => rfl, HC.out.thenB ⟨rfl, rfl, rfl, Nat.le_refl _, fun _ _ => rfl⟩⟩
set_option maxHeartbeats 1000000 in
theorem Holds_no (w : World) (p b : Nat) (n : Nat) (V : Nat → Value) (L : Nat → List (Int × Int)) (ws wt : Int) (e o : Int) (h : TRep w p b 0 n V L ws wt) (he : ¬ (0 ≤ e ∧ e < (n : Int))) :
    Calls Try.prog 23 #[.pointer (some ⟨p, 0, none⟩), .int .i64 e, .int .i64 o] w fun e' w' => e' = .returned (.bool false) ∧ TRep w' p b 0 n V L ws wt ∧ Chg (· = p) w w' := by
  have hmf := kmf
  have HG := hide (ask_no w p b n V L ws wt e o h he 39 (.inr (.inr (.inl rfl))) (fun args w => by rfl))
  clear h he
  unfold qRow at *
  go_enter Try.func23, Try.ntmps23
  go_wp2_with (go_at_call 31; refine HG.out.mono ?_; rintro e' w2 ⟨rfl, hq, hT, hC⟩; have HT := hide hT; have HC := hide hC; have c5 := hq.c 4; simp at c5; clear hT hC hq HG)
  go_ret
  exact ⟨rfl, HT.out, HC.out⟩
end Go.Proofs.Ytijfnacplikibab
