import Derived.Test.YtcdmkbjibcahcabTLv
namespace Go.Proofs.Ytcdmkbjibcahcab
open Go.RowKit
set_option linter.unusedVariables false
set_option linter.unusedSimpArgs false
set_option maxRecDepth 20000

/-- a list's room: block and cell -/
def Rm (v : Value) (g i : Nat) : Prop := ∃ o n c, v = .slice (some ⟨g, o, none⟩) n c ∧ o ≤ i ∧ i < o + c * 3
/-- what leave gives -/
structure Lv (w w' : World) (p bm : Nat) (v : Value) (S : LS) (k : Nat) (lv v' : Value) : Prop where
  out : ERow w' lv (S.es.take k)
  own : ∀ g, lv.ownBlock = some g → v.ownBlock = some g
  tn : Tn w w' p bm v v' (leaveS S k)
  same : ∀ g, v'.ownBlock = some g → v.ownBlock = some g
  rm : ∀ g i, Rm lv g i → Rm v g i ∧ ¬ Rm v' g i
theorem Lv.from {w x w' : World} {p bm : Nat} {v : Value} {S S0 : LS} {k : Nat} {lv v' : Value} (h : Lv x w' p bm v S k lv v') (h0 : Tn w x p bm v v S0) : Lv w w' p bm v S k lv v' :=
  ⟨h.out, h.own, ⟨h.tn.rep, h0.chg.trans h.tn.chg, fun g e => .inl (h.same g e), h0.fr.pre h.tn.fr⟩, h.same, h.rm⟩
set_option maxHeartbeats 1000000 in
theorem leave_nil (w : World) (p bm : Nat) (S : LS) (h : LRep w p bm (.slice none 0 0) S) (hn : S.es = []) (hg : S.gone ≤ 16000000000000) : Calls Try.prog 43 #[.pointer (some ⟨p, 0, none⟩), .int .i64 0] w fun e w' =>
    e = .returned (.slice none 0 0) ∧ Lv w w' p bm (.slice none 0 0) S 0 (.slice none 0 0) (.slice none 0 0) := by
  have HST := hide (LvI.start (k := 0) (nv := .slice none 0 0) h)
  have HE : Hid (S.es = []) := hide hn
  have c3 := h.c3
  have c5 := h.c5
  have f3 := h.f 3
  have f5 := h.f 5
  clear h hn
  go_enter Try.func43, Try.ntmps43
  go_wp2_with fail
  go_loopw [34] (fun x wr => x = .int .i64 0 ∧ LvI w wr p bm (.slice none 0 0) (.slice none 0 0) S 0 0) (fun x _ => 0)
  case atStart => exact ⟨rfl, by simpa using HST.out⟩
  case round =>
    clear HST
    obtain ⟨rfl, hI⟩ := hrel
    have HI := hide hI
    clear hI
    go_wp2_with fail
    go_ret
    refine ⟨rfl, ⟨by rw [HE.out]; exact ERow.nil _, fun g e => e, HI.out.fin (fun x _ => by rw [HE.out]; exact ERow.nil _) (fun g e => e) (Fr.rfl1 _), fun g e => e, fun g i h => by obtain ⟨o, n, c, e, _⟩ := h; simp at e⟩⟩
theorem leave_any (w : World) (p bm : Nat) (v : Value) (S : LS) (k : Nat) (h : LRep w p bm v S) (hb : S.Bd) (hk : k ≤ S.es.length) (hg : S.gone ≤ 16000000000000) : Calls Try.prog 43 #[.pointer (some ⟨p, 0, none⟩), .int .i64 (k : Int)] w fun e w' => ∃ lv v', e = .returned lv ∧ Lv w w' p bm v S k lv v' := by
  have h' := h
  rcases h.lst with ⟨rfl, hn⟩ | ⟨g, off, cap, cur, rfl, q1, q2, q3, q4, q5⟩
  · have e0 : k = 0 := by rw [hn] at hk; simpa using hk
    subst e0
    refine (leave_nil w p bm S h hn hg).mono ?_
    rintro e w' ⟨rfl, q⟩
    exact ⟨_, _, rfl, q⟩
  · by_cases hc : k < cap
    · refine (leave_room w p bm g off cap S k _ (hide rfl) h hb hk hc hg).mono ?_
      rintro e w' ⟨rfl, r1, r2⟩
      refine ⟨_, _, rfl, ⟨r1, fun g e => e, r2, fun g e => e, fun g' i hr => ?_⟩⟩
      obtain ⟨o, n, c, e, q6, q7⟩ := hr
      simp only [Value.slice.injEq, Option.some.injEq, Addr.mk.injEq, and_true] at e
      obtain ⟨⟨rfl, rfl⟩, rfl, rfl⟩ := e
      refine ⟨⟨_, _, _, rfl, q6, by omega⟩, fun hr => ?_⟩
      obtain ⟨o, n, c, e, q8, q9⟩ := hr
      simp only [Value.slice.injEq, Option.some.injEq, Addr.mk.injEq, and_true, true_and] at e
      obtain ⟨e1, -, -⟩ := e
      omega
    · have e1 : S.es.length = k := by omega
      have e2 : cap = k := by omega
      subst e2
      rw [e1] at h
      refine (leave_full w p bm g off S cap (hide e1) h hb (Nat.le_refl _) hg).mono ?_
      rintro e w' ⟨rfl, r1, r2⟩
      rw [e1]
      refine ⟨_, _, rfl, ⟨r1, fun g e => e, r2, fun g e => e, fun g' i hr => ?_⟩⟩
      refine ⟨hr, fun hr2 => ?_⟩
      obtain ⟨o, n, c, e, q8, q9⟩ := hr2
      simp only [Value.slice.injEq, Option.some.injEq, Addr.mk.injEq, and_true, true_and] at e
      obtain ⟨-, -, e2⟩ := e
      omega
/-- may this epoch, of so many writes, leave? -/
def barB (S : LS) (ep cnt : Int) : Bool := !((S.now : Int) - oldE S == 0) && (ep == oldE S && cnt == (frontN S : Int))
theorem frontN_le (S : LS) : frontN S ≤ S.es.length := by
  unfold frontN
  exact (List.takeWhile_sublist _).length_le
set_option maxHeartbeats 1000000 in
theorem Barrier_no (w : World) (p bm : Nat) (v : Value) (S : LS) (ep cnt : Int) (h : LRep w p bm v S) (hb : S.Bd) (hn : S.now ≤ 16000000000000) (ho : 0 ≤ oldE S ∧ oldE S ≤ 16000000000000) (hbar : barB S ep cnt = false) : Calls Try.prog 30 #[.pointer (some ⟨p, 0, none⟩), .int .i64 ep, .int .i64 cnt] w fun e w' =>
    e = .returned (.tuple #[.slice none 0 0, .int .i64 101]) ∧ Tn w w' p bm v v S := by
  have HEP : Hid (∀ x, LRep x p bm v S → Calls Try.prog 15 #[.pointer (some ⟨p, 0, none⟩)] x fun e w' => e = .returned (.int .i64 ((S.now : Int) - oldE S)) ∧ Below x.heap.size x w') := hide fun x hx => (Epochs_any x p bm v S hx hb.es hn ho).mono fun e w' q => ⟨q.1, by obtain ⟨m, rfl⟩ := q.2; exact below_drew0 _ _⟩
  have HOL : Hid (∀ x, LRep x p bm v S → Calls Try.prog 34 #[.pointer (some ⟨p, 0, none⟩)] x fun e w' => e = .returned (.int .i64 (oldE S)) ∧ Below x.heap.size x w') := hide fun x hx => (oldest_any x p bm v S hx hb.es).mono fun e w' q => ⟨q.1, by obtain ⟨m, rfl⟩ := q.2; exact below_drew0 _ _⟩
  have HFR : Hid (∀ x, LRep x p bm v S → Calls Try.prog 42 #[.pointer (some ⟨p, 0, none⟩)] x fun e w' => e = .returned (.int .i64 (frontN S : Int)) ∧ Below x.heap.size x w') := hide fun x hx => (front_any x p bm v S hx hb.es).mono fun e w' q => ⟨q.1, by obtain ⟨m, rfl⟩ := q.2; exact below_drew0 _ _⟩
  have HT0 := hide (Tn.refl h)
  have hfl := frontN_le S
  have hel := hb.es
  clear h hb
  unfold barB at hbar
  generalize (S.now : Int) - oldE S = x at *
  generalize oldE S = y at *
  generalize frontN S = z at *
  cases h1 : (x == 0) with
  | true =>
    clear hbar
    go_enter Try.func30, Try.ntmps30
    go_wp2_with (first
      | (go_at_call 15; refine (HEP.out _ HT0.out.rep).mono ?_; rintro e w1 ⟨rfl, q⟩; have HT1 := hide (HT0.out.below q); clear q HT0)
      | (go_at_call 34; refine (HOL.out _ HT1.out.rep).mono ?_; rintro e w2 ⟨rfl, q⟩; have HT2 := hide (HT1.out.below q); clear q HT1)
      | (go_at_call 42; refine (HFR.out _ HT2.out.rep).mono ?_; rintro e w3 ⟨rfl, q⟩; have HT3 := hide (HT2.out.below q); clear q HT2))
    (try simp only [Exit.inBlock, Exit.then]); refine bodyPost_ret (results_tmp2 rfl _ _ _) rfl ?_
    exact ⟨rfl, HT1.out⟩
  | false =>
    cases h2 : (ep == y) with
    | false =>
      have h2' : (ep != y) = true := by rw [bne, h2]; rfl
      clear hbar
      go_enter Try.func30, Try.ntmps30
      go_wp2_with (first
      | (go_at_call 15; refine (HEP.out _ HT0.out.rep).mono ?_; rintro e w1 ⟨rfl, q⟩; have HT1 := hide (HT0.out.below q); clear q HT0)
      | (go_at_call 34; refine (HOL.out _ HT1.out.rep).mono ?_; rintro e w2 ⟨rfl, q⟩; have HT2 := hide (HT1.out.below q); clear q HT1)
      | (go_at_call 42; refine (HFR.out _ HT2.out.rep).mono ?_; rintro e w3 ⟨rfl, q⟩; have HT3 := hide (HT2.out.below q); clear q HT2))
      (try simp only [Exit.inBlock, Exit.then]); refine bodyPost_ret (results_tmp2 rfl _ _ _) rfl ?_
      exact ⟨rfl, HT2.out⟩
    | true =>
      have h2' : (ep != y) = false := by rw [bne, h2]; rfl
      have h3' : (cnt != (z : Int)) = true := by
        rw [h1, h2] at hbar
        simp at hbar
        simpa using hbar
      clear hbar
      go_enter Try.func30, Try.ntmps30
      go_wp2_with (first
      | (go_at_call 15; refine (HEP.out _ HT0.out.rep).mono ?_; rintro e w1 ⟨rfl, q⟩; have HT1 := hide (HT0.out.below q); clear q HT0)
      | (go_at_call 34; refine (HOL.out _ HT1.out.rep).mono ?_; rintro e w2 ⟨rfl, q⟩; have HT2 := hide (HT1.out.below q); clear q HT1)
      | (go_at_call 42; refine (HFR.out _ HT2.out.rep).mono ?_; rintro e w3 ⟨rfl, q⟩; have HT3 := hide (HT2.out.below q); clear q HT2))
      (try simp only [Exit.inBlock, Exit.then]); refine bodyPost_ret (results_tmp2 rfl _ _ _) rfl ?_
      exact ⟨rfl, HT3.out⟩
set_option maxHeartbeats 1000000 in
theorem Barrier_ok (w : World) (p bm : Nat) (v : Value) (S : LS) (ep cnt : Int) (h : LRep w p bm v S) (hb : S.Bd) (hn : S.now ≤ 16000000000000) (ho : 0 ≤ oldE S ∧ oldE S ≤ 16000000000000) (hg : S.gone ≤ 16000000000000) (hbar : barB S ep cnt = true) : Calls Try.prog 30 #[.pointer (some ⟨p, 0, none⟩), .int .i64 ep, .int .i64 cnt] w fun e w' =>
    ∃ lv v', e = .returned (.tuple #[lv, .int .i64 0]) ∧ Lv w w' p bm v S (frontN S) lv v' := by
  have HEP : Hid (∀ x, LRep x p bm v S → Calls Try.prog 15 #[.pointer (some ⟨p, 0, none⟩)] x fun e w' => e = .returned (.int .i64 ((S.now : Int) - oldE S)) ∧ Below x.heap.size x w') := hide fun x hx => (Epochs_any x p bm v S hx hb.es hn ho).mono fun e w' q => ⟨q.1, by obtain ⟨m, rfl⟩ := q.2; exact below_drew0 _ _⟩
  have HOL : Hid (∀ x, LRep x p bm v S → Calls Try.prog 34 #[.pointer (some ⟨p, 0, none⟩)] x fun e w' => e = .returned (.int .i64 (oldE S)) ∧ Below x.heap.size x w') := hide fun x hx => (oldest_any x p bm v S hx hb.es).mono fun e w' q => ⟨q.1, by obtain ⟨m, rfl⟩ := q.2; exact below_drew0 _ _⟩
  have HFR : Hid (∀ x, LRep x p bm v S → Calls Try.prog 42 #[.pointer (some ⟨p, 0, none⟩)] x fun e w' => e = .returned (.int .i64 (frontN S : Int)) ∧ Below x.heap.size x w') := hide fun x hx => (front_any x p bm v S hx hb.es).mono fun e w' q => ⟨q.1, by obtain ⟨m, rfl⟩ := q.2; exact below_drew0 _ _⟩
  have HT0 := hide (Tn.refl h)
  have hfl := frontN_le S
  have hel := hb.es
  have HLV : Hid (∀ x, LRep x p bm v S → Calls Try.prog 43 #[.pointer (some ⟨p, 0, none⟩), .int .i64 (frontN S : Int)] x fun e w' => ∃ lv v', e = .returned lv ∧ Lv x w' p bm v S (frontN S) lv v') := hide fun x hx => leave_any x p bm v S (frontN S) hx hb hfl hg
  clear h hb
  unfold barB at hbar
  rw [Bool.and_eq_true, Bool.and_eq_true, Bool.not_eq_true', beq_iff_eq, beq_iff_eq] at hbar
  obtain ⟨h1, rfl, rfl⟩ := hbar
  generalize (S.now : Int) - oldE S = x at *
  generalize oldE S = y at *
  generalize frontN S = z at *
  have h2 : (y != y) = false := by simp
  have h3 : (((z : Nat) : Int) != ((z : Nat) : Int)) = false := by simp
  go_enter Try.func30, Try.ntmps30
  go_wp2_with (first
      | (go_at_call 15; refine (HEP.out _ HT0.out.rep).mono ?_; rintro e w1 ⟨rfl, q⟩; have HT1 := hide (HT0.out.below q); clear q HT0)
      | (go_at_call 34; refine (HOL.out _ HT1.out.rep).mono ?_; rintro e w2 ⟨rfl, q⟩; have HT2 := hide (HT1.out.below q); clear q HT1)
      | (go_at_call 42; refine (HFR.out _ HT2.out.rep).mono ?_; rintro e w3 ⟨rfl, q⟩; have HT3 := hide (HT2.out.below q); clear q HT2)
      | (go_at_call 43; refine (HLV.out _ HT3.out.rep).mono ?_; rintro e w4 ⟨lv, v', rfl, q⟩; have HQ := hide (q.from HT3.out); clear q))
  (try simp only [Exit.inBlock, Exit.then]); refine bodyPost_ret (results_tmp2 rfl _ _ _) rfl ?_
  exact ⟨lv, v', rfl, HQ.out⟩
end Go.Proofs.Ytcdmkbjibcahcab
