import Derived.Test.YtcdmkbjibcahcabTBar
namespace Go.Proofs.Ytcdmkbjibcahcab
open Go.RowKit
set_option linter.unusedVariables false
set_option linter.unusedSimpArgs false
set_option maxRecDepth 20000

set_option maxHeartbeats 1000000 in
theorem Fail_any (w : World) (p bm : Nat) (v : Value) (S : LS) (h : LRep w p bm v S) (hb : S.Bd) (hg : S.gone ≤ 16000000000000) : Calls Try.prog 32 #[.pointer (some ⟨p, 0, none⟩)] w fun e w' => ∃ lv v', e = .returned lv ∧ Lv w w' p bm v { S with now := 1 } S.es.length lv v' := by
  have HT : Hid (Tn w (w.setCell ⟨p, 2, none⟩ (.int .i64 1)) p bm v v { S with now := 1 }) := hide ⟨h.setNow 1, chg_set (Chg.refl _ w) p 2 _ (.inl (.inl rfl)), fun g e => .inl e, (Fr.refl w v).set p 2 _ fun g e _ => (h.ap.2 g e).1⟩
  have HLV : Hid (∀ x, LRep x p bm v { S with now := 1 } → Calls Try.prog 43 #[.pointer (some ⟨p, 0, none⟩), .int .i64 (S.es.length : Int)] x fun e w' => ∃ lv v', e = .returned lv ∧ Lv x w' p bm v { S with now := 1 } S.es.length lv v') := hide fun x hx => leave_any x p bm v { S with now := 1 } _ hx ⟨hb.l1, hb.l2, hb.e1, hb.e2, hb.ln, hb.nd, hb.ok, Nat.le_refl _⟩ (Nat.le_refl _) hg
  have c2 := h.c2
  have f2 := h.f 2
  obtain ⟨a, c, rfl, b1, b2, hc⟩ := h.lst.form
  have d3 := HT.out.rep.c3
  clear h hb hc
  generalize S.es.length = n at *
  go_enter Try.func32, Try.ntmps32
  go_wp2_with (go_at_call 43; refine (HLV.out _ HT.out.rep).mono ?_; rintro e w4 ⟨lv, v', rfl, q⟩; have HQ := hide (q.from HT.out); clear q)
  go_ret
  exact ⟨lv, v', rfl, HQ.out⟩
def newS (lim ep : Nat) : LS := ⟨lim, ep, 1, 0, []⟩
set_option maxHeartbeats 1000000 in
theorem New_ok (w : World) (lim ep : Nat) (h1 : 1 ≤ lim) (h2 : lim ≤ 1024) (h3 : 1 ≤ ep) (h4 : ep ≤ 64) : Calls Try.prog 8 #[.int .i64 (lim : Int), .int .i64 (ep : Int)] w fun e w' => ∃ p bm, e = .returned (.tuple #[.pointer (some ⟨p, 0, none⟩), .int .i64 0]) ∧ LRep w' p bm (.slice none 0 0) (newS lim ep) ∧ Below w.heap.size w w' ∧ w.heap.size ≤ p ∧ w.heap.size ≤ bm := by
  have hmm := fun W : World => run_makeMap (P := Try.prog) 67 W
  have HF : Hid (LRep ((w.alloc (.map #[] 0)).alloc (.cells #[.int .i64 (lim : Int), .int .i64 (ep : Int), .int .i64 1, .slice none 0 0, .map (some w.heap.size), .int .i64 0] 69)) (w.heap.size + 1) w.heap.size (.slice none 0 0) (newS lim ep)) := hide (by
    refine ⟨?_, ERow.nil _, (MS.new w).kept (RowKit.Below.heap_alloc _ _ _ (by simp))⟩
    have := Go.heap_alloc_new (w.alloc (.map #[] 0)) (.cells #[.int .i64 (lim : Int), .int .i64 (ep : Int), .int .i64 1, .slice none 0 0, .map (some w.heap.size), .int .i64 0] 69)
    rw [World.size_alloc] at this
    exact this)
  go_enter Try.func8, Try.ntmps8
  go_wp2_with fail
  (try simp only [Exit.inBlock, Exit.then]); refine bodyPost_ret (results_tmp2 rfl _ _ _) rfl ?_
  exact ⟨_, _, rfl, HF.out, below_alloc2 w _ _, by omega, Nat.le_refl _⟩
set_option maxHeartbeats 1000000 in
theorem New_bad (w : World) (lim ep : Int) (h : ¬ (1 ≤ lim ∧ lim ≤ 1024 ∧ 1 ≤ ep ∧ ep ≤ 64)) : Calls Try.prog 8 #[.int .i64 lim, .int .i64 ep] w fun e w' => e = .returned (.tuple #[.pointer none, .int .i64 1]) ∧ Below w.heap.size w w' := by
  have hmm := fun W : World => run_makeMap (P := Try.prog) 67 W
  have h5 : (decide (lim < 1) || decide (1024 < lim) || decide (ep < 1) || decide (64 < ep)) = true := by
    simp only [Bool.or_eq_true, decide_eq_true_eq]
    omega
  by_cases h1 : lim < 1
  · go_enter Try.func8, Try.ntmps8
    go_wp2_with fail
    (try simp only [Exit.inBlock, Exit.then]); refine bodyPost_ret (results_tmp2 rfl _ _ _) rfl ?_
    exact ⟨rfl, Below.refl _ _⟩
  · by_cases h2 : 1024 < lim
    · go_enter Try.func8, Try.ntmps8
      go_wp2_with fail
      (try simp only [Exit.inBlock, Exit.then]); refine bodyPost_ret (results_tmp2 rfl _ _ _) rfl ?_
      exact ⟨rfl, Below.refl _ _⟩
    · by_cases h3 : ep < 1
      · go_enter Try.func8, Try.ntmps8
        go_wp2_with fail
        (try simp only [Exit.inBlock, Exit.then]); refine bodyPost_ret (results_tmp2 rfl _ _ _) rfl ?_
        exact ⟨rfl, Below.refl _ _⟩
      · have h4 : 64 < ep := by omega
        go_enter Try.func8, Try.ntmps8
        go_wp2_with fail
        (try simp only [Exit.inBlock, Exit.then]); refine bodyPost_ret (results_tmp2 rfl _ _ _) rfl ?_
        exact ⟨rfl, Below.refl _ _⟩
end Go.Proofs.Ytcdmkbjibcahcab
