import Derived.Test.YtijfnacplikibabKAcq
import Derived.Test.YtijfnacplikibabKPush
namespace Go.Proofs.Ytijfnacplikibab
open Go.RowKit
set_option linter.unusedVariables false
set_option linter.unusedSimpArgs false
set_option maxRecDepth 20000

set_option maxHeartbeats 2000000 in
theorem acq_wait1 (w : World) (p b : Nat) (m : Int) (n : Nat) (V : Nat → Value) (L : Nat → List (Int × Int)) (ws wt : Int) (r : Nat) (o md : Int) (gr : Bool) (tv : Value) (nu : Int) (e : Nat) (h : TRep w p b m n V L ws wt) (q : QRep w r p e o md gr tv nu) (hm : md = 1 ∨ md = 2) (he : e < n) (hh : has (L (e * 2)) o = false) (hh1 : has (L (e * 2 + 1)) o = false) (hr : L (e * 2 + 1) ≠ []) (hf : wt < ws) (hw0 : 0 ≤ wt) (hws : ws ≤ 512) (hb : (L (e * 2)).length + (L (e * 2 + 1)).length ≤ 8000000000000 - 2) :
    Calls Try.prog 32 #[.pointer (some ⟨r, 0, none⟩)] w fun e' w' => e' = .returned (.int .i64 0) ∧ ∃ V', TRep w' p b m n V' (upd L (e * 2 + 1) (L (e * 2 + 1) ++ [(o, md)])) ws (wt + 1) ∧ QRep w' r p e o md gr tv nu ∧ Tr (· = r) w w' (TU p b n V) (TU p b n V') := by
  obtain ⟨c0, c1, c2, c3, d2, d3, d4⟩ := ac_of h q
  have HX := hide (exists_any w p b m n V L ws wt r e o md gr tv nu h q)
  have hee : (decide (0 ≤ (e : Int)) && decide ((e : Int) < (n : Int))) = true := by simp; omega
  rw [hee] at HX
  have HA := hide fun x (hx : Below w.heap.size w x) => ac_of (h.below hx) (q.kept (hx.block r q.lt))
  have H0 := hide fun x (hx : Below w.heap.size w x) => holds_any x b (e * 2) (V (e * 2)) (L (e * 2)) o ((h.below hx).lc (by omega)) ((h.below hx).own _ (by omega))
  have H1 := hide fun x (hx : Below w.heap.size w x) => waits_any x b (e * 2) (V (e * 2 + 1)) (L (e * 2 + 1)) o ((h.below hx).lc (by omega)) ((h.below hx).own _ (by omega))
  have hi : 0 ≤ (e : Int) ∧ (e : Int) < (n : Int) := ⟨by omega, by omega⟩
  rw [hh] at H0
  rw [hh1] at H1
  obtain ⟨ar, cr, er, hr1, hr2⟩ := rowForm (h.own (e * 2 + 1) (by omega))
  obtain ⟨ah, ch, eh, hh1', hh2'⟩ := rowForm (h.own (e * 2) (by omega))
  unfold maxLen at hr2 hh2'
  have HG := hide fun x (hx : Below w.heap.size w x) => goes_any x b (e * 2) (V (e * 2)) (L (e * 2)) md ((h.below hx).lc (by omega)) ((h.below hx).own _ (by omega))
  have HRW : Hid (∀ x, Below w.heap.size w x → x.cell? ⟨b, e * 2 + 1, none⟩ = some (.slice ar (L (e * 2 + 1)).length cr) ∧ x.cell? ⟨b, e * 2, none⟩ = some (.slice ah (L (e * 2)).length ch) ∧ TRep x p b m n V L ws wt) := hide fun x hx => ⟨by rw [← er]; exact (h.below hx).lc (by omega), by rw [← eh]; exact (h.below hx).lc (by omega), h.below hx⟩
  have hz : (((L (e * 2 + 1)).length : Int) == 0) = false := by
    have : ¬ ((L (e * 2 + 1)).length : Int) = 0 := by
      intro h0
      exact hr (List.length_eq_zero_iff.1 (by omega))
    simpa using this
  clear HG
  have hff : (wt ≥ ws) = False := by simp; omega
  have hff2 : (ws ≤ wt) = False := by simp; omega
  have hwr : IntKind.i64.wrap (wt + 1) = wt + 1 := by simp [IntKind.wrap, IntKind.bits, IntKind.signed]; omega
  have HTQ := hide fun x (hx : Below w.heap.size w x) => (⟨h.below hx, q.kept (hx.block r q.lt)⟩ : TRep x p b m n V L ws wt ∧ QRep x r p e o md gr tv nu)
  have HPU := hide fun x (hx : Below w.heap.size w x) z v' O (h1 : z.ownsRow 0 75 2 v' ((L (e * 2 + 1)).length + 1) (cvs (L (e * 2 + 1)) ++ [.int .i64 o, .int .i64 md])) (h2 : Upon (x.alloc O).drew z (V (e * 2 + 1)) v') => (h.below hx).push0 (q.kept (hx.block r q.lt)) (c := (o, md)) (by omega) h1 h2
  have HO := hide fun x (hx : Below w.heap.size w x) O => (rowKept (World.ownsRow.alloc ((h.below hx).own (e * 2 + 1) (by omega)) O) fun _ _ => rfl : (x.alloc O).drew.ownsRow 0 75 2 (V (e * 2 + 1)) (L (e * 2 + 1)).length (cvs (L (e * 2 + 1))))
  have HK := hide fun x (hx : Below w.heap.size w x) O => Lib.cell?_alloc_some O ((h.below hx).lc (k := e * 2 + 1) (by omega))
  rw [er] at HPU HO HK
  obtain ⟨i0, hi0, hz0, hz1, hz2⟩ := infoCl
  have hb1 : (L (e * 2 + 1)).length ≤ 8000000000000 - 2 := by omega
  clear h q hee hh hh1 hr hb
  have HBW := hide (Below.refl w.heap.size w)
  rcases hm with rfl | rfl
  · skip
    go_enter Try.func32, Try.ntmps32
    go_wp2_with (go_at_call 45; refine HX.out.mono ?_; rintro e' w2 ⟨rfl, hw2⟩; have HB2 := hide hw2; obtain ⟨g0, g1, g2, g3, g4, g5, g6⟩ := HA.out _ hw2; clear HX hw2)
    go_quiet (fail)
    have HB3 := hide (below_drewN HB2.out nq)
    generalize w2.drewN nq = w3 at *
    obtain ⟨k0, k1, k2, k3, k4, k5, k6⟩ := HA.out _ HB3.out
    go_wp2_with (first | (go_at_call 46; refine (H0.out _ HB3.out).mono ?_; rintro e' w4 ⟨rfl, hw4⟩; have HB4 := hide (HB3.out.trans (hw4.mono HB3.out.size)); obtain ⟨l0, l1, l2, l3, l4, l5, l6⟩ := HA.out _ HB4.out; clear H0 hw4) | (go_at_call 47; refine (H1.out _ HB4.out).mono ?_; rintro e' w5 ⟨rfl, hw5⟩; have HB5 := hide (HB4.out.trans (hw5.mono HB4.out.size)); obtain ⟨m0, m1, m2, m3, m4, m5, m6⟩ := HA.out _ HB5.out; obtain ⟨n1, n0, y0⟩ := HRW.out _ HB5.out; clear H1 hw5))
    go_quiet (fail)
    have HB7 := hide (below_drewN HB5.out nq)
    generalize w5.drewN nq = w6 at *
    obtain ⟨m0, m1, m2, m3, m4, m5, m6⟩ := HA.out _ HB7.out
    obtain ⟨n1, n0, y0⟩ := HRW.out _ HB7.out
    go_wp2_with fail
    have HOx := hide (HO.out _ HB7.out (.cells #[.int .i64 o, .int .i64 1] 75))
    have kk := HK.out _ HB7.out (.cells #[.int .i64 o, .int .i64 1] 75)
    go_region_law (refine step_appendC rfl (.tmp 39) (.tmp 44) 87 rfl 75 i0 (.agg #[.int .i64 0, .int .i64 0]) 2 16 Try.underlying87 hi0 hz0 hz1 hz2 rfl (by decide) _ _ _ rfl HOx.out ⟨w6.heap.size, 0, none⟩ 1 1 [.int .i64 o, .int .i64 1] rfl rfl (by decide) (cells_new _ _ _ _ rfl) (by simp [Value.oneCell']) (by unfold maxLen; omega) (by omega) ?_; intro v' w7 ho7 hu7; have HX7 := hide (HPU.out _ HB7.out _ _ _ ho7 hu7); obtain ⟨q7, z7⟩ := HX7.out.2.2.2; obtain ⟨a7, c7, e7, -, -⟩ := rowForm ho7; subst e7; clear ho7 hu7)
    all_goals
      have p4 := HX7.out.1.c 4
      have pf := HX7.out.1.f 4
      simp at p4
      go_wp2_with fail
      go_ret
      exact ⟨rfl, _, HX7.out.1.wait _, HX7.out.2.1.kept (Go.heap_setCell_other _ _ _ _ (show r ≠ p from fun e => HX7.out.1.rq HX7.out.2.1 (.inl e))), ((Tr.ofBelow HB7.out).trans (HX7.out.2.2.1.mono fun g h => h.elim)).set p 4 _ (.inl (.inl rfl))⟩
  · skip
    go_enter Try.func32, Try.ntmps32
    go_wp2_with (go_at_call 45; refine HX.out.mono ?_; rintro e' w2 ⟨rfl, hw2⟩; have HB2 := hide hw2; obtain ⟨g0, g1, g2, g3, g4, g5, g6⟩ := HA.out _ hw2; clear HX hw2)
    go_quiet (fail)
    have HB3 := hide (below_drewN HB2.out nq)
    generalize w2.drewN nq = w3 at *
    obtain ⟨k0, k1, k2, k3, k4, k5, k6⟩ := HA.out _ HB3.out
    go_wp2_with (first | (go_at_call 46; refine (H0.out _ HB3.out).mono ?_; rintro e' w4 ⟨rfl, hw4⟩; have HB4 := hide (HB3.out.trans (hw4.mono HB3.out.size)); obtain ⟨l0, l1, l2, l3, l4, l5, l6⟩ := HA.out _ HB4.out; clear H0 hw4) | (go_at_call 47; refine (H1.out _ HB4.out).mono ?_; rintro e' w5 ⟨rfl, hw5⟩; have HB5 := hide (HB4.out.trans (hw5.mono HB4.out.size)); obtain ⟨m0, m1, m2, m3, m4, m5, m6⟩ := HA.out _ HB5.out; obtain ⟨n1, n0, y0⟩ := HRW.out _ HB5.out; clear H1 hw5))
    go_quiet (fail)
    have HB7 := hide (below_drewN HB5.out nq)
    generalize w5.drewN nq = w6 at *
    obtain ⟨m0, m1, m2, m3, m4, m5, m6⟩ := HA.out _ HB7.out
    obtain ⟨n1, n0, y0⟩ := HRW.out _ HB7.out
    go_wp2_with fail
    have HOx := hide (HO.out _ HB7.out (.cells #[.int .i64 o, .int .i64 2] 75))
    have kk := HK.out _ HB7.out (.cells #[.int .i64 o, .int .i64 2] 75)
    go_region_law (refine step_appendC rfl (.tmp 39) (.tmp 44) 87 rfl 75 i0 (.agg #[.int .i64 0, .int .i64 0]) 2 16 Try.underlying87 hi0 hz0 hz1 hz2 rfl (by decide) _ _ _ rfl HOx.out ⟨w6.heap.size, 0, none⟩ 1 1 [.int .i64 o, .int .i64 2] rfl rfl (by decide) (cells_new _ _ _ _ rfl) (by simp [Value.oneCell']) (by unfold maxLen; omega) (by omega) ?_; intro v' w7 ho7 hu7; have HX7 := hide (HPU.out _ HB7.out _ _ _ ho7 hu7); obtain ⟨q7, z7⟩ := HX7.out.2.2.2; obtain ⟨a7, c7, e7, -, -⟩ := rowForm ho7; subst e7; clear ho7 hu7)
    all_goals
      have p4 := HX7.out.1.c 4
      have pf := HX7.out.1.f 4
      simp at p4
      go_wp2_with fail
      go_ret
      exact ⟨rfl, _, HX7.out.1.wait _, HX7.out.2.1.kept (Go.heap_setCell_other _ _ _ _ (show r ≠ p from fun e => HX7.out.1.rq HX7.out.2.1 (.inl e))), ((Tr.ofBelow HB7.out).trans (HX7.out.2.2.1.mono fun g h => h.elim)).set p 4 _ (.inl (.inl rfl))⟩
end Go.Proofs.Ytijfnacplikibab
