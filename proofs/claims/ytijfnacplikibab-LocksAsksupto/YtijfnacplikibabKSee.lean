import Derived.Test.YtijfnacplikibabKTab
namespace Go.Proofs.Ytijfnacplikibab
open Go.RowKit
set_option linter.unusedVariables false
set_option linter.unusedSimpArgs false
set_option maxRecDepth 20000

set_option maxHeartbeats 1000000 in
theorem seeWaiting_any (w : World) (p b : Nat) (m : Int) (n : Nat) (V : Nat → Value) (L : Nat → List (Int × Int)) (ws wt : Int) (r : Nat) (e o md : Int) (gr : Bool) (tv : Value) (nu : Int) (h : TRep w p b m n V L ws wt) (q : QRep w r p e o md gr tv nu) :
    Calls Try.prog 42 #[.pointer (some ⟨r, 0, none⟩)] w fun e' w' => e' = .returned (.int .i64 0) ∧ QRep w' r p e o md gr tv wt ∧ Chg (· = r) w w' := by
  have c0 := q.c 0
  have c6 := q.c 6
  have f6 := q.f 6
  have d4 := h.c 4
  simp at c0 c6 d4
  have HQ := hide (q.num wt)
  clear h q
  go_enter Try.func42, Try.ntmps42
  go_wp2_with fail
  go_ret
  exact ⟨rfl, HQ.out, (Chg.refl _ w).set r 6 _ (.inl rfl)⟩
set_option maxHeartbeats 1000000 in
theorem seeWaiters_any (w : World) (p b : Nat) (m : Int) (n : Nat) (V : Nat → Value) (L : Nat → List (Int × Int)) (ws wt : Int) (r : Nat) (e : Nat) (o md : Int) (gr : Bool) (tv : Value) (nu : Int) (h : TRep w p b m n V L ws wt) (q : QRep w r p e o md gr tv nu) (he : e < n) (hb : (L (e * 2 + 1)).length ≤ 8000000000000) :
    Calls Try.prog 41 #[.pointer (some ⟨r, 0, none⟩)] w fun e' w' => ∃ v, e' = .returned (.int .i64 0) ∧ QRep w' r p e o md gr v nu ∧ Chg (· = r) w w' ∧ IRow w' v ((L (e * 2 + 1)).map Prod.fst) ∧ ∀ g, v.ownBlock = some g → w.heap.size ≤ g := by
  have HX := hide (exists_any w p b m n V L ws wt r e o md gr tv nu h q)
  have HO := hide fun x (hx : Below w.heap.size w x) => owners_any x (V (e * 2 + 1)) (L (e * 2 + 1)) ((h.below hx).own _ (by omega)) hb
  have HC : Hid (∀ x, Below w.heap.size w x → x.cell? ⟨r, 0, none⟩ = some (.pointer (some ⟨p, 0, none⟩)) ∧ x.cell? ⟨r, 1, none⟩ = some (.int .i64 (e : Int)) ∧ x.cell? ⟨p, 2, none⟩ = some (.slice (some ⟨b, 0, none⟩) n n) ∧ x.cell? ⟨b, e * 2 + 1, none⟩ = some (V (e * 2 + 1))) := hide fun x hx => ⟨(below_cell hx q.lt 0).trans (q.c 0), (below_cell hx q.lt 1).trans (q.c 1), (h.below hx).c 2, (h.below hx).lc (by omega)⟩
  have HR : Hid (∀ x, Below w.heap.size w x → x.cell? ⟨r, 5, none⟩ = some tv ∧ x.frozen? ⟨r, 5, none⟩ = false) := hide fun x hx => ⟨(below_cell hx q.lt 5).trans (q.c 5), ((q.kept (hx.block r q.lt)).f 5)⟩
  have HRL := hide q.lt
  have HQ := hide fun x (hx : Below w.heap.size w x) (v : Value) => (q.kept (hx.block r q.lt)).told v
  have hee : (decide (0 ≤ (e : Int)) && decide ((e : Int) < (n : Int))) = true := by simp; omega
  rw [hee] at HX
  have hi : 0 ≤ (e : Int) ∧ (e : Int) < (n : Int) := ⟨by omega, by omega⟩
  clear h q hee
  go_enter Try.func41, Try.ntmps41
  go_wp2_with (go_at_call 45; refine HX.out.mono ?_; rintro e' w2 ⟨rfl, hw2⟩; obtain ⟨c0, c1, d2, d3⟩ := HC.out _ hw2; have HB2 := hide hw2; clear HX hw2)
  have HBD := hide (Below.drew HB2.out)
  go_region_law (refine step_callTo rfl 51 #[V (e * 2 + 1)] (by kernel_rfl) (HO.out _ HBD.out) (fun e w' h => by obtain ⟨v, rfl, _⟩ := h; exact ⟨_, rfl⟩) ?_; rintro v4 w4 ⟨v, hv4, hi4, hb4, hl4⟩; injection hv4 with hv4; subst hv4; obtain ⟨a4, k4, h4, -, -⟩ := rowForm hi4; rw [List.length_map] at h4; subst h4; have HI4 := hide hi4; have HB4 := hide (HBD.out.trans (hb4.mono HBD.out.size)); have HL4 := hide hl4; obtain ⟨e0, e1, e2, e3⟩ := HC.out _ HB4.out; obtain ⟨e5, f5⟩ := HR.out _ HB4.out; clear hi4 hb4 hl4)
  all_goals
    have HQ4 := hide (HQ.out _ HB4.out (.slice a4 (L (e * 2 + 1)).length k4))
    go_wp2_with fail
    go_ret
    refine ⟨_, rfl, HQ4.out, (Chg.ofBelow (U := (· = r)) HB4.out).set r 5 _ (.inl rfl), HI4.out.kept fun g hg => Go.heap_setCell_other _ _ _ _ (show g ≠ r from fun h => ?_), fun g hg => Nat.le_trans HBD.out.size (HL4.out g hg)⟩
    have h1 := HL4.out g hg
    have h2 := HRL.out
    have h3 := HBD.out.size
    omega
set_option maxHeartbeats 1000000 in
theorem seeHolders_any (w : World) (p b : Nat) (m : Int) (n : Nat) (V : Nat → Value) (L : Nat → List (Int × Int)) (ws wt : Int) (r : Nat) (e : Nat) (o md : Int) (gr : Bool) (tv : Value) (nu : Int) (h : TRep w p b m n V L ws wt) (q : QRep w r p e o md gr tv nu) (he : e < n) (hb : (L (e * 2)).length ≤ 8000000000000) :
    Calls Try.prog 40 #[.pointer (some ⟨r, 0, none⟩)] w fun e' w' => ∃ v, e' = .returned (.int .i64 0) ∧ QRep w' r p e o md gr v (modeOf (L (e * 2))) ∧ Chg (· = r) w w' ∧ IRow w' v ((L (e * 2)).map Prod.fst) ∧ ∀ g, v.ownBlock = some g → w.heap.size ≤ g := by
  have HX := hide (exists_any w p b m n V L ws wt r e o md gr tv nu h q)
  have HO := hide fun x (hx : Below w.heap.size w x) => owners_any x (V (e * 2)) (L (e * 2)) ((h.below hx).own _ (by omega)) hb
  have HM := hide fun x (hx : Below w.heap.size w x) => mode_any x b (e * 2) (V (e * 2)) (L (e * 2)) ((h.below hx).lc (by omega)) ((h.below hx).own _ (by omega))
  have HC : Hid (∀ x, Below w.heap.size w x → x.cell? ⟨r, 0, none⟩ = some (.pointer (some ⟨p, 0, none⟩)) ∧ x.cell? ⟨r, 1, none⟩ = some (.int .i64 (e : Int)) ∧ x.cell? ⟨p, 2, none⟩ = some (.slice (some ⟨b, 0, none⟩) n n) ∧ x.cell? ⟨b, e * 2, none⟩ = some (V (e * 2))) := hide fun x hx => ⟨(below_cell hx q.lt 0).trans (q.c 0), (below_cell hx q.lt 1).trans (q.c 1), (h.below hx).c 2, (h.below hx).lc (by omega)⟩
  have HR : Hid (∀ x, Below w.heap.size w x → x.cell? ⟨r, 5, none⟩ = some tv ∧ x.frozen? ⟨r, 5, none⟩ = false ∧ x.cell? ⟨r, 6, none⟩ = some (.int .i64 nu) ∧ x.frozen? ⟨r, 6, none⟩ = false) := hide fun x hx => ⟨(below_cell hx q.lt 5).trans (q.c 5), ((q.kept (hx.block r q.lt)).f 5), (below_cell hx q.lt 6).trans (q.c 6), ((q.kept (hx.block r q.lt)).f 6)⟩
  have HRL := hide q.lt
  have HQ := hide fun x (hx : Below w.heap.size w x) (v : Value) (z : Int) => ((q.kept (hx.block r q.lt)).told v).num z
  have hee : (decide (0 ≤ (e : Int)) && decide ((e : Int) < (n : Int))) = true := by simp; omega
  rw [hee] at HX
  have hi : 0 ≤ (e : Int) ∧ (e : Int) < (n : Int) := ⟨by omega, by omega⟩
  clear h q hee
  go_enter Try.func40, Try.ntmps40
  go_wp2_with (go_at_call 45; refine HX.out.mono ?_; rintro e' w2 ⟨rfl, hw2⟩; obtain ⟨c0, c1, d2, d3⟩ := HC.out _ hw2; have HB2 := hide hw2; clear HX hw2)
  go_quiet (fail)
  have HBD := hide (below_drewN HB2.out nq)
  go_wp2_with (first
    | (go_at_call 51; refine (HO.out _ HBD.out).mono ?_; rintro e' w4 ⟨v, rfl, hi4, hb4, hl4⟩; obtain ⟨a4, k4, h4, -, -⟩ := rowForm hi4; rw [List.length_map] at h4; subst h4; have HI4 := hide hi4; have HB4 := hide (HBD.out.trans (hb4.mono HBD.out.size)); have HL4 := hide hl4; obtain ⟨e5, f5, e6, f6⟩ := HR.out _ HB4.out; clear hi4 hb4 hl4)
    | (go_at_call 52; refine (HM.out _ HB4.out).mono ?_; rintro e' w5 ⟨rfl, rfl⟩))
  have HQ4 := hide (HQ.out _ HB4.out (.slice a4 (L (e * 2)).length k4) (modeOf (L (e * 2))))
  go_ret
  refine ⟨_, rfl, HQ4.out, ((Chg.ofBelow (U := (· = r)) HB4.out).set r 5 _ (.inl rfl)).set r 6 _ (.inl rfl), (HI4.out.kept fun g hg => Go.heap_setCell_other _ _ _ _ (show g ≠ r from fun h => ?_)).kept fun g hg => Go.heap_setCell_other _ _ _ _ (show g ≠ r from fun h => ?_), fun g hg => Nat.le_trans HBD.out.size (HL4.out g hg)⟩
  · have h1 := HL4.out g hg
    have h2 := HRL.out
    have h3 := HBD.out.size
    omega
  · have h1 := HL4.out g hg
    have h2 := HRL.out
    have h3 := HBD.out.size
    omega
set_option maxHeartbeats 1000000 in
theorem seeHold_any (w : World) (p b : Nat) (m : Int) (n : Nat) (V : Nat → Value) (L : Nat → List (Int × Int)) (ws wt : Int) (r : Nat) (e : Nat) (o md : Int) (gr : Bool) (tv : Value) (nu : Int) (h : TRep w p b m n V L ws wt) (q : QRep w r p e o md gr tv nu) (he : e < n) :
    Calls Try.prog 39 #[.pointer (some ⟨r, 0, none⟩)] w fun e' w' => e' = .returned (.int .i64 0) ∧ QRep w' r p e o md (has (L (e * 2)) o) tv nu ∧ Chg (· = r) w w' := by
  have HX := hide (exists_any w p b m n V L ws wt r e o md gr tv nu h q)
  have HM := hide fun x (hx : Below w.heap.size w x) => holds_any x b (e * 2) (V (e * 2)) (L (e * 2)) o ((h.below hx).lc (by omega)) ((h.below hx).own _ (by omega))
  have HC : Hid (∀ x, Below w.heap.size w x → x.cell? ⟨r, 0, none⟩ = some (.pointer (some ⟨p, 0, none⟩)) ∧ x.cell? ⟨r, 1, none⟩ = some (.int .i64 (e : Int)) ∧ x.cell? ⟨p, 2, none⟩ = some (.slice (some ⟨b, 0, none⟩) n n) ∧ x.cell? ⟨r, 2, none⟩ = some (.int .i64 o)) := hide fun x hx => ⟨(below_cell hx q.lt 0).trans (q.c 0), (below_cell hx q.lt 1).trans (q.c 1), (h.below hx).c 2, (below_cell hx q.lt 2).trans (q.c 2)⟩
  have HR : Hid (∀ x, Below w.heap.size w x → x.cell? ⟨r, 4, none⟩ = some (.bool gr) ∧ x.frozen? ⟨r, 4, none⟩ = false) := hide fun x hx => ⟨(below_cell hx q.lt 4).trans (q.c 4), ((q.kept (hx.block r q.lt)).f 4)⟩
  have HQ := hide fun x (hx : Below w.heap.size w x) (z : Bool) => (q.kept (hx.block r q.lt)).grant z
  have hee : (decide (0 ≤ (e : Int)) && decide ((e : Int) < (n : Int))) = true := by simp; omega
  rw [hee] at HX
  have hi : 0 ≤ (e : Int) ∧ (e : Int) < (n : Int) := ⟨by omega, by omega⟩
  clear h q hee
  go_enter Try.func39, Try.ntmps39
  go_wp2_with (go_at_call 45; refine HX.out.mono ?_; rintro e' w2 ⟨rfl, hw2⟩; obtain ⟨c0, c1, d2, d3⟩ := HC.out _ hw2; have HB2 := hide hw2; clear HX hw2)
  have HBD := hide (Below.drew HB2.out)
  go_region_law (refine step_callTo rfl 46 #[.pointer (some ⟨b, e * 2, none⟩), .int .i64 o] (by kernel_rfl) (HM.out _ HBD.out) (fun e w' h => ⟨_, h.1⟩) ?_; rintro v4 w4 ⟨hv4, hb4⟩; injection hv4 with hv4; subst hv4; have HB4 := hide (HBD.out.trans (hb4.mono HBD.out.size)); obtain ⟨e5, f5⟩ := HR.out _ HB4.out; clear hb4)
  all_goals
    have HQ4 := hide (HQ.out _ HB4.out (has (L (e * 2)) o))
    go_wp2_with fail
    go_ret
    exact ⟨rfl, HQ4.out, (Chg.ofBelow (U := (· = r)) HB4.out).set r 4 _ (.inl rfl)⟩
/-- no such extent -/
theorem ext_no {n : Nat} {e : Int} (h : ¬ (0 ≤ e ∧ e < (n : Int))) : (decide (0 ≤ e) && decide (e < (n : Int))) = false := by
  by_cases h1 : 0 ≤ e <;> by_cases h2 : e < (n : Int) <;> simp [h1, h2] <;> omega
set_option maxHeartbeats 1000000 in
theorem see_no (w : World) (p b : Nat) (m : Int) (n : Nat) (V : Nat → Value) (L : Nat → List (Int × Int)) (ws wt : Int) (r : Nat) (e : Int) (o md : Int) (gr : Bool) (tv : Value) (nu : Int) (h : TRep w p b m n V L ws wt) (q : QRep w r p e o md gr tv nu) (he : ¬ (0 ≤ e ∧ e < (n : Int))) (K : Nat) (hK : K = 41 ∨ K = 40 ∨ K = 39 ∨ K = 37) :
    Calls Try.prog K #[.pointer (some ⟨r, 0, none⟩)] w fun e' w' => e' = .returned (.int .i64 2) ∧ Below w.heap.size w w' := by
  have HX := hide (exists_any w p b m n V L ws wt r e o md gr tv nu h q)
  rw [ext_no he] at HX
  clear h q he
  rcases hK with rfl | rfl | rfl | rfl
  · go_enter Try.func41, Try.ntmps41
    go_wp2_with (go_at_call 45; refine HX.out.mono ?_; rintro e' w2 ⟨rfl, hw2⟩; have HB2 := hide hw2; clear HX hw2)
    go_ret
    exact ⟨rfl, HB2.out⟩
  · go_enter Try.func40, Try.ntmps40
    go_wp2_with (go_at_call 45; refine HX.out.mono ?_; rintro e' w2 ⟨rfl, hw2⟩; have HB2 := hide hw2; clear HX hw2)
    go_ret
    exact ⟨rfl, HB2.out⟩
  · go_enter Try.func39, Try.ntmps39
    go_wp2_with (go_at_call 45; refine HX.out.mono ?_; rintro e' w2 ⟨rfl, hw2⟩; have HB2 := hide hw2; clear HX hw2)
    go_ret
    exact ⟨rfl, HB2.out⟩
  · go_enter Try.func37, Try.ntmps37
    go_wp2_with (go_at_call 45; refine HX.out.mono ?_; rintro e' w2 ⟨rfl, hw2⟩; have HB2 := hide hw2; clear HX hw2)
    go_ret
    exact ⟨rfl, HB2.out⟩
end Go.Proofs.Ytijfnacplikibab
